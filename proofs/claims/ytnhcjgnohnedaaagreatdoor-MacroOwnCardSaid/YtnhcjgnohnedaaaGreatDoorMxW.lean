/-
  Contracts of package macro: a group of parameters.
  Contracts of package macro: an argument, the walk.
  Contracts of package macro: the tokens that replace a macro.
-/
import Derived.Test.YtnhcjgnohnedaaaGreatDoorMxVb
import Derived.Test.YtnhcjgnohnedaaaGreatDoorMxVc
import Derived.Deep.LoopGhost
namespace Go.Proofs.YtnhcjgnohnedaaaGreatDoor
open Go.RowKit

namespace Mx
/-- M, and the map of places. -/
def plus (M : Nat → Prop) (mb k : Nat) : Prop := M k ∨ k = mb
def restP (k : Nat) (text : Bool) (pl : Pl) (n : Nat) (s : St) : Res (Pl × Par) := (params k text pl n >>= fun r => (pure (r.1, ⟨text, r.2⟩) : M (Pl × Par))) s
theorem grp_bad {f : Nat} {pl : Pl} {s : St} {e : Flt} (h : readName s = .bad e) : parGroup f pl s = .bad e := by simp [parGroup, bind, M.bind, h]
theorem grp_no {f : Nat} {pl : Pl} {s s1 : St} {x : Tv} (h : readName s = .ok x s1) (h1 : ¬ (x.t = sExpr ∨ x.t = sText)) : parGroup f pl s = .bad (failAt 11 x) := by simp [parGroup, bind, M.bind, h, h1, bad]
theorem grp_ok {f : Nat} {pl : Pl} {s s1 : St} {x : Tv} {text : Bool} (h : readName s = .ok x s1) (h1 : x.t = sExpr ∨ x.t = sText) (ht : decide (x.t = sText) = text) : parGroup f pl s = restP f text pl 0 s1 := by subst ht; simp [parGroup, restP, bind, M.bind, h, h1]
theorem par_bad1 {k n : Nat} {text : Bool} {pl : Pl} {s : St} {e : Flt} (h : readName s = .bad e) : restP (k + 1) text pl n s = .bad e := by simp [restP, params, bind, M.bind, h]
theorem par_twice {k n : Nat} {text : Bool} {pl : Pl} {s s1 : St} {x : Tv} (h : readName s = .ok x s1) (h1 : 0 < plIdx pl x.t) : restP (k + 1) text pl n s = .bad (failAt 14 x) := by simp [restP, params, bind, M.bind, h, h1, bad]
theorem par_bad2 {k n : Nat} {text : Bool} {pl : Pl} {s s1 : St} {x : Tv} {e : Flt} (h : readName s = .ok x s1) (h1 : ¬ 0 < plIdx pl x.t) (h2 : read s1 = .bad e) : restP (k + 1) text pl n s = .bad e := by simp [restP, params, bind, M.bind, h, h1, h2]
theorem par_no {k n : Nat} {text : Bool} {pl : Pl} {s s1 s2 : St} {x y : Tv} (h : readName s = .ok x s1) (h1 : ¬ 0 < plIdx pl x.t) (h2 : read s1 = .ok y s2) (h3 : (text || !isSign y (str [44])) = true) (h4 : isSign y (str [41]) = false) : restP (k + 1) text pl n s = .bad (failAt 11 y) := by
  simp [restP, params, bind, M.bind, h, h1, h2, h3, demand, h4, bad]
theorem par_end {k n : Nat} {text : Bool} {pl : Pl} {s s1 s2 : St} {x y : Tv} (h : readName s = .ok x s1) (h1 : ¬ 0 < plIdx pl x.t) (h2 : read s1 = .ok y s2) (h3 : (text || !isSign y (str [44])) = true) (h4 : isSign y (str [41]) = true) : restP (k + 1) text pl n s = .ok (pl ++ [(x.t, text)], ⟨text, n + 1⟩) s2 := by
  simp [restP, params, bind, M.bind, h, h1, h2, h3, demand, h4, pure]
theorem par_more {k n : Nat} {text : Bool} {pl : Pl} {s s1 s2 : St} {x y : Tv} (h : readName s = .ok x s1) (h1 : ¬ 0 < plIdx pl x.t) (h2 : read s1 = .ok y s2) (h3 : (text || !isSign y (str [44])) = false) : restP (k + 1) text pl n s = restP k text (pl ++ [(x.t, text)]) (n + 1) s2 := by
  simp [restP, params, bind, M.bind, h, h1, h2, h3]
theorem readName_steps {s s1 : St} {x : Tv} (h : readName s = .ok x s1) : s1.steps = s.steps + 1 := by
  cases hr : read s with
  | bad e => rw [readName_bad hr] at h; cases h
  | ok y s2 =>
    cases hi : isName y
    · rw [readName_no hr hi] at h; cases h
    · rw [readName_ok hr hi] at h; injection h with h3 h4; subst h4; exact read_steps hr
/-- How readParameters ends. -/
def EndsG (B b σ : Nat) (M P : Nat → Prop) (mb : Nat) (w : World) (R : Res (Pl × Par)) (e : Ending) (w' : World) : Prop :=
  ∃ M', Grows w M M' ∧ Turns (plus M mb) w w' ∧ match R with
  | .ok a s => e = .returned (.agg #[.bool a.2.text, .int .i64 a.2.count]) ∧ Places w' mb a.1 ∧ a.1.length ≤ s.steps ∧ a.2.count ≤ a.1.length ∧ Holds w' B b σ M' P s
  | .bad f => e = .panicked [{ v := .iface 27 (.agg #[.int .i64 f.code, .string f.name, .int .i64 f.line, .int .i64 f.col]), recovered := false }]
theorem endsG_bad {B b σ : Nat} {M P : Nat → Prop} {mb : Nat} {w w' : World} {R : Res (Pl × Par)} {f : Flt} {e : Ending} (hR : R = .bad f) (ht : Turns (plus M mb) w w')
    (he : e = .panicked [{ v := .iface 27 (.agg #[.int .i64 f.code, .string f.name, .int .i64 f.line, .int .i64 f.col]), recovered := false }]) : EndsG B b σ M P mb w R e w' := by
  rw [hR]; exact ⟨M, Grows.refl _ _, ht, he⟩
/-- Between two parameters. -/
structure PRnd (w : World) (B b σ : Nat) (M P : Nat → Prop) (R : Res (Pl × Par)) (text : Bool) (mb rb gb k n : Nat) (pl : Pl) (wr : World) (s' : St) (M' : Nat → Prop) : Prop where
  eq : R = restP k text pl n s'
  fuel : 200001 ≤ k + s'.steps
  H : Holds wr B b σ M' (also (also P rb) gb) s'
  G : Grows w M M'
  T : Turns (plus M mb) w wr
  zr : wr.heap[rb]? = some (.cells #[.bool false, .int .i64 0] 131)
  zg : wr.heap[gb]? = some (.cells #[.bool text, .int .i64 n] 131)
  pls : Places wr mb pl
  len : pl.length ≤ s'.steps
  nn : n ≤ pl.length
theorem plus_grows {w : World} {M M' : Nat → Prop} {mb : Nat} (h : Grows w M M') : Grows w (plus M mb) (plus M' mb) := fun k hk => by
  rcases hk with hk | hk
  · rcases h k hk with h1 | h1
    · exact Or.inl (Or.inl h1)
    · exact Or.inr h1
  · exact Or.inl (Or.inr hk)
theorem plus_l {M : Nat → Prop} {mb k : Nat} (h : M k) : plus M mb k := Or.inl h
/-- A place more in the map. -/
theorem Holds.placed {w w1 : World} {B b σ : Nat} {M P : Nat → Prop} {s : St} (H : Holds w B b σ M P s) {mb : Nat} (hP : P mb) (gr : w.grownBy w1 (some mb)) (hne : NotExp w (some mb)) : Holds w1 B b σ M P s :=
  H.keep ((Turns.of_grown gr hne).mono (fun k hk => by injection hk with hk; exact hk ▸ hP)) (Grows.refl _ _) (fun k hk => ⟨(H.lowP k hk).1, Nat.lt_of_lt_of_le (H.lowP k hk).2.1 gr.size⟩) (Nat.le_refl _)
end Mx
end Go.Proofs.YtnhcjgnohnedaaaGreatDoor

namespace Go.Proofs.YtnhcjgnohnedaaaGreatDoor
open Go.RowKit

namespace Mx
theorem Turns.step {w w1 w2 : World} {M M1 : Nat → Prop} (h : Turns M w w1) (hG : Grows w M M1) (h' : Turns M1 w1 w2) : Turns M w w2 := h.trans hG h'
theorem four_cases (x : Tv) (text : Bool) (n : Nat) (hz : (x.t = str [41] ∨ (x.t = str [44] ∧ text = false)) → ((n : Int) == 0) = false) :
    ((x.t.toList == [41]) = true ∧ ((n : Int) == 0) = false) ∨ ((x.t.toList == [41]) = false ∧ (x.t.toList == [44]) = true ∧ text = false ∧ ((n : Int) == 0) = false) ∨ ((x.t.toList == [41]) = false ∧ (x.t.toList == [44]) = true ∧ text = true) ∨ ((x.t.toList == [41]) = false ∧ (x.t.toList == [44]) = false) := by
  by_cases h1 : x.t = str [41]
  · exact Or.inl ⟨lit_tt h1, hz (Or.inl h1)⟩
  · by_cases h2 : x.t = str [44]
    · cases text
      · exact Or.inr (Or.inl ⟨lit_ff h1, lit_tt h2, rfl, hz (Or.inr ⟨h2, rfl⟩)⟩)
      · exact Or.inr (Or.inr (Or.inl ⟨lit_ff h1, lit_tt h2, rfl⟩))
    · exact Or.inr (Or.inr (Or.inr ⟨lit_ff h1, lit_ff h2⟩))
theorem Turns.grownNew {M : Nat → Prop} {w w1 w2 : World} {row : Option Nat} (h : Turns M w w1) (hg : w1.grownBy w2 row) (hn : ∀ k, row = some k → w.heap.size ≤ k) : Turns M w w2 :=
  ⟨hg.os.trans h.os, hg.tape.trans h.tape, hg.output.trans h.output, Nat.le_trans h.size hg.size, fun k hk hM => (hg.block k (Nat.lt_of_lt_of_le hk h.size) (fun e => by have := hn k e.symm; omega)).trans (h.block k hk hM), fun k c hc => by
    obtain ⟨c1, h1, e1⟩ := h.exp k c hc
    have hk := (Array.getElem?_eq_some_iff.1 hc).1
    exact ⟨c1, (hg.block k (Nat.lt_of_lt_of_le hk h.size) (fun e => by have := hn k e.symm; omega)).trans h1, e1⟩⟩
theorem drew_heap (w : World) (k : Nat) : w.drew.heap[k]? = w.heap[k]? := rfl
theorem drew_blk {w : World} {g : Nat} {o : Obj} (h : w.heap[g]? = some o) : w.drew.heap[g]? = some o := h
theorem opens_sl {w : World} {B : Nat} {v : Value} {op : List ByteArray} (h : Opens w B v op) : ∃ A c, v = .slice A op.length c := by
  rcases h.2 with ⟨rfl, h0⟩ | ⟨g, cap, cur, rfl, -⟩
  · exact ⟨none, 0, by rw [h0]⟩
  · exact ⟨_, _, rfl⟩
set_option maxRecDepth 100000 in
set_option maxHeartbeats 16000000 in
theorem readArgument_any {w : World} {B b σ : Nat} {M P : Nat → Prop} {s : St} (text : Bool) (f0 : Nat) (hf : 200001 ≤ f0 + s.steps) (H : Holds w B b σ M P s) :
    Calls Tryz.prog 93 #[.pointer (some ⟨b, 0, none⟩), .bool text] w (EndsA B b σ M P w (argument f0 text [] [] s)) := by
  have hBs := H.Bs
  have R0 : Hid (ARnd w B b σ M P (argument f0 text [] [] s) text f0 (.slice none 0 0) (.slice none 0 0) (w.alloc (.cells #[.int .i64 0, .string ⟨#[]⟩, .int .i64 0, .int .i64 0, .int .i64 0, .int .i64 0] 41)) [] [] s M) :=
    Lib.hid ⟨rfl, hf, ((H.own (.cells #[.int .i64 0, .string ⟨#[]⟩, .int .i64 0, .int .i64 0, .int .i64 0, .int .i64 0] 41)).noRow (v := .slice none 0 0) rfl).noRow (v := .slice none 0 0) rfl, Grows.refl _ _, Turns.alloc _ _ _, heap_alloc_new w _, World.ownsRow_nil _ _ _ _, World.ownsRow_nil _ _ _ _, fun k hk => by simp [Value.ownBlock] at hk, fun k hk => by simp [Value.ownBlock] at hk, Nat.zero_le _, Nat.le_refl _, fun x hx => by simp at hx⟩
  obtain ⟨R, hR⟩ : ∃ R, argument f0 text [] [] s = R := ⟨_, rfl⟩
  rw [hR] at R0 ⊢
  clear H hf hR
  go_enter Tryz.func93, Tryz.ntmps93
  go_wp2_with fail
  go_loopg [4, 6] f0 (fun k va vo wr => ∃ op acc s' M', Hid (ARnd w B b σ M P R text k va vo wr op acc s' M'))
  case atStart => exact ⟨_, _, _, _, R0⟩
  case round =>
    clear R0
    obtain ⟨op, acc, s', M', hr⟩ := hrel
    cases gk with
    | zero => exact absurd hr.out.fuel (by have := hr.out.H.b1; omega)
    | succ f =>
      have C1 := Lib.hid (read_any hr.out.H)
      go_wp2_with fail
      refine C1.out.mono ?_; rintro e w1 ⟨M1, hG, ht, h⟩
      have HT := Lib.hid (hr.out.T.trans hr.out.G ht)
      cases hq : read s' with
      | bad g =>
        rw [hq] at h
        obtain rfl := h
        exact ⟨rfl, endsA_bad (hr.out.eq.trans (arg_bad hq)) HT.out rfl⟩
      | ok x s1 =>
        rw [hq] at h
        obtain ⟨v, rfl, ⟨rfl, hx⟩, hh⟩ := h
        have hp0 := hr.out.H.lowP
        have z1 : w1.heap[w.heap.size]? = some (.cells #[.int .i64 0, .string ⟨#[]⟩, .int .i64 0, .int .i64 0, .int .i64 0, .int .i64 0] 41) := (ht.block w.heap.size (hp0 _ (Or.inl (Or.inl (Or.inr rfl)))).2.1 (hp0 _ (Or.inl (Or.inl (Or.inr rfl)))).2.2).trans hr.out.z
        have own1 : TokOwn w1 B u4 acc := row_keep hr.out.own (fun k hk => ht.block k (hp0 k (Or.inl (Or.inr hk))).2.1 (hp0 k (Or.inl (Or.inr hk))).2.2)
        have opn1 : Opens w1 B u6 op := hr.out.opn.keep hr.out.H ht
        have GG := Lib.hid (hr.out.G.trans hG hr.out.T.size)
        have HQ := Lib.hid hq
        have HX := Lib.hid hx
        have hst := read_steps hq
        have LN := hr.out.len
        have LO := hr.out.lop
        have hB1 := hh.b1
        have HH := Lib.hid ((hh.slack (show σ ≤ σ + 4 by omega)).alloc (.cells #[.int .i64 x.k, .string x.t, .int .i64 x.p, .int .i64 x.q, .int .i64 x.a, .int .i64 x.c] 41))
        have FU : Hid (200001 ≤ f + s1.steps) := Lib.hid (by have := hr.out.fuel; omega)
        have hsz : w.heap.size < w1.heap.size := (Array.getElem?_eq_some_iff.1 z1).1
        have OA := Lib.hid (own1.alloc (.cells #[.int .i64 x.k, .string x.t, .int .i64 x.p, .int .i64 x.q, .int .i64 x.a, .int .i64 x.c] 41))
        have PA := Lib.hid (opn1.alloc (.cells #[.int .i64 x.k, .string x.t, .int .i64 x.p, .int .i64 x.q, .int .i64 x.a, .int .i64 x.c] 41))
        have ZA := Lib.hid (blk_alloc z1 (.cells #[.int .i64 x.k, .string x.t, .int .i64 x.p, .int .i64 x.q, .int .i64 x.a, .int .i64 x.c] 41))
        have TA := Lib.hid (HT.out.then (Turns.alloc M w1 (.cells #[.int .i64 x.k, .string x.t, .int .i64 x.p, .int .i64 x.q, .int .i64 x.a, .int .i64 x.c] 41)))
        have hBw : B ≤ w1.heap.size := hh.Bs
        have hc3 : Hid (acc.length + 1 ≤ maxLen) := Lib.hid (by unfold maxLen; omega)
        have hc4 : Hid ((acc.length + 1) * 56 ≤ 140737488355328) := Lib.hid (by omega)
        have HONE : Hid (∀ u ∈ ([.int .i64 x.k, .string x.t, .int .i64 x.p, .int .i64 x.q, .int .i64 x.a, .int .i64 x.c] : List Value), u.oneCell' = true) := by
          intro u hu; simp at hu; rcases hu with rfl | rfl | rfl | rfl | rfl | rfl <;> rfl
        obtain ⟨i0, hi, hz0, hz1, hz2⟩ := info_parts info_tok
        have HSZ := Lib.hid hsz
        have HVN : Hid (u6.ownBlock ≠ some w1.heap.size) := Lib.hid (fun e => by have := (World.ownsRow.lt opn1 _ e).2; omega)
        have HBW := Lib.hid hBw
        have HST : Hid (acc.length + 1 ≤ s1.steps) := Lib.hid (by omega)
        clear hq ht hG hx hh z1 own1 opn1 hp0 hst LN LO hB1 hsz hBw
        unfold Tv.val
        by_cases hk4 : x.k = 4
        · have e4 : (x.k == 4) = true := by simpa using hk4
          by_cases hret : (x.t = str [41] ∨ (x.t = str [44] ∧ text = false)) ∧ op = []
          · obtain ⟨hen, rfl⟩ := hret
            have HE := Lib.hid (hr.out.eq.trans (arg_ret HQ.out hk4 ⟨hen, rfl⟩))
            obtain ⟨A6, c6, rfl⟩ := row_nil hr.out.opn
            obtain ⟨⟨q0, q1, q2, q3, q4, q5⟩, ⟨y0, y1, y2, y3, y4, y5⟩, ql⟩ := blk6 ZA.out
            have hp0 := HH.out.lowP
            have D1 : Hid (TokOwn (((((((w1.alloc (.cells #[.int .i64 x.k, .string x.t, .int .i64 x.p, .int .i64 x.q, .int .i64 x.a, .int .i64 x.c] 41)).setCell ⟨w.heap.size, 0, none⟩ (.int .i64 x.k)).setCell ⟨w.heap.size, 1, none⟩ (.string x.t)).setCell ⟨w.heap.size, 2, none⟩ (.int .i64 x.p)).setCell ⟨w.heap.size, 3, none⟩ (.int .i64 x.q)).setCell ⟨w.heap.size, 4, none⟩ (.int .i64 x.a)).setCell ⟨w.heap.size, 5, none⟩ (.int .i64 x.c)).drew B u4 acc) :=
              Lib.hid (row_keep OA.out (fun k hk => by
                have := hr.out.nw k hk
                have hne : k ≠ w.heap.size := by omega
                refine (drew_heap _ _).trans ?_
                rw [Below.heap_setCell _ _ _ _ hne, Below.heap_setCell _ _ _ _ hne, Below.heap_setCell _ _ _ _ hne, Below.heap_setCell _ _ _ _ hne, Below.heap_setCell _ _ _ _ hne, Below.heap_setCell _ _ _ _ hne]))
            have hfin : Hid (EndsA B b σ M P w R (.returned (.tuple #[u4, x.val])) (((((((w1.alloc (.cells #[.int .i64 x.k, .string x.t, .int .i64 x.p, .int .i64 x.q, .int .i64 x.a, .int .i64 x.c] 41)).setCell ⟨w.heap.size, 0, none⟩ (.int .i64 x.k)).setCell ⟨w.heap.size, 1, none⟩ (.string x.t)).setCell ⟨w.heap.size, 2, none⟩ (.int .i64 x.p)).setCell ⟨w.heap.size, 3, none⟩ (.int .i64 x.q)).setCell ⟨w.heap.size, 4, none⟩ (.int .i64 x.a)).setCell ⟨w.heap.size, 5, none⟩ (.int .i64 x.c)).drew) := Lib.hid (by
              rw [HE.out]
              exact ⟨M1, GG.out, (TA.out.new6 (Nat.le_refl _) _ _ _ _ _ _).drew, u4, rfl, HX.out, hr.out.fit, D1.out, fun k hk => Nat.le_of_lt (hr.out.nw k hk), by have h1 := HST.out; have h2 := HH.out.b1; show acc.length ≤ 200000; omega, (HH.out.wrote6 (Or.inl (Or.inl (Or.inr rfl))) _ _ _ _ _ _).drew.less (fun k hk => by
                rcases hk with hk | hk
                · exact Or.inl (Or.inl (Or.inl hk))
                · exact Or.inl (Or.inr hk))⟩)
            have K6 := Lib.hid (set6 ZA.out (.int .i64 x.k) (.string x.t) (.int .i64 x.p) (.int .i64 x.q) (.int .i64 x.a) (.int .i64 x.c))
            clear D1 hk4 hp0
            rcases hen with h41 | ⟨h44, rfl⟩
            · have g1 := lit_tt h41
              clear h41
              go_wp2_with fail
              have XC := (blk6 (heap_alloc_new w1 (.cells #[.int .i64 x.k, .string x.t, .int .i64 x.p, .int .i64 x.q, .int .i64 x.a, .int .i64 x.c] 41))).1
              obtain ⟨xa, xb, xc, xd, xe, xf⟩ := XC
              have hxl : w1.heap.size < (w1.alloc (.cells #[.int .i64 x.k, .string x.t, .int .i64 x.p, .int .i64 x.q, .int .i64 x.a, .int .i64 x.c] 41)).heap.size := by simp
              have hne1 : ¬ w.heap.size = w1.heap.size := by have := HSZ.out; omega
              generalize w1.alloc (.cells #[.int .i64 x.k, .string x.t, .int .i64 x.p, .int .i64 x.q, .int .i64 x.a, .int .i64 x.c] 41) = W at *
              generalize w1.heap.size = e1 at *
              go_region
              go_wp2_with fail
              obtain ⟨⟨p0, p1, p2, p3, p4, p5⟩, -, -⟩ := blk6 (drew_blk K6.out)
              exact bodyPost_ret (v := .tuple #[u4, x.val]) (by simp [results, Tryz.results93, go_sem, Tv.val, p0, p1, p2, p3, p4, p5]) rfl hfin.out
            · have g1 := lit_ff (t := x.t) (l := [41]) (by rw [h44]; decide)
              have g2 := lit_tt h44
              clear h44
              go_wp2_with fail
              have XC := (blk6 (heap_alloc_new w1 (.cells #[.int .i64 x.k, .string x.t, .int .i64 x.p, .int .i64 x.q, .int .i64 x.a, .int .i64 x.c] 41))).1
              obtain ⟨xa, xb, xc, xd, xe, xf⟩ := XC
              have hxl : w1.heap.size < (w1.alloc (.cells #[.int .i64 x.k, .string x.t, .int .i64 x.p, .int .i64 x.q, .int .i64 x.a, .int .i64 x.c] 41)).heap.size := by simp
              have hne1 : ¬ w.heap.size = w1.heap.size := by have := HSZ.out; omega
              generalize w1.alloc (.cells #[.int .i64 x.k, .string x.t, .int .i64 x.p, .int .i64 x.q, .int .i64 x.a, .int .i64 x.c] 41) = W at *
              generalize w1.heap.size = e1 at *
              go_region
              go_wp2_with fail
              obtain ⟨⟨p0, p1, p2, p3, p4, p5⟩, -, -⟩ := blk6 (drew_blk K6.out)
              exact bodyPost_ret (v := .tuple #[u4, x.val]) (by simp [results, Tryz.results93, go_sem, Tv.val, p0, p1, p2, p3, p4, p5]) rfl hfin.out
          · have CB := Lib.hid (bracketed_any x HH.out.env' HX.out PA.out HH.out.Bs (by have := hr.out.lop; have := HST.out; have := HH.out.b1; omega))
            obtain ⟨A6, c6, hvo⟩ := opens_sl hr.out.opn
            obtain ⟨N6, hN6⟩ : ∃ N6, N6 = op.length := ⟨_, rfl⟩
            rw [← hN6] at hvo
            have hpos : (x.t = str [41] ∨ (x.t = str [44] ∧ text = false)) → ((N6 : Int) == 0) = false := fun h => by
              have : op ≠ [] := fun e => hret ⟨h, e⟩
              have : op.length ≠ 0 := fun e => this (List.eq_nil_of_length_eq_zero e)
              simp; omega
            have HVO := Lib.hid hvo
            have H4 := Lib.hid (four_cases x text N6 hpos)
            have HN6 := Lib.hid hN6
            have HK4 := Lib.hid hk4
            have HRET := Lib.hid hret
            subst hvo
            unfold Tv.val at CB
            cases hbk : bracketed op x with
            | none =>
              rw [hbk] at CB
              have HE := Lib.hid (hr.out.eq.trans (arg_none HQ.out hk4 hret hbk))
              clear hret hk4 hbk hN6 hpos
              rcases H4.out with ⟨g1, hz⟩ | ⟨g1, g2, rfl, hz⟩ | ⟨g1, g2, rfl⟩ | ⟨g1, g2⟩ <;> go_wp2_with fail
              all_goals (refine CB.out.mono ?_; rintro e w2 ⟨rfl, hb⟩; exact ⟨rfl, endsA_bad HE.out (TA.out.then (Turns.of_below hb _)) rfl⟩)
            | some op' =>
              rw [hbk] at CB
              have HE := Lib.hid (hr.out.eq.trans (arg_some HQ.out hk4 hret hbk))
              have HL := Lib.hid (brk_len hbk)
              clear hret hk4 hbk hN6 hpos
              rcases H4.out with ⟨g1, hz⟩ | ⟨g1, g2, rfl, hz⟩ | ⟨g1, g2, rfl⟩ | ⟨g1, g2⟩ <;> go_wp2_with fail
              all_goals (refine CB.out.mono ?_; rintro e w2 ⟨v', rfl, opn2, gr2, loc2⟩)
              all_goals
                have HH2 := Lib.hid (HH.out.grew gr2 loc2 (fun k hk => (World.ownsRow.lt opn2 k hk).2) (notExp_row PA.out (by decide)))
                have OA2 := Lib.hid (row_keep OA.out (fun k hk => gr2.block k (World.ownsRow.lt OA.out k hk).2 (fun e => rows_ne OA.out PA.out (by decide) k hk e.symm)))
                have OP2 := Lib.hid opn2
                have ZA2 := Lib.hid ((gr2.block w.heap.size (by have := HSZ.out; simp; omega) (fun e => by have := hr.out.nwo _ e.symm; omega)).trans ZA.out)
                have TA2 := Lib.hid (TA.out.grownNew gr2 (fun k hk => Nat.le_of_lt (hr.out.nwo k hk)))
                have NW2 : Hid (∀ k, v'.ownBlock = some k → w.heap.size < k) := Lib.hid (fun k hk => by
                  rcases loc2 with h | h | ⟨g, h, hg⟩
                  · exact hr.out.nwo k (h ▸ hk)
                  · rw [h] at hk; cases hk
                  · rw [h] at hk; injection hk with hk; have := HSZ.out; simp at hg; omega)
                obtain ⟨⟨xa, xb, xc, xd, xe, xf⟩, -, xl⟩ := blk6 ((gr2.block w1.heap.size (by simp) (fun e => HVN.out e.symm)).trans (heap_alloc_new w1 (.cells #[.int .i64 x.k, .string x.t, .int .i64 x.p, .int .i64 x.q, .int .i64 x.a, .int .i64 x.c] 41)))
                have OW := Lib.hid (World.ownsRow.alloc OA2.out (.cells #[.int .i64 x.k, .string x.t, .int .i64 x.p, .int .i64 x.q, .int .i64 x.a, .int .i64 x.c] 41))
                have KC := Lib.hid (new_cells (heap_alloc_new w2 (.cells #[.int .i64 x.k, .string x.t, .int .i64 x.p, .int .i64 x.q, .int .i64 x.a, .int .i64 x.c] 41)))
                have hc5 : Hid (B ≤ (w2.alloc (.cells #[.int .i64 x.k, .string x.t, .int .i64 x.p, .int .i64 x.q, .int .i64 x.a, .int .i64 x.c] 41)).heap.size) := Lib.hid (by have := HH2.out.Bs; simp; omega)
                clear opn2 gr2 loc2
                go_wp2_with (at_builtin; refine wpList_append_own_at _ rfl _ _ 22 rfl B 41 i0 (.agg #[.int .i64 0, .string ⟨#[]⟩, .int .i64 0, .int .i64 0, .int .i64 0, .int .i64 0]) 6 56 Tryz.underlying22 hi hz0 hz1 hz2 rfl (by decide) _ _ _ rfl OW.out ⟨w2.heap.size, 0, none⟩ 1 1 ([.int .i64 x.k, .string x.t, .int .i64 x.p, .int .i64 x.q, .int .i64 x.a, .int .i64 x.c]) rfl rfl KC.out HONE.out ?c3 ?c4 ?c5 ?_)
                (case c3 => exact hc3.out); (case c4 => exact hc4.out); (case c5 => exact hc5.out); intro v1 w3 own1 gr1 _ loc1
                go_wp2_with fail
                go_roundg f
                case measure => omega
                case rel =>
                  refine ⟨op', _, s1, M1, ARnd.more HX.out (HH2.out.alloc (.cells #[.int .i64 x.k, .string x.t, .int .i64 x.p, .int .i64 x.q, .int .i64 x.a, .int .i64 x.c] 41)) GG.out (TA2.out.then (Turns.alloc M _ _)) (blk_alloc ZA2.out _) (World.ownsRow.alloc OA2.out _) (OP2.out.alloc _) hr.out.nw NW2.out HST.out (by have := hr.out.lop; have := HL.out; omega) hr.out.fit FU.out HE.out own1 gr1 ?_⟩
                  rcases loc1 with h | h
                  · exact Or.inl h
                  · exact Or.inr ⟨_, h, by first | exact Nat.le_refl _ | (simp; done) | (simp; omega)⟩
        · have e4 : (x.k == 4) = false := by simpa using hk4
          have HE := Lib.hid (hr.out.eq.trans (arg_k HQ.out hk4))
          have OW : Hid (((w1.alloc (.cells #[.int .i64 x.k, .string x.t, .int .i64 x.p, .int .i64 x.q, .int .i64 x.a, .int .i64 x.c] 41)).alloc (.cells #[.int .i64 x.k, .string x.t, .int .i64 x.p, .int .i64 x.q, .int .i64 x.a, .int .i64 x.c] 41)).ownsRow B 41 6 u4 acc.length (rowV acc)) := Lib.hid (OA.out.alloc (.cells #[.int .i64 x.k, .string x.t, .int .i64 x.p, .int .i64 x.q, .int .i64 x.a, .int .i64 x.c] 41))
          have KC : Hid (∀ j u, ([.int .i64 x.k, .string x.t, .int .i64 x.p, .int .i64 x.q, .int .i64 x.a, .int .i64 x.c])[j]? = some u → ((w1.alloc (.cells #[.int .i64 x.k, .string x.t, .int .i64 x.p, .int .i64 x.q, .int .i64 x.a, .int .i64 x.c] 41)).alloc (.cells #[.int .i64 x.k, .string x.t, .int .i64 x.p, .int .i64 x.q, .int .i64 x.a, .int .i64 x.c] 41)).cell? ((⟨w1.heap.size + 1, 0, none⟩ : Addr).add j) = some u) := Lib.hid (new_cells (blk_new2 w1 _ _))
          have hc5 : Hid (B ≤ ((w1.alloc (.cells #[.int .i64 x.k, .string x.t, .int .i64 x.p, .int .i64 x.q, .int .i64 x.a, .int .i64 x.c] 41)).alloc (.cells #[.int .i64 x.k, .string x.t, .int .i64 x.p, .int .i64 x.q, .int .i64 x.a, .int .i64 x.c] 41)).heap.size) := Lib.hid (by have := HBW.out; simp; omega)
          clear hk4
          go_wp2_with (at_builtin; refine wpList_append_own_at _ rfl _ _ 22 rfl B 41 i0 (.agg #[.int .i64 0, .string ⟨#[]⟩, .int .i64 0, .int .i64 0, .int .i64 0, .int .i64 0]) 6 56 Tryz.underlying22 hi hz0 hz1 hz2 rfl (by decide) _ _ _ rfl OW.out ⟨w1.heap.size + 1, 0, none⟩ 1 1 ([.int .i64 x.k, .string x.t, .int .i64 x.p, .int .i64 x.q, .int .i64 x.a, .int .i64 x.c]) rfl rfl KC.out HONE.out ?c3 ?c4 ?c5 ?_)
          (case c3 => exact hc3.out); (case c4 => exact hc4.out); (case c5 => exact hc5.out); intro v1 w3 own1 gr1 _ loc1
          go_wp2_with fail
          go_roundg f
          case measure => omega
          case rel =>
            refine ⟨op, _, s1, M1, ARnd.more HX.out (HH.out.alloc (.cells #[.int .i64 x.k, .string x.t, .int .i64 x.p, .int .i64 x.q, .int .i64 x.a, .int .i64 x.c] 41)) GG.out (TA.out.then (Turns.alloc M _ _)) (blk_alloc ZA.out _) (OA.out.alloc _) (PA.out.alloc _) hr.out.nw hr.out.nwo HST.out (by have := hr.out.lop; omega) hr.out.fit FU.out HE.out own1 gr1 ?_⟩
            rcases loc1 with h | h
            · exact Or.inl h
            · exact Or.inr ⟨_, h, by first | exact Nat.le_refl _ | (simp; done) | (simp; omega)⟩
end Mx
end Go.Proofs.YtnhcjgnohnedaaaGreatDoor

namespace Go.Proofs.YtnhcjgnohnedaaaGreatDoor
open Go.RowKit

namespace Mx
set_option maxRecDepth 100000 in
set_option maxHeartbeats 4000000 in
/-- More tokens than there may be. -/
theorem add_bad {w : World} {B : Nat} (bx tb : Nat) (x : Tv) {v : Value} {acc l : List Tv} (A : Option Addr) (c : Nat) (f : Flt) (hf : f = failAt 3 x) (hbx : w.heap[bx]? = some (.cells #[v] 22)) (hown : TokOwn w B v acc) (htb : w.heap[tb]? = some (.cells #[.int .i64 x.k, .string x.t, .int .i64 x.p, .int .i64 x.q, .int .i64 x.a, .int .i64 x.c] 41)) (he : EnvL w) (hx : x.fit) (hn : acc.length ≤ 20000) (hm : l.length ≤ 200000)
    (ho : 20000 < acc.length + l.length) :
    Calls Tryz.prog 126 #[.slice A l.length c, .pointer (some ⟨bx, 0, none⟩), .pointer (some ⟨tb, 0, none⟩)] w fun e w' => e = .panicked [{ v := .iface 27 (.agg #[.int .i64 f.code, .string f.name, .int .i64 f.line, .int .i64 f.col]), recovered := false }] ∧ Below w.heap.size w w' := by
  obtain ⟨A', c', hv, -⟩ := hown.sl
  obtain ⟨⟨x0, x1, x2, x3, x4, x5⟩, -, xl⟩ := blk6 htb
  have b0 : w.cell? ⟨bx, 0, none⟩ = some v := cell_of_row w bx 0 _ _ _ hbx
  rw [hv] at b0
  have HF := Lib.hid (fail_any 3 x f w he hx hf)
  obtain ⟨n, hn'⟩ : ∃ n, n = acc.length := ⟨_, rfl⟩
  obtain ⟨m, hm'⟩ : ∃ m, m = l.length := ⟨_, rfl⟩
  rw [← hn'] at b0 hn ho
  rw [← hm'] at hm ho ⊢
  obtain ⟨q, hq⟩ : ∃ q : Int, q = (n : Int) + m := ⟨_, rfl⟩
  have e1 : wrap64 ((n : Int) + m) = q := by rw [hq]; exact IntWalk.wrap64_in _ (by omega)
  have e2 : IntKind.i64.wrap ((n : Int) + m) = q := by rw [hq]; exact IntWalk.i64_in _ (by omega)
  have e3 : decide (20000 < q) = true := decide_eq_true (by omega)
  unfold Tv.val at HF
  clear hbx hown htb he hx hn hm ho hv hn' hm' hq hf
  go_enter Tryz.func126, Tryz.ntmps126
  go_wp2_with fail
  refine HF.out.mono ?_; rintro e w1 ⟨rfl, hb⟩
  exact ⟨rfl, rfl, hb⟩
set_option maxRecDepth 100000 in
set_option maxHeartbeats 4000000 in
/-- Tokens put on the list. -/
theorem add_ok {w : World} {B : Nat} (bx tb : Nat) {v : Value} {acc l : List Tv} (A : Option Addr) (c : Nat) (hbx : w.heap[bx]? = some (.cells #[v] 22)) (hown : TokOwn w B v acc) (hn : acc.length ≤ 20000) (hm : l.length ≤ 200000) (hA : A = none → c = 0 ∧ l = []) (hl : TokSl w w.heap.size A l) (hB : B ≤ w.heap.size)
    (ho : ¬ 20000 < acc.length + l.length) :
    Calls Tryz.prog 126 #[.slice A l.length c, .pointer (some ⟨bx, 0, none⟩), .pointer (some ⟨tb, 0, none⟩)] w fun e w' => e = .returned (.tuple #[]) ∧ ∃ v', w'.heap[bx]? = some (.cells #[v'] 22 (0, 0)) ∧ TokOwn w' B v' (acc ++ l) ∧ Turns (fun k => k = bx ∨ v.ownBlock = some k) w w' := by
  obtain ⟨A', c', hv, -⟩ := hown.sl
  have b0 : w.cell? ⟨bx, 0, none⟩ = some v := cell_of_row w bx 0 _ _ _ hbx
  have hbl : bx < w.heap.size := (Array.getElem?_eq_some_iff.1 hbx).1
  have hvb : v.ownBlock ≠ some bx := vo_ne hown hbx (by decide)
  have HBX := Lib.hid hbx
  have HVB := Lib.hid hvb
  have HO := Lib.hid hown
  have HV := Lib.hid hv
  rw [hv] at b0
  obtain ⟨n, hn'⟩ : ∃ n, n = acc.length := ⟨_, rfl⟩
  obtain ⟨m, hm'⟩ : ∃ m, m = l.length := ⟨_, rfl⟩
  have HN := Lib.hid hn'
  have HM := Lib.hid hm'
  rw [← hn'] at b0 hn ho
  rw [← hm'] at hm ho ⊢
  obtain ⟨q, hq⟩ : ∃ q : Int, q = (n : Int) + m := ⟨_, rfl⟩
  have e1 : wrap64 ((n : Int) + m) = q := by rw [hq]; exact IntWalk.wrap64_in _ (by omega)
  have e2 : IntKind.i64.wrap ((n : Int) + m) = q := by rw [hq]; exact IntWalk.i64_in _ (by omega)
  have e3 : decide (20000 < q) = false := decide_eq_false (by omega)
  have HA := Lib.hid hA
  have HL := Lib.hid hl
  have HB := Lib.hid hB
  have HS : Hid (n + m ≤ 1000000) := Lib.hid (by omega)
  have HNB : Hid ((Value.slice A' n c').ownBlock ≠ some bx) := Lib.hid (by have := hvb; rw [hv, ← hn'] at this; exact this)
  have HOW : Hid (TokOwn w B (.slice A' n c') acc) := Lib.hid (by have := hown; rw [hv, ← hn'] at this; exact this)
  have HCB : Hid (∀ w1 : World, w.grownBy w1 (Value.slice A' n c').ownBlock → w1.heap[bx]? = some (.cells #[v] 22 (0, 0))) := Lib.hid (fun w1 h => (h.block bx hbl (fun e => HNB.out e.symm)).trans hbx)
  clear hbx hown hn hm ho hv hn' hm' hq hA hl hB hvb
  go_enter Tryz.func126, Tryz.ntmps126
  go_wp2_with (at_builtin; refine wpList_append_toks rfl _ _ rfl B (.slice A' n c') acc l rfl HOW.out w.heap.size c A (by rw [← HM.out]; rfl) HA.out HL.out (by rw [← HN.out, ← HM.out]; exact HS.out) HB.out ?_; intro v1 w1 own1 gr1; obtain ⟨A1, c1, rfl, -⟩ := own1.sl; have K1 := HCB.out w1 gr1; have k0 := cell_of_row w1 bx 0 _ _ _ K1; have k1 : w1.frozen? ⟨bx, 0, none⟩ = false := by simp [World.frozen?, K1])
  go_end0
  have own2 : TokOwn w1 B (.slice A1 (acc.length + l.length) c1) (acc ++ l) := by rw [← List.length_append]; exact own1
  refine ⟨rfl, _, heap_set w1 bx 0 _ _ _ K1, row_keep own2 (fun k hk => ?_), ?_⟩
  · have hne : k ≠ bx := fun e => by
      obtain ⟨cur, hc⟩ := row_ty own2 hk
      rw [e] at hc
      exact absurd (heap_inj hc K1) (by decide)
    exact Below.heap_setCell w1 ⟨bx, 0, none⟩ _ k hne
  · have hvo : (Value.slice A' n c').ownBlock = v.ownBlock := by rw [HV.out, HN.out]
    rw [hvo] at gr1
    exact ((Turns.of_grown gr1 (hvo ▸ notExp_row HOW.out (by decide))).mono (fun k h => Or.inr h)).then (Turns.setCell (M := fun k => k = bx ∨ v.ownBlock = some k) w1 (p := ⟨bx, 0, none⟩) (Or.inl rfl) _)
end Mx
end Go.Proofs.YtnhcjgnohnedaaaGreatDoor
