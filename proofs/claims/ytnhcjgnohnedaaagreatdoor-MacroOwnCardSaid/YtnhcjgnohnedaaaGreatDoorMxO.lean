/-
  Contracts of package macro: redefinitions.
  Contracts of package macro: what save takes away in a group.
-/
import Derived.Test.YtnhcjgnohnedaaaGreatDoorMxL
namespace Go.Proofs.YtnhcjgnohnedaaaGreatDoor
open Go.RowKit

/-- A store into a map as a step of a region that draws its order. -/
theorem step_mapUp {P : Program} {ops : Array Oper} {o : Oper} {a : Act} {w : World} {K : Act → World → Prop} {Q : Exit → Act → World → Prop} {E : Prop} (hgd : o.guard = none) (m x v : Operand) (t : TypeId) (hop : o.op = Op.mapUpdate t m x v)
    (k e : TypeId) (L : Maps.Keyed P k) (ht : P.underlying t = some (.map k e)) (R : Value → Option (DataW Value × List MemPlace)) (b n : Nat) (D : DataW Value) (hm : a.eval m = .map (some b)) (hown : w.ownsMap P k R b n D) (hn : n < maxLen) (key val : Value) (kl : Lit)
    (hx : a.eval x = key) (hv : a.eval v = val) (hkey : keyOf P k key = some kl) (d : DataW Value) (ps : List MemPlace) (hval : R val = some (d, ps))
    (hK : ∀ w', w'.ownsMap P k R b (n + 1) (D.put kl d) → w.grownBy w' (some b) → K (a.put o.dst undef) w') :
    if Region.wanted o (yielded ops a.tmps) = true then Oper.wp P o a w K Q else E := by
  have hw : Region.wanted o (yielded ops a.tmps) = true := by simp [Region.wanted, hgd]
  rw [if_pos hw]
  obtain ⟨w', hrun, r1, r2⟩ := hown.update L ht hn hkey hval
  unfold Oper.wp
  simp [execOp, hop, hm, hx, hv, hrun, Result.andThen]
  exact hK w' r1 r2
namespace Mx
/-- A name has been given a meaning. -/
theorem Holds.mapped {w w1 : World} {B b σ : Nat} {M P : Nat → Prop} {s : St} {y : Lay} (H : Holds w B b (σ + 1) M P s) (Pt : Parts w B b (σ + 1) M (uni M P) y s) {n : ByteArray} (hn : n.size ≤ maxLen) {D : DataW Value} {N : Nat} (hD : w.ownsMap Tryz.prog 9 rawElem y.mb N D)
    (hsp : ∀ s' : ByteArray, s'.size ≤ maxLen → (Maps.has D (.string s'.data.toList) = false ∧ s.means s' = .var) ∨ (Maps.has D (.string s'.data.toList) = true ∧ ∃ v, (∀ z, D.atKey (.string s'.data.toList) z = .held v) ∧ IsMean w (uni M P) v (s.means s')))
    (hN : N + saved s + (σ + 1) ≤ 1000 + 4 * s.steps) {v : Value} {m : Mean} (hm : IsMean w (uni M P) v m)
    (own1 : w1.ownsMap Tryz.prog 9 rawElem y.mb (N + 1) (D.put (.string n.data.toList) (.held v))) (gr1 : w.grownBy w1 (some y.mb)) : Holds w1 B b σ M P (setMean n m s) ∧ Turns M w w1 := by
  have ht : Turns (fun k => some y.mb = some k) w w1 := Turns.of_grown gr1 (notExp_map hD)
  have hmM := Pt.map.1
  have hNM : ∀ k, (fun k => some y.mb = some k) k → M k := fun k hk => by injection hk with hk; rw [← hk]; exact hmM
  have hNX : ∀ k, (fun k => some y.mb = some k) k → uni M P k := fun k hk => Or.inl (hNM k hk)
  obtain ⟨es, clock, hes, -⟩ := id hD
  have nm : ∀ {k : Nat} {c : Array Value} {t : TypeId} {f : Nat × Nat}, w.heap[k]? = some (.cells c t f) → ¬ (some y.mb = some k) := fun hc e => by injection e with e; rw [← e, hes] at hc; cases hc
  refine ⟨?_, ht.mono hNM⟩
  have key : ∀ s' : ByteArray, s' ≠ n → (Lit.string s'.data.toList) ≠ (Lit.string n.data.toList) := fun s' h e => by
    injection e with e; exact h (by rw [ba_list s', ba_list n, e])
  have hIs : Maps.IsMap D := hD.isMap
  have hkl : WideAt.IsKeyLit (Lit.string n.data.toList) := trivial
  refine Holds.mk' (y := y) (H.env.turn (ht.below (fun k hk => (H.low k (hNM k hk)).1) H.Bs)) (fun k hk => ⟨(H.low k hk).1, Nat.lt_of_lt_of_le (H.low k hk).2 ht.size⟩) (fun k hk => ⟨(H.lowP k hk).1, Nat.lt_of_lt_of_le (H.lowP k hk).2.1 ht.size, (H.lowP k hk).2.2⟩) H.hb (Nat.le_trans H.Bs ht.size)
    ((ht.block b (H.low b H.hb).2 (nm Pt.cells)).trans Pt.cells) (Parts.turn_rest Pt.rest (ht.mono hNX) (Grows.refl _ _))
    (list_keep Pt.lists ht hNX (Grows.refl _ _) (fun _ h => h) (fun k hk => by obtain ⟨cur, hc⟩ := row_ty Pt.lists.choose_spec.1 hk; exact nm hc)) (out_keep Pt.out ht (fun _ h => h) (fun k hk => by obtain ⟨cur, hc⟩ := row_ty Pt.out.1 hk; exact nm hc))
    ⟨hmM, N + 1, ⟨⟨_, own1, fun s' hs' => ?_⟩⟩, ?_⟩ ?_ (grp_keep Pt.groups ht hNX (Grows.refl _ _) (fun _ h => h) (fun k hk => by obtain ⟨cur, hc⟩ := row_ty Pt.groups.choose_spec.1 hk; exact nm hc) (fun k cur _ hc => nm hc)) H.lastf H.b1 H.b2 H.b3 (by have := H.b4; show s.groups.length + σ ≤ 1000 + 4 * s.steps; omega) H.b5
  · by_cases e : s' = n
    · subst e
      refine Or.inr ⟨Maps.has_put_same hIs hkl _, v, fun z => Maps.atKey_put_same hIs hkl _ z, ?_⟩
      simp only [setMean, if_true]
      exact hm.turn (ht.mono hNX) (Grows.refl _ _)
    · simp only [setMean, if_neg e]
      rcases hsp s' hs' with ⟨h1, h2⟩ | ⟨h1, v', h2, h3⟩
      · exact Or.inl ⟨by rw [Maps.has_put_other (key s' e)]; exact h1, h2⟩
      · exact Or.inr ⟨by rw [Maps.has_put_other (key s' e)]; exact h1, v', fun z => by rw [Maps.atKey_put_other (key s' e)]; exact h2 z, h3.turn (ht.mono hNX) (Grows.refl _ _)⟩
  · show N + 1 ≤ 1000 + 4 * s.steps - saved s - σ; omega
  · show saved s + σ ≤ 1000 + 4 * s.steps; omega
theorem Parts.below {w w' : World} {B b σ : Nat} {M P : Nat → Prop} {y : Lay} {s : St} (h : Holds w B b σ M P s) (hp : Parts w B b σ M (uni M P) y s) (hb : Below w.heap.size w w') : Parts w' B b σ M (uni M P) y s := by
  have ht : Turns (fun _ => False) w w' := Turns.of_below hb _
  have hN : ∀ k, (fun _ : Nat => False) k → uni M P k := fun _ h => h.elim
  obtain ⟨hm, n, hmap, hn⟩ := hp.map
  have hmk := map_keep (m := n) ⟨hm, n, hmap, Nat.le_refl _⟩ ht hN (Grows.refl _ _) (fun _ h => h) (fun h => h)
  obtain ⟨m1, n', m2, m3⟩ := hmk
  exact ⟨(hb.block b (h.low b h.hb).2).trans hp.cells, Parts.turn_rest hp.rest (ht.mono hN) (Grows.refl _ _), list_keep hp.lists ht hN (Grows.refl _ _) (fun _ h => h) (fun _ _ h => h), out_keep hp.out ht (fun _ h => h) (fun _ _ h => h), ⟨m1, n', m2, by omega⟩,
    grp_keep hp.groups ht hN (Grows.refl _ _) (fun _ h => h) (fun _ _ h => h) (fun _ _ _ _ h => h)⟩
theorem small_n {N a σ k : Nat} (h : N + a + σ ≤ 1000 + 4 * k) (hk : k ≤ 200000) : N < maxLen := by unfold maxLen; omega
theorem let_1 {s : St} {f : Flt} (h : readName s = .bad f) : doLet s = .bad f := by simp [doLet, bind, M.bind, h]
theorem let_2 {s s1 : St} {a : Tv} {f : Flt} (h : readName s = .ok a s1) (h2 : readSign (str [61]) s1 = .bad f) : doLet s = .bad f := by simp [doLet, bind, M.bind, h, h2]
theorem let_3 {s s1 s2 : St} {a : Tv} {f : Flt} (h : readName s = .ok a s1) (h2 : readSign (str [61]) s1 = .ok () s2) (h3 : readName s2 = .bad f) : doLet s = .bad f := by simp [doLet, bind, M.bind, h, h2, h3]
theorem let_4 {s s1 s2 s3 : St} {a o : Tv} {f : Flt} (h : readName s = .ok a s1) (h2 : readSign (str [61]) s1 = .ok () s2) (h3 : readName s2 = .ok o s3) (h4 : readSign (str [59]) s3 = .bad f) : doLet s = .bad f := by simp [doLet, bind, M.bind, h, h2, h3, h4]
theorem let_5 {s s1 s2 s3 s4 : St} {a o : Tv} (h : readName s = .ok a s1) (h2 : readSign (str [61]) s1 = .ok () s2) (h3 : readName s2 = .ok o s3) (h4 : readSign (str [59]) s3 = .ok () s4) : doLet s = .ok () (setMean a.t (meaningOf s4 o) s4) := by
  simp [doLet, bind, M.bind, h, h2, h3, h4, modify]
set_option maxRecDepth 100000 in
set_option maxHeartbeats 8000000 in
theorem let_any {w : World} {B b σ : Nat} {M P : Nat → Prop} {s : St} (H : Holds w B b σ M P s) :
    Calls Tryz.prog 96 #[.pointer (some ⟨b, 0, none⟩)] w (Ends B b σ M P w (doLet s) vUnit) := by
  have C1 := Lib.hid (readName_any H)
  clear H
  go_enter Tryz.func96, Tryz.ntmps96
  go_wp2_with fail
  refine C1.out.mono ?_; rintro e w1 ⟨M1, hG, ht, h⟩
  cases hq1 : readName s with
  | bad f =>
    rw [hq1] at h
    obtain rfl := h
    exact ⟨rfl, ends_bad (let_1 hq1) ht rfl⟩
  | ok a s1 =>
    rw [hq1] at h
    obtain ⟨v, rfl, ⟨⟨rfl, hfa⟩, -⟩, hh⟩ := h
    have Q1 := Lib.hid hq1
    have HA := Lib.hid (hh.own (.cells #[.int .i64 a.k, .string a.t, .int .i64 a.p, .int .i64 a.q, .int .i64 a.a, .int .i64 a.c] 41))
    have TA := Lib.hid (ht.then (Turns.alloc M w1 (.cells #[.int .i64 a.k, .string a.t, .int .i64 a.p, .int .i64 a.q, .int .i64 a.a, .int .i64 a.c] 41)))
    have FA := Lib.hid hfa
    have GA := Lib.hid hG
    have KA := Lib.hid (heap_alloc_new w1 (.cells #[.int .i64 a.k, .string a.t, .int .i64 a.p, .int .i64 a.q, .int .i64 a.a, .int .i64 a.c] 41))
    have zA := ht.size
    clear hq1 hh ht hfa hG
    unfold Tv.val
    go_wp2_with fail
    refine (readSign_any (str [61]) HA.out).mono ?_; rintro e w2 ⟨M2, hG, ht, h⟩
    have TB := Lib.hid (TA.out.trans GA.out ht)
    cases hq2 : readSign (str [61]) s1 with
    | bad f =>
      rw [hq2] at h
      obtain rfl := h
      exact ⟨rfl, ends_bad (let_2 Q1.out hq2) TB.out rfl⟩
    | ok u s2 =>
      rw [hq2] at h
      obtain ⟨v, rfl, rfl, hh⟩ := h
      have Q2 := Lib.hid hq2
      have H2 := Lib.hid hh
      have GB := Lib.hid (GA.out.trans hG (by simp; omega))
      have KB := Lib.hid ((ht.block w1.heap.size (by simp) (HA.out.lowP _ (Or.inr rfl)).2.2).trans KA.out)
      have zB : w1.heap.size + 1 ≤ w2.heap.size := by have := ht.size; simpa using this
      clear hq2 hh ht hG
      go_wp2_with fail
      refine (readName_any H2.out).mono ?_; rintro e w3 ⟨M3, hG, ht, h⟩
      have TC := Lib.hid (TB.out.trans GB.out ht)
      cases hq3 : readName s2 with
      | bad f =>
        rw [hq3] at h
        obtain rfl := h
        exact ⟨rfl, ends_bad (let_3 Q1.out Q2.out hq3) TC.out rfl⟩
      | ok o s3 =>
        rw [hq3] at h
        obtain ⟨v, rfl, ⟨⟨rfl, hfo⟩, -⟩, hh⟩ := h
        have Q3 := Lib.hid hq3
        have HO := Lib.hid (hh.own (.cells #[.int .i64 o.k, .string o.t, .int .i64 o.p, .int .i64 o.q, .int .i64 o.a, .int .i64 o.c] 41))
        have TD := Lib.hid (TC.out.then (Turns.alloc M w3 (.cells #[.int .i64 o.k, .string o.t, .int .i64 o.p, .int .i64 o.q, .int .i64 o.a, .int .i64 o.c] 41)))
        have FO := Lib.hid hfo
        have GC := Lib.hid (GB.out.trans hG (by omega))
        have KC := Lib.hid (blk_alloc ((ht.block w1.heap.size (by omega) (H2.out.lowP _ (Or.inr rfl)).2.2).trans KB.out) (.cells #[.int .i64 o.k, .string o.t, .int .i64 o.p, .int .i64 o.q, .int .i64 o.a, .int .i64 o.c] 41))
        have KO := Lib.hid (heap_alloc_new w3 (.cells #[.int .i64 o.k, .string o.t, .int .i64 o.p, .int .i64 o.q, .int .i64 o.a, .int .i64 o.c] 41))
        have zC : w2.heap.size ≤ w3.heap.size := ht.size
        clear hq3 hh ht hfo hG
        unfold Tv.val
        go_wp2_with fail
        refine (readSign_any (str [59]) HO.out).mono ?_; rintro e w4 ⟨M4, hG, ht, h⟩
        have TE := Lib.hid (TD.out.trans (GC.out) ht)
        cases hq4 : readSign (str [59]) s3 with
        | bad f =>
          rw [hq4] at h
          obtain rfl := h
          exact ⟨rfl, ends_bad (let_4 Q1.out Q2.out Q3.out hq4) TE.out rfl⟩
        | ok u s4 =>
          rw [hq4] at h
          obtain ⟨v, rfl, rfl, hh⟩ := h
          have HR := Lib.hid (let_5 Q1.out Q2.out Q3.out hq4)
          have zD : w3.heap.size + 1 ≤ w4.heap.size := by have := ht.size; simpa using this
          have GD := Lib.hid (GC.out.trans hG (by simp; omega))
          have H4 := Lib.hid (hh.slack (show σ + 1 ≤ σ + 4 + 4 + 4 + 4 by omega))
          obtain ⟨y, Pt⟩ := H4.out.parts
          have HPt := Lib.hid Pt
          have c9 := (ecells Pt.cells).c9
          have hlt := (ecells Pt.cells).lt
          have a1 := (blk6 ((ht.block w1.heap.size (by simp; omega) (HO.out.lowP _ (Or.inl (Or.inr rfl))).2.2).trans KC.out)).1.2.1
          obtain ⟨⟨o0, o1, o2, o3, o4, o5⟩, -, ol⟩ := blk6 ((ht.block w3.heap.size (by simp) (HO.out.lowP _ (Or.inr rfl)).2.2).trans KO.out)
          clear hq4 hh ht hG Pt
          go_wp2_with fail
          go_region_law (go_simp; go_at_call 53; refine (meaningOf_any o FO.out H4.out.drew).mono ?_; rintro e w5 ⟨v5, rfl, hv5, hb5⟩; have BB5 := Lib.hid ((Below.refl w4.heap.size w4).drew.trans hb5); have HV5 := Lib.hid hv5; have P5 := Lib.hid (Parts.below H4.out HPt.out BB5.out); obtain ⟨hmM5, N5, hmap5, hN5⟩ := P5.out.map; obtain ⟨D5, ow5, hsp5⟩ := hmap5.ex; obtain ⟨w6, hrun, own6, gr6⟩ := World.ownsMap.update ow5 str_key Tryz.underlying45 (small_n hN5 H4.out.b1) (key := .string a.t) (val := v5) (d := .held v5) (ps := []) (WideMaps.keyOf_string_mk Tryz.underlying9 FA.out.ts) rfl; have HFIN := Lib.hid (Holds.mapped (H4.out.below BB5.out) P5.out FA.out.ts ow5 hsp5 hN5 HV5.out own6 gr6); have c9' := (ecells P5.out.cells).c9; have a1' := (World.cell?_of_block (a := ⟨w1.heap.size, 1, none⟩) (BB5.out.block w1.heap.size (by omega))).trans a1; clear hb5 hv5 ow5 hsp5 hmap5 hmM5 own6 gr6 hN5)
          all_goals (go_end0; exact ends_ok HR.out GD.out (TE.out.trans GD.out ((Turns.of_below BB5.out _).then HFIN.out.2)) rfl (HFIN.out.1.less (fun k hk => Or.inl (Or.inl hk))))
end Mx
end Go.Proofs.YtnhcjgnohnedaaaGreatDoor

namespace Go.Proofs.YtnhcjgnohnedaaaGreatDoor
open Go.RowKit

namespace Mx
theorem info_saved : (Tryz.prog.info? 162).map (fun i => (i.zero, i.size, i.bytes)) = some (some (.agg #[.string ⟨#[]⟩, .nilIface]), 2, 32) := by kernel_rfl
/-- The last group, and the others. -/
theorem Grps.snoc {w : World} {B : Nat} {M X : Nat → Prop} {g : List (ByteArray × Mean)} : ∀ {a : List (List (ByteArray × Mean))} {xs : List Value}, Grps w B M X xs (a ++ [g]) → ∃ xs' v cs, xs = xs' ++ [v] ∧ Grps w B M X xs' a ∧ w.ownsRow B 162 2 v g.length cs ∧ (∀ k, v.ownBlock = some k → M k) ∧ Saved w X cs g ∧ ∀ u ∈ xs', ∀ k, u.ownBlock = some k → v.ownBlock ≠ some k
  | [], [v], ⟨⟨cs, h1, h2, h3, _⟩, _⟩ => ⟨[], v, cs, rfl, trivial, h1, h2, h3, fun u hu => by simp at hu⟩
  | [], _ :: _ :: _, ⟨_, h⟩ => h.elim
  | b :: a, v :: xs, ⟨⟨cs, h1, h2, h3, h4⟩, hr⟩ => by
    obtain ⟨xs', v', cs', rfl, h5, h6, h7, h8, h9⟩ := hr.snoc
    refine ⟨v :: xs', v', cs', rfl, ⟨⟨cs, h1, h2, h3, fun u hu => h4 u (by simp [hu])⟩, h5⟩, h6, h7, h8, fun u hu k hk => ?_⟩
    rcases List.mem_cons.1 hu with rfl | hu
    · exact h4 v' (by simp) k hk
    · exact h9 u hu k hk
  | [], [], h => h.elim
  | _ :: _, [], h => h.elim
theorem Grps.push {w : World} {B : Nat} {M X : Nat → Prop} {g : List (ByteArray × Mean)} {v : Value} {cs : List Value} (h1 : w.ownsRow B 162 2 v g.length cs) (h2 : ∀ k, v.ownBlock = some k → M k) (h3 : Saved w X cs g) :
    ∀ {a : List (List (ByteArray × Mean))} {xs : List Value}, Grps w B M X xs a → (∀ u ∈ xs, ∀ k, u.ownBlock = some k → v.ownBlock ≠ some k) → Grps w B M X (xs ++ [v]) (a ++ [g])
  | [], [], _, _ => ⟨⟨cs, h1, h2, h3, fun u hu => by simp at hu⟩, trivial⟩
  | b :: a, u :: xs, ⟨⟨cs', g1, g2, g3, g4⟩, hr⟩, hd => ⟨⟨cs', g1, g2, g3, fun u' hu' k hk => by
      rcases List.mem_append.1 hu' with h | h
      · exact g4 u' h k hk
      · rw [List.mem_singleton] at h; subst h; exact hd u (by simp) k hk⟩, hr.push h1 h2 h3 (fun u' hu' => hd u' (by simp [hu']))⟩
  | [], _ :: _, h, _ => h.elim
  | _ :: _, [], h, _ => h.elim
theorem Saved.push {w : World} {X : Nat → Prop} {n : ByteArray} {m : Mean} {v : Value} (hn : n.size ≤ maxLen) (hv : IsMean w X v m) : ∀ {cs : List Value} {g : List (ByteArray × Mean)}, Saved w X cs g → Saved w X (cs ++ [.string n, v]) (g ++ [(n, m)])
  | [], [], _ => ⟨⟨rfl, hn, hv⟩, trivial⟩
  | _ :: _ :: _, _ :: _, ⟨h, hr⟩ => ⟨h, hr.push hn hv⟩
  | [], _ :: _, h => h.elim
  | [_], [], h => h.elim
  | [_], _ :: _, h => h.elim
  | _ :: _ :: _, [], h => h.elim
theorem Grps.keepRows {w w' : World} {B : Nat} {M M' X X' : Nat → Prop} (ht : Turns X w w') (hM : Grows w X X') {vs : List Value} {gs : List (List (ByteArray × Mean))} (h : Grps w B M X vs gs) (hMM : ∀ k, M k → M' k) (hk : ∀ v ∈ vs, ∀ k, v.ownBlock = some k → w'.heap[k]? = w.heap[k]?) : Grps w' B M' X' vs gs := h.turn ht hM hMM hk
/-- A name's meaning has been laid into the last group's row, and the row into its place. -/
theorem Holds.grouped {w W w1 : World} {B b σ : Nat} {M P : Nat → Prop} {s : St} {y : Lay} (H : Holds w B b (σ + 1) M P s) (Pt : Parts w B b (σ + 1) M (uni M P) y s) {g0 : List (ByteArray × Mean)} {gs : List (List (ByteArray × Mean))} (hgs : s.groups = g0 :: gs)
    {gg cap : Nat} {xs' : List Value} {v0 : Value} {cs : List Value} (hvg : y.vg = .slice (some ⟨gg, 0, none⟩) (gs.length + 1) cap) (hrow : w.ownsRow B 160 1 y.vg (gs.length + 1) (xs' ++ [v0])) (hrest : Grps w B M (uni M P) xs' (gs.reverse.map List.reverse))
    (hown : w.ownsRow B 162 2 v0 g0.length cs) (hv0M : ∀ k, v0.ownBlock = some k → M k) (hsv : Saved w (uni M P) cs g0.reverse) (hdis : ∀ u ∈ xs', ∀ k, u.ownBlock = some k → v0.ownBlock ≠ some k)
    {n : ByteArray} (hn : n.size ≤ maxLen) {v : Value} (hm : IsMean w (uni M P) v (s.means n)) (hW : Below w.heap.size w W)
    {g1 cap1 : Nat} (own1 : w1.ownsRow B 162 2 (.slice (some ⟨g1, 0, none⟩) (g0.length + 1) cap1) (g0.length + 1) (cs ++ [.string n, v])) (gr1 : W.grownBy w1 v0.ownBlock) (loc1 : some g1 = v0.ownBlock ∨ some g1 = some W.heap.size) :
    ∃ M', Grows w M M' ∧ Turns M w (w1.setCell ⟨gg, gs.length, none⟩ (.slice (some ⟨g1, 0, none⟩) (g0.length + 1) cap1)) ∧ Holds (w1.setCell ⟨gg, gs.length, none⟩ (.slice (some ⟨g1, 0, none⟩) (g0.length + 1) cap1)) B b σ M' P (addSaved n s) := by
  let N : Nat → Prop := fun k => k = gg ∨ v0.ownBlock = some k
  let M' : Nat → Prop := fun k => M k ∨ k = g1
  have hggM : M gg := Pt.groups.choose_spec.2.1 gg (by rw [hvg]; rfl)
  have hN : ∀ k, N k → M k := fun k hk => by rcases hk with hk | hk; rw [hk]; exact hggM; exact hv0M k hk
  have t1 : Turns N w w1 := (Turns.of_below hW N).then ((Turns.of_grown gr1 ((notExp_row hown (by decide)).below hW (fun k hk => (World.ownsRow.lt hown k hk).2))).mono (fun k h => Or.inr h))
  have t2 : Turns N w (w1.setCell ⟨gg, gs.length, none⟩ (.slice (some ⟨g1, 0, none⟩) (g0.length + 1) cap1)) := t1.then (Turns.setCell (M := N) w1 (p := ⟨gg, gs.length, none⟩) (Or.inl rfl) _)
  have hsz : (w1.setCell ⟨gg, gs.length, none⟩ (.slice (some ⟨g1, 0, none⟩) (g0.length + 1) cap1)).heap.size = w1.heap.size := by simp [World.setCell]
  have hg1 := own1.lt g1 rfl
  have hgM : M g1 ∨ w.heap.size ≤ g1 := by
    rcases loc1 with h | h
    · exact Or.inl (hv0M g1 h.symm)
    · injection h with h; exact Or.inr (by rw [h]; exact hW.size)
  have hG : Grows w M M' := fun k hk => by rcases hk with hk | hk; exact Or.inl hk; rw [hk]; exact hgM
  have hGX : Grows w (uni M P) (uni M' P) := fun k hk => by
    rcases hk with hk | hk
    · rcases hG k hk with h | h
      · exact Or.inl (Or.inl h)
      · exact Or.inr h
    · exact Or.inl (Or.inr hk)
  have hNX : ∀ k, N k → uni M P k := fun k hk => Or.inl (hN k hk)
  have hMM : ∀ k, M k → M' k := fun k hk => Or.inl hk
  obtain ⟨gcur, hgcur⟩ := row_ty hrow (k := gg) (by rw [hvg]; rfl)
  have hggw : w1.heap[gg]? = w.heap[gg]? := by
    have t0 : Turns (fun k => v0.ownBlock = some k) w w1 := (Turns.of_below hW _).then (Turns.of_grown gr1 ((notExp_row hown (by decide)).below hW (fun k hk => (World.ownsRow.lt hown k hk).2)))
    refine t0.block gg (H.low gg hggM).2 (fun e => ?_)
    obtain ⟨cur, hc⟩ := row_ty hown e
    exact absurd (heap_inj hc hgcur) (by decide)
  have hggg : g1 ≠ gg := fun e => by
    obtain ⟨cur, hcur⟩ := row_ty own1 (k := g1) rfl
    rw [e, hggw, hgcur] at hcur
    injection hcur with hcur
    injection hcur with _ h2
    exact absurd h2 (by decide)
  have nb : ∀ {k : Nat} {c : Array Value} {t : TypeId} {f : Nat × Nat}, w.heap[k]? = some (.cells c t f) → t ≠ 160 → t ≠ 162 → ¬ N k := fun hc h1 h2 h => by
    rcases h with h | h
    · subst h; exact h1 (heap_inj hc hgcur)
    · obtain ⟨cur, hc2⟩ := row_ty hown h; exact h2 (heap_inj hc hc2)
  refine ⟨M', hG, t2.mono hN, ?_⟩
  have hbl := Pt.pmap
  have hadd : addSaved n s = { s with groups := ((n, s.means n) :: g0) :: gs } := by unfold addSaved; rw [hgs]
  rw [hadd]
  have hsaved : saved { s with groups := ((n, s.means n) :: g0) :: gs } = saved s + 1 := by unfold saved; rw [hgs]; simp; omega
  have hgbl : (w1.setCell ⟨gg, gs.length, none⟩ (.slice (some ⟨g1, 0, none⟩) (g0.length + 1) cap1)).heap[gg]? = (w.setCell ⟨gg, gs.length, none⟩ (.slice (some ⟨g1, 0, none⟩) (g0.length + 1) cap1)).heap[gg]? :=
    (heap_set w1 gg gs.length _ _ _ (hggw.trans hgcur)).trans (heap_set w gg gs.length _ _ _ hgcur).symm
  have hrow2 := hrow
  rw [hvg] at hrow2
  have ownk : (w1.setCell ⟨gg, gs.length, none⟩ (.slice (some ⟨g1, 0, none⟩) (g0.length + 1) cap1)).ownsRow B 162 2 (.slice (some ⟨g1, 0, none⟩) (g0.length + 1) cap1) (g0.reverse ++ [(n, s.means n)]).length (cs ++ [.string n, v]) := by
    rw [List.length_append, List.length_reverse]
    exact row_keep own1 (fun k hk => by simp [Value.ownBlock] at hk; subst hk; exact Below.heap_setCell w1 ⟨gg, gs.length, none⟩ _ g1 hggg)
  have hrest' := hrest.keepRows (t2.mono hNX) hGX hMM (fun u hu k hk => by
    obtain ⟨cur, hc⟩ := hrest.rows u hu k hk
    refine t2.block k (Array.getElem?_eq_some_iff.1 hc).1 (fun h => ?_)
    rcases h with h | h
    · subst h; exact absurd (heap_inj hc hgcur) (by decide)
    · exact hdis u hu k hk h)
  have hpg : PGrp (w1.setCell ⟨gg, gs.length, none⟩ (.slice (some ⟨g1, 0, none⟩) (g0.length + 1) cap1)) B M' (uni M' P) y.vg (((n, s.means n) :: g0) :: gs) := by
    refine ⟨xs' ++ [.slice (some ⟨g1, 0, none⟩) (g0.length + 1) cap1], ?_, fun k hk => hMM k (Pt.groups.choose_spec.2.1 k hk), ?_⟩
    · rw [hvg]; exact row_set hrow2 hgbl
    · rw [List.reverse_cons, List.map_append, List.map_cons, List.map_nil, List.reverse_cons]
      refine Grps.push ownk (fun k hk => by simp [Value.ownBlock] at hk; exact Or.inr hk.symm) ((hsv.turn (t2.mono hNX) hGX).push hn (hm.turn (t2.mono hNX) hGX)) hrest' (fun u hu k hk e => ?_)
      simp [Value.ownBlock] at e
      subst e
      rcases loc1 with h | h
      · exact hdis u hu g1 hk h.symm
      · injection h with h
        obtain ⟨cur, hc⟩ := hrest.rows u hu g1 hk
        have h1 := (Array.getElem?_eq_some_iff.1 hc).1
        have h2 := hW.size
        omega
  refine Holds.mk' (y := y) (H.env.turn (t2.below (fun k hk => (H.low k (hN k hk)).1) H.Bs)) (fun k hk => ?_) (fun k hk => ⟨(H.lowP k hk).1, Nat.lt_of_lt_of_le (H.lowP k hk).2.1 t2.size, fun hm => ?_⟩) (hMM b H.hb) (Nat.le_trans H.Bs t2.size)
    ((t2.block b (H.low b H.hb).2 (nb Pt.cells (by decide) (by decide))).trans Pt.cells) (Parts.turn_rest Pt.rest (t2.mono hNX) hGX)
    (list_keep Pt.lists t2 hNX hGX hMM (fun k hk => by obtain ⟨cur, hc⟩ := row_ty Pt.lists.choose_spec.1 hk; exact nb hc (by decide) (by decide))) (out_keep Pt.out t2 hMM (fun k hk => by obtain ⟨cur, hc⟩ := row_ty Pt.out.1 hk; exact nb hc (by decide) (by decide))) ?_ ?_ hpg H.lastf H.b1 H.b2 H.b3 ?_ H.b5
  · rcases hk with hk | hk
    · exact ⟨(H.low k hk).1, Nat.lt_of_lt_of_le (H.low k hk).2 t2.size⟩
    · rw [hk, hsz]; exact hg1
  · rcases hm with hm | hm
    · exact (H.lowP k hk).2.2 hm
    · rcases hgM with h | h
      · exact (H.lowP k hk).2.2 (hm ▸ h)
      · have := (H.lowP k hk).2.1; omega
  · obtain ⟨hm', nn, hmap, hnn⟩ := hbl.1
    obtain ⟨D, hD, hsp⟩ := hmap.ex
    obtain ⟨es, clock, hes, hrr⟩ := hD
    have hnm : ¬ N y.mb := fun h => by
      rcases h with h | h
      · rw [h, hgcur] at hes; cases hes
      · obtain ⟨cur, hc⟩ := row_ty hown h; rw [hc] at hes; cases hes
    exact (map_keep ⟨hm', nn, hmap, hnn⟩ t2 hNX hGX hMM hnm).mono (by show _ ≤ 1000 + 4 * s.steps - saved { s with groups := ((n, s.means n) :: g0) :: gs } - σ; rw [hsaved]; omega)
  · show saved { s with groups := ((n, s.means n) :: g0) :: gs } + σ ≤ 1000 + 4 * s.steps; rw [hsaved]; have := hbl.2; omega
  · show (((n, s.means n) :: g0) :: gs).length + σ ≤ 1000 + 4 * s.steps; have := H.b4; rw [hgs] at this; simp at this ⊢; omega
end Mx
end Go.Proofs.YtnhcjgnohnedaaaGreatDoor
