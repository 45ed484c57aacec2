/-
  Contracts of package macro: the tokens that replace a macro, the walk.
-/
import Derived.Test.YtnhcjgnohnedaaaGreatDoorMxW
namespace Go.Proofs.YtnhcjgnohnedaaaGreatDoor
open Go.RowKit

namespace Mx
/-- Arguments that stay. -/
def ArgsFix (w : World) (X : Nat → Prop) (A : Option Addr) (ars : List (List Tv)) : Prop :=
  0 < ars.length → ∃ g, A = some ⟨g, 0, none⟩ ∧ Stay w X g ∧ ∀ j l, ars[j]? = some l → ∃ A' c', w.cell? ⟨g, j, none⟩ = some (.slice A' l.length c') ∧ (A' = none → c' = 0 ∧ l = []) ∧ TokFix w X A' l ∧ l.length ≤ 200000
/-- The list so far, in a box; and the token in another. -/
structure LSt (w : World) (x : Tv) (wr : World) (v : Value) (acc : List Tv) : Prop where
  box : wr.heap[w.heap.size + 1]? = some (.cells #[v] 22)
  tb : wr.heap[w.heap.size]? = some (.cells #[.int .i64 x.k, .string x.t, .int .i64 x.p, .int .i64 x.q, .int .i64 x.a, .int .i64 x.c] 41)
  own : TokOwn wr (w.heap.size + 1) v acc
  len : acc.length ≤ 20000
  bel : Below w.heap.size w wr
  fit : ∀ y ∈ acc, y.fit
theorem LSt.below {w wr W : World} {x : Tv} {v : Value} {acc : List Tv} (h : LSt w x wr v acc) (hb : Below wr.heap.size wr W) : LSt w x W v acc :=
  ⟨(hb.block _ (Array.getElem?_eq_some_iff.1 h.box).1).trans h.box, (hb.block _ (Array.getElem?_eq_some_iff.1 h.tb).1).trans h.tb, row_keep h.own (fun k hk => hb.block k (World.ownsRow.lt h.own k hk).2), h.len, h.bel.trans (hb.mono h.bel.size), h.fit⟩
theorem LSt.add {w W w2 : World} {x : Tv} {v v' : Value} {acc l : List Tv} (h : LSt w x W v acc) (hb : w2.heap[w.heap.size + 1]? = some (.cells #[v'] 22 (0, 0))) (own : TokOwn w2 (w.heap.size + 1) v' (acc ++ l)) (ht : Turns (fun k => k = w.heap.size + 1 ∨ v.ownBlock = some k) W w2)
    (ho : ¬ 20000 < acc.length + l.length) (hf : ∀ y ∈ l, y.fit) : LSt w x w2 v' (acc ++ l) := by
  refine ⟨hb, (ht.block _ (Array.getElem?_eq_some_iff.1 h.tb).1 (fun e => ?_)).trans h.tb, own, by rw [List.length_append]; omega, h.bel.trans (ht.below (fun k hk => ?_) h.bel.size), fun y hy => ?_⟩
  · rcases e with e | e
    · omega
    · have := (World.ownsRow.lt h.own _ e).1; omega
  · rcases hk with hk | hk
    · omega
    · have := (World.ownsRow.lt h.own k hk).1; omega
  · rcases List.mem_append.1 hy with hy | hy
    · exact h.fit y hy
    · exact hf y hy
theorem TokFix.at_ {w W : World} {X : Nat → Prop} {A : Option Addr} {l : List Tv} (h : TokFix w X A l) (hb : Below w.heap.size w W) : TokSl W W.heap.size A l := fun hn => by
  obtain ⟨ad, e, hs, hc⟩ := h.1 hn
  exact ⟨ad, e, Nat.lt_of_lt_of_le hs.1 hb.size, fun j y hj => (hc j y hj).below hb (by rw [block_of_add]; exact hs.1)⟩
def pre (m : Mac) (ars : List (List Tv)) (i : Nat) : List Tv := (m.body.take i).flatMap (pieceToks ars)
theorem pre_succ {m : Mac} {ars : List (List Tv)} {i : Nat} {p : Piece} (h : m.body[i]? = some p) : pre m ars (i + 1) = pre m ars i ++ pieceToks ars p := by
  unfold pre
  rw [List.take_add_one, h]
  simp
theorem pre_all {m : Mac} {ars : List (List Tv)} {i : Nat} (h : m.body.length ≤ i) : pre m ars i = listOf m ars := by
  unfold pre listOf; rw [List.take_of_length_le h]
theorem pre_le {m : Mac} {ars : List (List Tv)} (i : Nat) : (pre m ars i).length ≤ (listOf m ars).length := by
  unfold pre listOf
  conv => rhs; rw [← List.take_append_drop i m.body, List.flatMap_append, List.length_append]
  omega
/-- How list ends. -/
def LEnd (w : World) (m : Mac) (ars : List (List Tv)) (f : Flt) (e : Ending) (w' : World) : Prop :=
  Below w.heap.size w w' ∧ (20000 < (listOf m ars).length → e = .panicked [{ v := .iface 27 (.agg #[.int .i64 f.code, .string f.name, .int .i64 f.line, .int .i64 f.col]), recovered := false }]) ∧ (¬ 20000 < (listOf m ars).length → ∃ v, e = .returned v ∧ TokOwn w' (w.heap.size + 1) v (listOf m ars) ∧ ∀ y ∈ listOf m ars, y.fit)
theorem sign_fit (x : Tv) (c : UInt8) : (signAt x (str [c])).fit := ⟨by show (-9223372036854775808 : Int) ≤ 0; omega, by show (0 : Int) ≤ _; omega, by show (-9223372036854775808 : Int) ≤ 0; omega, by show (0 : Int) ≤ _; omega, by show ([c].toArray).size ≤ maxLen; simp [maxLen]⟩
/-- The piece and the arguments lie as they lay. -/
theorem LSt.piece {w W w2 : World} {x : Tv} {v : Value} {acc : List Tv} {g : Nat} {o : Obj} (h : LSt w x W v acc) (ht : Turns (fun k => k = w.heap.size + 1 ∨ v.ownBlock = some k) W w2) (hg : W.heap[g]? = some o) (h1 : w.heap.size + 1 < g) (h2 : v.ownBlock ≠ some g) : w2.heap[g]? = some o :=
  (ht.block g (Array.getElem?_eq_some_iff.1 hg).1 (fun e => by rcases e with e | e; omega; exact h2 e)).trans hg
theorem blk8 {w : World} {b : Nat} {t : TypeId} {c0 c1 c2 c3 c4 c5 c6 c7 : Value} (h : w.heap[b]? = some (.cells #[c0, c1, c2, c3, c4, c5, c6, c7] t (0, 0))) :
    (w.cell? ⟨b, 0, none⟩ = some c0 ∧ w.cell? ⟨b, 1, none⟩ = some c1 ∧ w.cell? ⟨b, 2, none⟩ = some c2 ∧ w.cell? ⟨b, 3, none⟩ = some c3 ∧ w.cell? ⟨b, 4, none⟩ = some c4 ∧ w.cell? ⟨b, 5, none⟩ = some c5 ∧ w.cell? ⟨b, 6, none⟩ = some c6 ∧ w.cell? ⟨b, 7, none⟩ = some c7) ∧ b < w.heap.size :=
  ⟨⟨cell_of_row w b 0 _ _ _ h, cell_of_row w b 1 _ _ _ h, cell_of_row w b 2 _ _ _ h, cell_of_row w b 3 _ _ _ h, cell_of_row w b 4 _ _ _ h, cell_of_row w b 5 _ _ _ h, cell_of_row w b 6 _ _ _ h, cell_of_row w b 7 _ _ _ h⟩, (Array.getElem?_eq_some_iff.1 h).1⟩
theorem q_facts {q na nb : Nat} (h : q < nb) (hna : na = nb) (hl : na ≤ 200001) : IntKind.i64.wrap (q : Int) = q ∧ wrap64 (q : Int) = q ∧ (0 : Int) ≤ q ∧ (q : Int) < na ∧ (((q : Int) + 1) == 0) = false ∧ ((q + 1 : Nat) : Int) = (q : Int) + 1 :=
  ⟨wrap_small (by omega), IntWalk.wrap64_in _ (by omega), by omega, by omega, by rw [beq_eq_false_iff_ne]; omega, by omega⟩
set_option maxRecDepth 100000 in
set_option maxHeartbeats 16000000 in
theorem list_any {w : World} {X : Nat → Prop} {k : Nat} {m : Mac} (hm : IsMac w X k m) (x : Tv) (hx : x.fit) (ars : List (List Tv)) (A : Option Addr) (c : Nat) (ha : ArgsFix w X A ars) (hs : (m.groups.map Par.count).sum ≤ ars.length) (hl : ars.length ≤ 200001) (he : EnvL w) :
    Calls Tryz.prog 95 #[.pointer (some ⟨k, 0, none⟩), x.val, .slice A ars.length c] w (LEnd w m ars (failAt 3 x)) := by
  obtain ⟨A1, c1, A2, c2, hk, -, hp⟩ := hm.ex
  have hklt : k < w.heap.size := (Array.getElem?_eq_some_iff.1 hk).1
  have k1 : w.cell? ⟨k, 1, none⟩ = some (.slice A2 m.body.length c2) := cell_of_row w k 1 _ _ _ hk
  have HP := Lib.hid hp
  have HA := Lib.hid ha
  have HE := Lib.hid he
  have HX := Lib.hid hx
  have HBD : Hid (∀ p ∈ m.body, p.arg ≤ ars.length) := Lib.hid (fun p hp => Nat.le_trans (hm.few4 p hp) hs)
  have hf2 := hm.few2
  obtain ⟨n, hn⟩ : ∃ n, n = m.body.length := ⟨_, rfl⟩
  obtain ⟨na, hna⟩ : ∃ n, n = ars.length := ⟨_, rfl⟩
  obtain ⟨f, hff⟩ : ∃ f, f = failAt 3 x := ⟨_, rfl⟩
  have HFF := Lib.hid hff
  rw [← hn] at k1 hf2
  rw [← hna] at hl ⊢
  rw [← hff]
  have HN := Lib.hid hn
  have HNA := Lib.hid hna
  have L0 : Hid (LSt w x ((w.alloc (.cells #[.int .i64 x.k, .string x.t, .int .i64 x.p, .int .i64 x.q, .int .i64 x.a, .int .i64 x.c] 41)).alloc (.cells #[.slice none 0 0] 22)) (.slice none 0 0) (pre m ars 0)) :=
    Lib.hid ⟨blk_new2 w _ _, blk_alloc (heap_alloc_new w _) _, World.ownsRow_nil _ _ _ _, by show ([] : List Tv).length ≤ _; simp, ((Below.refl _ _).alloc (Nat.le_refl _) _).alloc (by simp) _, fun y hy => by simp [pre] at hy⟩
  have hmf : ∀ (fn : Fn) (first cap : Array Value) (w : World), (Instr.makeFunc fn first cap).run Tryz.prog w = .ok (.func fn first cap) w := fun _ _ _ _ => rfl
  unfold Tv.val
  clear hm hx ha hs he hk hp hn hna hff
  go_enter Tryz.func95, Tryz.ntmps95
  go_wp2_with fail
  go_loopw [17] (fun v wr => ∃ i : Nat, v = .int .i64 i ∧ i ≤ n ∧ ∃ bv, Hid (LSt w x wr bv (pre m ars i))) (fun v _ => n - (intOf v).toNat)
  case atStart => exact ⟨0, rfl, Nat.zero_le _, _, L0⟩
  case round =>
    clear L0 k1
    obtain ⟨i, rfl, hi, bv, hL⟩ := hrel
    by_cases hlt : i < n
    · obtain ⟨p, hpi⟩ : ∃ p, m.body[i]? = some p := ⟨_, List.getElem?_eq_getElem (by rw [← HN.out]; exact hlt)⟩
      obtain ⟨ad, rfl, hst, hat⟩ := HP.out.1 (by rw [← HN.out]; omega)
      have hpm := List.mem_of_getElem? hpi
      have hE : (ad.add (i * 8)).block = ad.block := block_of_add _ _
      obtain ⟨tx, t6, t7⟩ := hat i p hpi
      obtain ⟨⟨xb, xo, xs⟩, hE1⟩ : ∃ E, ad.add (i * 8) = E := ⟨_, rfl⟩
      rw [hE1] at tx t6 t7 hE
      simp only at hE t6 t7
      have hxw : xb < w.heap.size := by rw [hE]; exact hst.1
      have kc : ∀ q : Addr, q.block = xb → wr.cell? q = w.cell? q := fun q hq => hL.out.bel.cell (by omega)
      obtain ⟨x0, x1, x2, x3, x4, x5⟩ := tx.keep (w' := wr) kc
      have y6 := (kc ⟨xb, xo + 6, none⟩ rfl).trans t6
      have y7 := (kc ⟨xb, xo + 7, none⟩ rfl).trans t7
      simp only at x0 x1 x2 x3 x4 x5
      have hxb : xb < wr.heap.size := Nat.lt_of_lt_of_le hxw hL.out.bel.size
      have HPI := Lib.hid hpi
      have PS := Lib.hid (pre_succ (ars := ars) hpi)
      have HPF := Lib.hid (HP.out.2 p hpm)
      have HPA := Lib.hid (HBD.out p hpm)
      have hk0 : (0 : Int) ≤ (i : Int) := by omega
      have hk1 : (i : Int) < (n : Int) := by omega
      clear hpi hat hst hpm hE t6 t7 kc tx hxw
      have hPre := Lib.hid (pre_le (m := m) (ars := ars) (i + 1))
      by_cases h0 : p.arg = 0
      · have PT : Hid (pieceToks ars p = [p.tok]) := Lib.hid (by unfold pieceToks; rw [if_pos h0])
        rw [h0] at y6
        have hLP := Lib.hid (hL.out.below (Below.alloc (Below.refl wr.heap.size wr) (Nat.le_refl _) (.cells #[.int .i64 p.tok.k, .string p.tok.t, .int .i64 p.tok.p, .int .i64 p.tok.q, .int .i64 p.tok.a, .int .i64 p.tok.c, .int .i64 0, .bool p.text] 167)))
        have LW := Lib.hid (hLP.out.below (Below.alloc (Below.refl _ _) (Nat.le_refl _) (.cells #[.int .i64 p.tok.k, .string p.tok.t, .int .i64 p.tok.p, .int .i64 p.tok.q, .int .i64 p.tok.a, .int .i64 p.tok.c] 41)))
        have SL : Hid (TokSl ((wr.alloc (.cells #[.int .i64 p.tok.k, .string p.tok.t, .int .i64 p.tok.p, .int .i64 p.tok.q, .int .i64 p.tok.a, .int .i64 p.tok.c, .int .i64 0, .bool p.text] 167)).alloc (.cells #[.int .i64 p.tok.k, .string p.tok.t, .int .i64 p.tok.p, .int .i64 p.tok.q, .int .i64 p.tok.a, .int .i64 p.tok.c] 41)) ((wr.alloc (.cells #[.int .i64 p.tok.k, .string p.tok.t, .int .i64 p.tok.p, .int .i64 p.tok.q, .int .i64 p.tok.a, .int .i64 p.tok.c, .int .i64 0, .bool p.text] 167)).alloc (.cells #[.int .i64 p.tok.k, .string p.tok.t, .int .i64 p.tok.p, .int .i64 p.tok.q, .int .i64 p.tok.a, .int .i64 p.tok.c] 41)).heap.size (some ⟨wr.heap.size + 1, 0, none⟩) [p.tok]) := Lib.hid (toksl_one (blk_new2 wr _ _))
        clear h0
        go_wp2_with fail
        by_cases ho : 20000 < (pre m ars i).length + [p.tok].length
        · refine (add_bad (l := [p.tok]) (w.heap.size + 1) w.heap.size x (some ⟨wr.heap.size + 1, 0, none⟩) 1 f HFF.out LW.out.box LW.out.own LW.out.tb (HE.out.below LW.out.bel) HX.out LW.out.len (by simp) ho).mono ?_; rintro e w2 ⟨rfl, hb⟩
          exact ⟨rfl, LW.out.bel.trans (hb.mono LW.out.bel.size), fun _ => rfl, fun h => absurd (by have h1 := hPre.out; rw [PS.out, PT.out, List.length_append] at h1; omega) h⟩
        · refine (add_ok (l := [p.tok]) (w.heap.size + 1) w.heap.size (some ⟨wr.heap.size + 1, 0, none⟩) 1 LW.out.box LW.out.own LW.out.len (by simp) (fun e => by cases e) SL.out (by have := LW.out.bel.size; have := (Array.getElem?_eq_some_iff.1 LW.out.box).1; omega) ho).mono ?_; rintro e w2 ⟨rfl, v', hb, own, ht⟩
          have L2 := Lib.hid (LW.out.add hb own ht ho (fun y hy => by rw [List.mem_singleton] at hy; subst hy; exact HPF.out))
          rw [← PT.out, ← PS.out] at L2
          clear hb own ht
          go_wp2_with fail
          go_roundw
          case rel => exact ⟨i + 1, by go_num, by omega, _, L2⟩
          case measure => simp [intOf]; omega
      · obtain ⟨q, hq⟩ : ∃ q, p.arg = q + 1 := ⟨p.arg - 1, by omega⟩
        have hqa : q < ars.length := by have := HPA.out; omega
        obtain ⟨l, hal⟩ : ∃ l, ars[q]? = some l := ⟨_, List.getElem?_eq_getElem hqa⟩
        obtain ⟨g, rfl, hgs, hgc⟩ := HA.out (by omega)
        obtain ⟨A', c', hgq, hnil, htf, hln⟩ := hgc q l hal
        have hgD : ars.getD (p.arg - 1) [] = l := by rw [hq, Nat.add_sub_cancel, List.getD_eq_getElem?_getD, hal]; rfl
        have gq : wr.cell? ⟨g, q, none⟩ = some (.slice A' l.length c') := (hL.out.bel.cell hgs.1).trans hgq
        have hgw : g < wr.heap.size := Nat.lt_of_lt_of_le hgs.1 hL.out.bel.size
        rw [hq] at y6
        obtain ⟨hwq, hwq2, hq0, hq1, hqe, hcast⟩ := q_facts hqa HNA.out hl
        obtain ⟨b, hb⟩ : ∃ b, p.text = b := ⟨_, rfl⟩
        rw [hb] at y7
        have hLP := Lib.hid (hL.out.below (Below.alloc (Below.refl wr.heap.size wr) (Nat.le_refl _) (.cells #[.int .i64 p.tok.k, .string p.tok.t, .int .i64 p.tok.p, .int .i64 p.tok.q, .int .i64 p.tok.a, .int .i64 p.tok.c, .int .i64 ((q : Int) + 1), .bool b] 167)))
        obtain ⟨nl, hnl⟩ : ∃ n, n = l.length := ⟨_, rfl⟩
        rw [← hnl] at gq
        have HNL := Lib.hid hnl
        have HTF := Lib.hid htf
        have HNI := Lib.hid hnil
        have HLN := Lib.hid hln
        rw [hcast] at y6
        cases b
        · have PT : Hid (pieceToks ars p = [signAt p.tok (str [40])] ++ l ++ [signAt p.tok (str [41])]) := Lib.hid (by unfold pieceToks; rw [if_neg h0, hb, hgD]; rfl)
          obtain ⟨s1, hs1⟩ : ∃ s1, s1 = signAt p.tok (str [40]) := ⟨_, rfl⟩
          obtain ⟨s2, hs2⟩ : ∃ s2, s2 = signAt p.tok (str [41]) := ⟨_, rfl⟩
          rw [← hs1, ← hs2] at PT
          have CS1 : Hid (∀ W, Calls Tryz.prog 127 #[p.tok.val, .string (str [40])] W fun e w' => e = .returned s1.val ∧ Below W.heap.size W w') := Lib.hid (fun W => by rw [hs1]; exact signAt_any p.tok (str [40]) W)
          have CS2 : Hid (∀ W, Calls Tryz.prog 127 #[p.tok.val, .string (str [41])] W fun e w' => e = .returned s2.val ∧ Below W.heap.size W w') := Lib.hid (fun W => by rw [hs2]; exact signAt_any p.tok (str [41]) W)
          have F1 : Hid s1.fit := Lib.hid (by rw [hs1]; exact sign_fit _ _)
          have F2 : Hid s2.fit := Lib.hid (by rw [hs2]; exact sign_fit _ _)
          have PB0 := Lib.hid (heap_alloc_new wr (.cells #[.int .i64 p.tok.k, .string p.tok.t, .int .i64 p.tok.p, .int .i64 p.tok.q, .int .i64 p.tok.a, .int .i64 p.tok.c, .int .i64 ((q : Int) + 1), .bool false] 167))
          have HG : Hid (∀ W, Below w.heap.size w W → W.cell? ⟨g, q, none⟩ = some (.slice A' nl c')) := Lib.hid (fun W hW => by rw [hnl]; exact (hW.cell hgs.1).trans hgq)
          have HGW : Hid (g < w.heap.size) := Lib.hid hgs.1
          have HWR : Hid (w.heap.size + 1 < wr.heap.size) := Lib.hid (Array.getElem?_eq_some_iff.1 hL.out.box).1
          have HVW : Hid (bv.ownBlock ≠ some wr.heap.size) := Lib.hid (fun e => by have := (World.ownsRow.lt hL.out.own _ e).2; omega)
          have HBG : Hid (20000 < (pre m ars i).length + 1 + l.length + 1 → 20000 < (listOf m ars).length) := Lib.hid (fun h => by have h1 := hPre.out; rw [PS.out, PT.out] at h1; simp at h1; omega)
          have TOT : Hid (pre m ars (i + 1) = pre m ars i ++ [s1] ++ l ++ [s2]) := Lib.hid (by rw [PS.out, PT.out]; simp)
          unfold Tv.val at CS1 CS2
          clear h0 hal hgq hgc hgs hgD hb hq hqa hnl htf hnil hln hcast hs1 hs2 gq
          go_wp2_with fail
          refine (CS1.out _).mono ?_; rintro e w1 ⟨rfl, hb1⟩
          have LA := Lib.hid ((hLP.out.below hb1).below (Below.alloc (Below.refl _ _) (Nat.le_refl _) (.cells #[.int .i64 s1.k, .string s1.t, .int .i64 s1.p, .int .i64 s1.q, .int .i64 s1.a, .int .i64 s1.c] 41)))
          have PA := Lib.hid (blk_alloc ((hb1.block wr.heap.size (by simp)).trans PB0.out) (.cells #[.int .i64 s1.k, .string s1.t, .int .i64 s1.p, .int .i64 s1.q, .int .i64 s1.a, .int .i64 s1.c] 41))
          have SL : Hid (TokSl (w1.alloc (.cells #[.int .i64 s1.k, .string s1.t, .int .i64 s1.p, .int .i64 s1.q, .int .i64 s1.a, .int .i64 s1.c] 41)) (w1.alloc (.cells #[.int .i64 s1.k, .string s1.t, .int .i64 s1.p, .int .i64 s1.q, .int .i64 s1.a, .int .i64 s1.c] 41)).heap.size (some ⟨w1.heap.size, 0, none⟩) [s1]) := Lib.hid (toksl_one (heap_alloc_new w1 _))
          clear hb1
          go_wp2_with fail
          by_cases ho : 20000 < (pre m ars i).length + [s1].length
          · refine (add_bad (l := [s1]) (w.heap.size + 1) w.heap.size x (some ⟨w1.heap.size, 0, none⟩) 1 f HFF.out LA.out.box LA.out.own LA.out.tb (HE.out.below LA.out.bel) HX.out LA.out.len (by simp) ho).mono ?_; rintro e w2 ⟨rfl, hb⟩
            exact ⟨rfl, LA.out.bel.trans (hb.mono LA.out.bel.size), fun _ => rfl, fun h => absurd (HBG.out (by simp at ho; omega)) h⟩
          · refine (add_ok (l := [s1]) (w.heap.size + 1) w.heap.size (some ⟨w1.heap.size, 0, none⟩) 1 LA.out.box LA.out.own LA.out.len (by simp) (fun e => by cases e) SL.out (by have := LA.out.bel.size; have := (Array.getElem?_eq_some_iff.1 LA.out.box).1; omega) ho).mono ?_; rintro e w2 ⟨rfl, v2, hb, own, ht⟩
            have L2 := Lib.hid (LA.out.add hb own ht ho (fun y hy => by rw [List.mem_singleton] at hy; subst hy; exact F1.out))
            have P2 := Lib.hid (LA.out.piece ht PA.out HWR.out HVW.out)
            have V2 : Hid (v2.ownBlock ≠ some wr.heap.size) := Lib.hid (fun e => by obtain ⟨cur, hc⟩ := row_ty own e; exact absurd (heap_inj hc P2.out) (by decide))
            have gq2 := HG.out w2 L2.out.bel
            obtain ⟨⟨z0, z1, z2, z3, z4, z5, z6, z7⟩, zl⟩ := blk8 P2.out
            have gl2 : g < w2.heap.size := Nat.lt_of_lt_of_le HGW.out L2.out.bel.size
            clear hb own ht SL ho
            go_wp2_with fail
            by_cases ho : 20000 < (pre m ars i ++ [s1]).length + l.length
            · rw [HNL.out]
              refine (add_bad (l := l) (w.heap.size + 1) w.heap.size x A' c' f HFF.out L2.out.box L2.out.own L2.out.tb (HE.out.below L2.out.bel) HX.out L2.out.len HLN.out ho).mono ?_; rintro e w3 ⟨rfl, hb⟩
              exact ⟨rfl, L2.out.bel.trans (hb.mono L2.out.bel.size), fun _ => rfl, fun h => absurd (HBG.out (by simp at ho; omega)) h⟩
            · rw [HNL.out]
              refine (add_ok (l := l) (w.heap.size + 1) w.heap.size A' c' L2.out.box L2.out.own L2.out.len HLN.out HNI.out (HTF.out.at_ L2.out.bel) (by have := L2.out.bel.size; have := (Array.getElem?_eq_some_iff.1 L2.out.box).1; omega) ho).mono ?_; rintro e w3 ⟨rfl, v3, hb, own, ht⟩
              have L3 := Lib.hid (L2.out.add hb own ht ho HTF.out.2)
              have P3 := Lib.hid (L2.out.piece ht P2.out HWR.out V2.out)
              obtain ⟨⟨r0, r1, r2, r3, r4, r5, r6, r7⟩, rl⟩ := blk8 P3.out
              clear hb own ht ho z0 z1 z2 z3 z4 z5 z6 z7 gq2
              go_wp2_with fail
              refine (CS2.out _).mono ?_; rintro e w4 ⟨rfl, hb1⟩
              have LB := Lib.hid ((L3.out.below hb1).below (Below.alloc (Below.refl _ _) (Nat.le_refl _) (.cells #[.int .i64 s2.k, .string s2.t, .int .i64 s2.p, .int .i64 s2.q, .int .i64 s2.a, .int .i64 s2.c] 41)))
              have SL : Hid (TokSl (w4.alloc (.cells #[.int .i64 s2.k, .string s2.t, .int .i64 s2.p, .int .i64 s2.q, .int .i64 s2.a, .int .i64 s2.c] 41)) (w4.alloc (.cells #[.int .i64 s2.k, .string s2.t, .int .i64 s2.p, .int .i64 s2.q, .int .i64 s2.a, .int .i64 s2.c] 41)).heap.size (some ⟨w4.heap.size, 0, none⟩) [s2]) := Lib.hid (toksl_one (heap_alloc_new w4 _))
              clear hb1 r0 r1 r2 r3 r4 r5 r6 r7
              go_wp2_with fail
              by_cases ho : 20000 < (pre m ars i ++ [s1] ++ l).length + [s2].length
              · refine (add_bad (l := [s2]) (w.heap.size + 1) w.heap.size x (some ⟨w4.heap.size, 0, none⟩) 1 f HFF.out LB.out.box LB.out.own LB.out.tb (HE.out.below LB.out.bel) HX.out LB.out.len (by simp) ho).mono ?_; rintro e w5 ⟨rfl, hb⟩
                exact ⟨rfl, LB.out.bel.trans (hb.mono LB.out.bel.size), fun _ => rfl, fun h => absurd (HBG.out (by simp at ho; omega)) h⟩
              · refine (add_ok (l := [s2]) (w.heap.size + 1) w.heap.size (some ⟨w4.heap.size, 0, none⟩) 1 LB.out.box LB.out.own LB.out.len (by simp) (fun e => by cases e) SL.out (by have := LB.out.bel.size; have := (Array.getElem?_eq_some_iff.1 LB.out.box).1; omega) ho).mono ?_; rintro e w5 ⟨rfl, v5, hb, own, ht⟩
                have L5 := Lib.hid (LB.out.add hb own ht ho (fun y hy => by rw [List.mem_singleton] at hy; subst hy; exact F2.out))
                rw [← TOT.out] at L5
                clear hb own ht
                go_wp2_with fail
                go_roundw
                case rel => exact ⟨i + 1, by go_num, by omega, _, L5⟩
                case measure => simp [intOf]; omega
        · have PT : Hid (pieceToks ars p = l) := Lib.hid (by unfold pieceToks; rw [if_neg h0, hb, hgD]; rfl)
          clear h0 hal hgq hgc hgs hgD hb hq hqa hnl htf hnil hln hcast
          go_wp2_with fail
          by_cases ho : 20000 < (pre m ars i).length + l.length
          · rw [HNL.out]
            refine (add_bad (l := l) (w.heap.size + 1) w.heap.size x A' c' f HFF.out hLP.out.box hLP.out.own hLP.out.tb (HE.out.below hLP.out.bel) HX.out hLP.out.len HLN.out ho).mono ?_; rintro e w2 ⟨rfl, hb⟩
            exact ⟨rfl, hLP.out.bel.trans (hb.mono hLP.out.bel.size), fun _ => rfl, fun h => absurd (by have h1 := hPre.out; rw [PS.out, PT.out, List.length_append] at h1; omega) h⟩
          · rw [HNL.out]
            refine (add_ok (l := l) (w.heap.size + 1) w.heap.size A' c' hLP.out.box hLP.out.own hLP.out.len HLN.out HNI.out (HTF.out.at_ hLP.out.bel) (by have := hLP.out.bel.size; have := (Array.getElem?_eq_some_iff.1 hLP.out.box).1; omega) ho).mono ?_; rintro e w2 ⟨rfl, v', hb, own, ht⟩
            have L2 := Lib.hid (hLP.out.add hb own ht ho HTF.out.2)
            rw [← PT.out, ← PS.out] at L2
            clear hb own ht
            go_wp2_with fail
            go_roundw
            case rel => exact ⟨i + 1, by go_num, by omega, _, L2⟩
            case measure => simp [intOf]; omega
    · obtain rfl : i = n := by omega
      have PA := Lib.hid (pre_all (m := m) (ars := ars) (i := i) (by rw [← HN.out]; exact Nat.le_refl _))
      have hL' := hL.out
      rw [PA.out] at hL'
      have HL2 := Lib.hid hL'
      have b0 : wr.cell? ⟨w.heap.size + 1, 0, none⟩ = some bv := cell_of_row wr _ 0 _ _ _ hL'.box
      clear hL hL'
      go_wp2_with fail
      go_ret
      exact ⟨HL2.out.bel, fun h => absurd h (by have := HL2.out.len; omega), fun _ => ⟨_, rfl, HL2.out.own, HL2.out.fit⟩⟩
end Mx
end Go.Proofs.YtnhcjgnohnedaaaGreatDoor
