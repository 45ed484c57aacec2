/-
  Package macro: definitions, the mathematics of the walk.
  Contracts of package macro: definitions, the walk.
-/
import Derived.Test.YtnhcjgnohnedaaaGreatDoorMxYb
import Derived.Carry
import Derived.Deep.RegionHeld3
namespace Go.Proofs.YtnhcjgnohnedaaaGreatDoor
open Go.RowKit

namespace Mx
/-- What is done behind a token that may begin a group. -/
def aft (k : Nat) (pl : Pl) (gs : List Par) (t : Tv) (s : St) : Res (Pl × List Par × Tv) := (if isSign t (str [40]) then (parGroup k pl >>= fun r => parGroups k r.1 (gs ++ [r.2])) else (pure (pl, gs, t) : M (Pl × List Par × Tv))) s
theorem grps_bad {k : Nat} {pl : Pl} {gs : List Par} {s : St} {e : Flt} (h : read s = .bad e) : parGroups (k + 1) pl gs s = .bad e := by simp [parGroups, bind, M.bind, h]
theorem grps_ok {k : Nat} {pl : Pl} {gs : List Par} {s s1 : St} {t : Tv} (h : read s = .ok t s1) : parGroups (k + 1) pl gs s = aft k pl gs t s1 := by simp [parGroups, aft, bind, M.bind, h]
theorem aft_no {k : Nat} {pl : Pl} {gs : List Par} {s : St} {t : Tv} (h : isSign t (str [40]) = false) : aft k pl gs t s = .ok (pl, gs, t) s := by simp [aft, h, pure]
theorem aft_bad {k : Nat} {pl : Pl} {gs : List Par} {s : St} {t : Tv} {e : Flt} (h : isSign t (str [40]) = true) (h1 : parGroup k pl s = .bad e) : aft k pl gs t s = .bad e := by simp [aft, h, bind, M.bind, h1]
theorem aft_ok {k : Nat} {pl : Pl} {gs : List Par} {s s1 : St} {t : Tv} {r : Pl × Par} (h : isSign t (str [40]) = true) (h1 : parGroup k pl s = .ok r s1) : aft k pl gs t s = parGroups k r.1 (gs ++ [r.2]) s1 := by simp [aft, h, bind, M.bind, h1]
theorem def_bad1 {f : Nat} {s : St} {e : Flt} (h : readName s = .bad e) : define f s = .bad e := by simp [define, bind, M.bind, h]
theorem def_bad2 {f : Nat} {s s1 : St} {na : Tv} {e : Flt} (h : readName s = .ok na s1) (h1 : parGroups f [] [] s1 = .bad e) : define f s = .bad e := by simp [define, bind, M.bind, h, h1]
theorem def_no {f : Nat} {s s1 s2 : St} {na t : Tv} {pl : Pl} {gs : List Par} (h : readName s = .ok na s1) (h1 : parGroups f [] [] s1 = .ok (pl, gs, t) s2) (h2 : isSign t (str [61]) = false) : define f s = .bad (failAt 11 t) := by simp [define, bind, M.bind, h, h1, demand, h2, bad]
theorem def_bad3 {f : Nat} {s s1 s2 : St} {na t : Tv} {pl : Pl} {gs : List Par} {e : Flt} (h : readName s = .ok na s1) (h1 : parGroups f [] [] s1 = .ok (pl, gs, t) s2) (h2 : isSign t (str [61]) = true) (h3 : body f pl 0 [] s2 = .bad e) : define f s = .bad e := by simp [define, bind, M.bind, h, h1, demand, h2, pure, h3]
theorem def_ok {f : Nat} {s s1 s2 s3 : St} {na t : Tv} {pl : Pl} {gs : List Par} {b : List Piece} (h : readName s = .ok na s1) (h1 : parGroups f [] [] s1 = .ok (pl, gs, t) s2) (h2 : isSign t (str [61]) = true) (h3 : body f pl 0 [] s2 = .ok b s3) : define f s = .ok () (setMean na.t (.mac ⟨gs, b⟩) s3) := by
  simp [define, bind, M.bind, h, h1, demand, h2, pure, h3, modify]
theorem restP_len : ∀ (k : Nat) {text : Bool} {pl : Pl} {n : Nat} {s s1 : St} {r : Pl × Par}, restP k text pl n s = .ok r s1 → r.1.length + n = pl.length + r.2.count ∧ s.steps ≤ s1.steps
  | 0, _, _, _, _, _, _, h => by simp [restP, params, early, bind, M.bind] at h
  | k + 1, text, pl, n, s, s1, r, h => by
    cases hr : readName s with
    | bad e => rw [par_bad1 hr] at h; cases h
    | ok x s2 =>
      have e2 := readName_steps hr
      by_cases h0 : 0 < plIdx pl x.t
      · rw [par_twice hr h0] at h; cases h
      · cases hq : read s2 with
        | bad e => rw [par_bad2 hr h0 hq] at h; cases h
        | ok y s3 =>
          have e3 := read_steps hq
          cases h3 : (text || !isSign y (str [44]))
          · rw [par_more hr h0 hq h3] at h
            obtain ⟨h4, h5⟩ := restP_len k h
            rw [List.length_append] at h4
            simp at h4
            exact ⟨by omega, by omega⟩
          · cases h4 : isSign y (str [41])
            · rw [par_no hr h0 hq h3 h4] at h; cases h
            · rw [par_end hr h0 hq h3 h4] at h
              injection h with h5 h6
              subst h5 h6
              exact ⟨by simp; omega, by omega⟩
theorem grp_len {f : Nat} {pl : Pl} {s s1 : St} {r : Pl × Par} (h : parGroup f pl s = .ok r s1) : r.1.length = pl.length + r.2.count ∧ s.steps + 1 ≤ s1.steps := by
  cases hr : readName s with
  | bad e => rw [grp_bad hr] at h; cases h
  | ok x s2 =>
    have e2 := readName_steps hr
    by_cases h0 : x.t = sExpr ∨ x.t = sText
    · rw [grp_ok (text := decide (x.t = sText)) hr h0 rfl] at h
      obtain ⟨h1, h2⟩ := restP_len f h
      exact ⟨by omega, by omega⟩
    · rw [grp_no hr h0] at h; cases h
/-- Groups of parameters in a row of the call's own. -/
def rowG (l : List Par) : List Value := l.flatMap fun g => [.bool g.text, .int .i64 g.count]
theorem rowG_get : ∀ (l : List Par) (j : Nat) (g : Par), l[j]? = some g → (rowG l)[j * 2]? = some (.bool g.text) ∧ (rowG l)[j * 2 + 1]? = some (.int .i64 g.count)
  | [], j, x, h => by simp at h
  | y :: l, 0, x, h => by simp at h; subst h; exact ⟨rfl, rfl⟩
  | y :: l, j + 1, x, h => by
    have := rowG_get l j x (by simpa using h)
    rw [show rowG (y :: l) = [.bool y.text, .int .i64 y.count] ++ rowG l from rfl]
    rw [show (j + 1) * 2 = j * 2 + 2 by omega, show j * 2 + 2 + 1 = (j * 2 + 1) + 2 by omega]
    exact ⟨by rw [List.getElem?_append_right (by simp)]; simpa using this.1, by rw [List.getElem?_append_right (by simp)]; simpa using this.2⟩
def ParOwn (w : World) (B : Nat) (v : Value) (l : List Par) : Prop := w.ownsRow B 131 2 v l.length (rowG l)
theorem ParOwn.fix {w : World} {B : Nat} {v : Value} {l : List Par} {X : Nat → Prop} (h : ParOwn w B v l) (hX : ∀ k, v.ownBlock = some k → ¬ X k) : ∃ A c, v = .slice A l.length c ∧ ParFix w X A l := by
  rcases h.2 with ⟨rfl, h0⟩ | ⟨g, cap, cur, rfl, hB, hg, hn, hc, hs, ht⟩
  · rw [h0]; exact ⟨none, 0, rfl, fun h => by omega⟩
  · refine ⟨some ⟨g, 0, none⟩, cap, rfl, fun _ => ⟨⟨g, 0, none⟩, rfl, ⟨(Array.getElem?_eq_some_iff.1 hg).1, hX g rfl⟩, fun j y hy => ?_⟩⟩
    have key : ∀ i u, (rowG l)[i]? = some u → w.cell? ⟨g, i, none⟩ = some u := fun i u hu => by
      have := World.ownsRow.cells h (g := g) rfl i u hu
      rwa [addr_row8] at this
    rw [addr_row8]
    exact ⟨key _ _ (rowG_get l j y hy).1, key _ _ (rowG_get l j y hy).2⟩
theorem ParOwn.push {w : World} {B : Nat} {v : Value} {l : List Par} {g : Par} (h : w.ownsRow B 131 2 v (l.length + 1) (rowG l ++ [.bool g.text, .int .i64 g.count])) : ParOwn w B v (l ++ [g]) := by
  unfold ParOwn
  rw [List.length_append, show rowG (l ++ [g]) = rowG l ++ [.bool g.text, .int .i64 g.count] by simp [rowG]]
  exact h
/-- What define keeps for itself. -/
def four (P : Nat → Prop) (nb km mb tb : Nat) : Nat → Prop := also (also (also (also P nb) km) mb) tb
/-- Between two groups. -/
structure DRnd (w : World) (B b σ : Nat) (M P : Nat → Prop) (R : Res (Pl × List Par × Tv)) (na : Tv) (nb km mb tb k : Nat) (t : Tv) (v : Value) (pl : Pl) (gs : List Par) (wr : World) (s' : St) (M' : Nat → Prop) (s0 : Nat) : Prop where
  eq : R = aft k pl gs t s'
  fuel : 200001 ≤ k + s'.steps
  H : Holds wr B b (σ + 1) M' (row (four P nb km mb tb) v) s'
  G : Grows w M M'
  T : Turns M w wr
  zn : wr.heap[nb]? = some (.cells #[.int .i64 na.k, .string na.t, .int .i64 na.p, .int .i64 na.q, .int .i64 na.a, .int .i64 na.c] 41)
  zk : wr.heap[km]? = some (.cells #[v, .slice none 0 0] 129)
  zt : wr.heap[tb]? = some (.cells #[.int .i64 t.k, .string t.t, .int .i64 t.p, .int .i64 t.q, .int .i64 t.a, .int .i64 t.c] 41)
  own : ParOwn wr B v gs
  pls : Places wr mb pl
  nw : ∀ k, v.ownBlock = some k → tb < k
  len : pl.length ≤ s'.steps
  gl : gs.length ≤ s'.steps
  cnt : ∀ g ∈ gs, g.count ≤ 200001
  sum : pl.length = (gs.map Par.count).sum
  tf : t.fit
  st : s0 ≤ s'.steps
end Mx
end Go.Proofs.YtnhcjgnohnedaaaGreatDoor

namespace Go.Proofs.YtnhcjgnohnedaaaGreatDoor
open Go.RowKit

namespace Mx
theorem g_facts {n k : Nat} (h1 : n ≤ k) (h2 : k ≤ 200000) : n + 1 ≤ maxLen ∧ (n + 1) * 16 ≤ 140737488355328 := ⟨by unfold maxLen; omega, by omega⟩
theorem par_one (gt : Bool) (gc : Nat) : ∀ u ∈ ([.bool gt, .int .i64 gc] : List Value), u.oneCell' = true := by
  intro u hu; simp at hu; rcases hu with rfl | rfl <;> rfl
theorem fu_step' {k k' a b c : Nat} (h : 200001 ≤ k + a) (hk : k = k' + 1) (h1 : a + 1 ≤ b) (h2 : c = b + 1) : 200001 ≤ k' + c := by omega
theorem le_s {a b c : Nat} (h : a ≤ b) (h2 : c = b + 1) : a ≤ c := by omega
theorem gl_step {gs : List Par} {g : Par} {a b c : Nat} (h : gs.length ≤ a) (h1 : a + 1 ≤ b) (h2 : c = b + 1) : (gs ++ [g]).length ≤ c := by rw [List.length_append]; simp; omega
theorem sum_step {pl pl2 : Pl} {gs : List Par} {gt : Bool} {gc : Nat} (h : pl2.length = pl.length + gc) (h1 : pl.length = (gs.map Par.count).sum) : pl2.length = ((gs ++ [(⟨gt, gc⟩ : Par)]).map Par.count).sum := by rw [h, h1]; simp
theorem cnt_le {a b c : Nat} (h : a ≤ b) (h1 : b ≤ c) (h2 : c ≤ 200000) : a ≤ 200001 := by omega
theorem le_s2 {z a b c : Nat} (h : z ≤ a) (h1 : a + 1 ≤ b) (h2 : c = b + 1) : z ≤ c := by omega
theorem k_pos {k a : Nat} (h : 200001 ≤ k + a) (h1 : a ≤ 200000) : ∃ k', k = k' + 1 := ⟨k - 1, by omega⟩
theorem ord_all {w nb km mb tb : Nat} (h : w ≤ nb ∧ nb < km ∧ km < mb ∧ mb < tb) : nb ≠ km ∧ km ≠ mb ∧ nb ≠ mb ∧ tb ≠ mb ∧ tb ≠ km ∧ mb ≠ km ∧ w ≤ km ∧ w ≤ mb ∧ w ≤ tb ∧ km < tb ∧ nb < tb ∧ mb < tb := by omega
theorem lt_le_no {a b c : Nat} (h : a < b) (h1 : b ≤ c) (h2 : c ≤ a) : False := by omega
theorem tb_lt {tb k a : Nat} (h : tb < a) (h1 : a ≤ k) : tb < k := by omega
theorem few_a {a b : Nat} (h1 : a ≤ b) (h2 : b ≤ 200000) : a ≤ 200001 := by omega
theorem few_b {a : Nat} (h1 : a ≤ 200000) : a ≤ 200001 := by omega
theorem st_sum {f s a k : Nat} (h1 : s ≤ a) (h3 : 200001 ≤ f + s) : 200001 ≤ f + a := by omega
theorem gr_blk {w w' : World} {r : Option Nat} {g : Nat} {o : Obj} (h : w.grownBy w' r) (hg : w.heap[g]? = some o) (hn : some g ≠ r) : w'.heap[g]? = some o := (h.block g (Array.getElem?_eq_some_iff.1 hg).1 hn).trans hg
theorem plus_new {w : World} {M M' : Nat → Prop} {mb : Nat} (h : Grows w M M') (hm : w.heap.size ≤ mb) : Grows w M (plus M' mb) := fun k hk => by
  rcases hk with hk | hk
  · exact h k hk
  · exact Or.inr (by rw [hk]; exact hm)
set_option maxRecDepth 100000 in
set_option maxHeartbeats 16000000 in
theorem define_any {w : World} {B b σ : Nat} {M P : Nat → Prop} {s : St} (f : Nat) (hf : 200001 ≤ f + s.steps) (H : Holds w B b σ M P s) :
    Calls Tryz.prog 97 #[.pointer (some ⟨b, 0, none⟩)] w (Ends B b σ M P w (define f s) vUnit) := by
  have C1 := Lib.hid (readName_any H)
  have HF := Lib.hid hf
  have OLD := Lib.hid (fun k (hk : P k) => (H.lowP k hk).2.1)
  clear H hf
  have hmm := @run_makeMap Tryz.prog
  go_enter Tryz.func97, Tryz.ntmps97
  go_wp2_with fail
  refine C1.out.mono ?_; rintro e w1 ⟨M1, hG, ht, h⟩
  cases hq1 : readName s with
  | bad g =>
    rw [hq1] at h
    obtain rfl := h
    exact ⟨rfl, ends_bad (def_bad1 hq1) ht rfl⟩
  | ok na s1 =>
    rw [hq1] at h
    obtain ⟨v, rfl, ⟨⟨rfl, hna⟩, -⟩, hh⟩ := h
    have Q1 := Lib.hid hq1
    have ST1 := Lib.hid (readName_steps hq1)
    have HNA := Lib.hid hna
    have HA := Lib.hid ((((hh.slack (show σ + 1 ≤ σ + 4 by omega)).own (.cells #[.int .i64 na.k, .string na.t, .int .i64 na.p, .int .i64 na.q, .int .i64 na.a, .int .i64 na.c] 41)).own (.cells #[.slice none 0 0, .slice none 0 0] 129)).own (.map #[] 0))
    have TA := Lib.hid (((ht.then (Turns.alloc M w1 (.cells #[.int .i64 na.k, .string na.t, .int .i64 na.p, .int .i64 na.q, .int .i64 na.a, .int .i64 na.c] 41))).then (Turns.alloc M _ (.cells #[.slice none 0 0, .slice none 0 0] 129))).then (Turns.alloc M _ (.map #[] 0)))
    have G1 := Lib.hid hG
    have KN := Lib.hid (blk_alloc (blk_alloc (heap_alloc_new w1 (.cells #[.int .i64 na.k, .string na.t, .int .i64 na.p, .int .i64 na.q, .int .i64 na.a, .int .i64 na.c] 41)) (.cells #[.slice none 0 0, .slice none 0 0] 129)) (.map #[] 0))
    have KK := Lib.hid (blk_alloc (blk_new2 w1 (.cells #[.int .i64 na.k, .string na.t, .int .i64 na.p, .int .i64 na.q, .int .i64 na.a, .int .i64 na.c] 41) (.cells #[.slice none 0 0, .slice none 0 0] 129)) (.map #[] 0))
    have KP := Lib.hid (places_nil ((w1.alloc (.cells #[.int .i64 na.k, .string na.t, .int .i64 na.p, .int .i64 na.q, .int .i64 na.a, .int .i64 na.c] 41)).alloc (.cells #[.slice none 0 0, .slice none 0 0] 129)))
    have C2 := Lib.hid (read_any HA.out)
    have W1 := Lib.hid ht.size
    clear hq1 hG ht hh hna C1
    unfold Tv.val
    go_wp2_with fail
    refine C2.out.mono ?_; rintro e w3 ⟨M3, hG, ht, h⟩
    have T3 := Lib.hid (TA.out.trans G1.out ht)
    cases hq2 : read s1 with
    | bad g =>
      rw [hq2] at h
      obtain rfl := h
      obtain ⟨f', rfl⟩ : ∃ f', f = f' + 1 := ⟨f - 1, by have := HF.out; have h1 := HA.out.b1; have h2 := ST1.out; omega⟩
      exact ⟨rfl, ends_bad (def_bad2 Q1.out (grps_bad hq2)) T3.out rfl⟩
    | ok t s2 =>
      rw [hq2] at h
      obtain ⟨v, rfl, ⟨rfl, ht2⟩, hh⟩ := h
      obtain ⟨f', hf'⟩ : ∃ f', f = f' + 1 := ⟨f - 1, by have := HF.out; have h1 := HA.out.b1; have h2 := ST1.out; omega⟩
      have hp := HA.out.lowP
      have st2 := read_steps hq2
      have n0 : also (also (also P w1.heap.size) (w1.alloc (.cells #[.int .i64 na.k, .string na.t, .int .i64 na.p, .int .i64 na.q, .int .i64 na.a, .int .i64 na.c] 41)).heap.size) ((w1.alloc (.cells #[.int .i64 na.k, .string na.t, .int .i64 na.p, .int .i64 na.q, .int .i64 na.a, .int .i64 na.c] 41)).alloc (.cells #[.slice none 0 0, .slice none 0 0] 129)).heap.size w1.heap.size := Or.inl (Or.inl (Or.inr rfl))
      have n1 : also (also (also P w1.heap.size) (w1.alloc (.cells #[.int .i64 na.k, .string na.t, .int .i64 na.p, .int .i64 na.q, .int .i64 na.a, .int .i64 na.c] 41)).heap.size) ((w1.alloc (.cells #[.int .i64 na.k, .string na.t, .int .i64 na.p, .int .i64 na.q, .int .i64 na.a, .int .i64 na.c] 41)).alloc (.cells #[.slice none 0 0, .slice none 0 0] 129)).heap.size (w1.heap.size + 1) := Or.inl (Or.inr (by simp))
      have n2 : also (also (also P w1.heap.size) (w1.alloc (.cells #[.int .i64 na.k, .string na.t, .int .i64 na.p, .int .i64 na.q, .int .i64 na.a, .int .i64 na.c] 41)).heap.size) ((w1.alloc (.cells #[.int .i64 na.k, .string na.t, .int .i64 na.p, .int .i64 na.q, .int .i64 na.a, .int .i64 na.c] 41)).alloc (.cells #[.slice none 0 0, .slice none 0 0] 129)).heap.size ((w1.alloc (.cells #[.int .i64 na.k, .string na.t, .int .i64 na.p, .int .i64 na.q, .int .i64 na.a, .int .i64 na.c] 41)).alloc (.cells #[.slice none 0 0, .slice none 0 0] 129)).heap.size := Or.inr rfl
      have KN3 := blk_alloc ((ht.block _ (hp _ n0).2.1 (hp _ n0).2.2).trans KN.out) (.cells #[.int .i64 t.k, .string t.t, .int .i64 t.p, .int .i64 t.q, .int .i64 t.a, .int .i64 t.c] 41)
      have KK3 := blk_alloc ((ht.block _ (hp _ n1).2.1 (hp _ n1).2.2).trans KK.out) (.cells #[.int .i64 t.k, .string t.t, .int .i64 t.p, .int .i64 t.q, .int .i64 t.a, .int .i64 t.c] 41)
      have kp3 := KP.out.keep (ht.block _ (hp _ n2).2.1 (hp _ n2).2.2)
      have KP3 := kp3.keep (Below.heap_alloc w3 (.cells #[.int .i64 t.k, .string t.t, .int .i64 t.p, .int .i64 t.q, .int .i64 t.a, .int .i64 t.c] 41) _ kp3.lt)
      have hw3 : w1.heap.size + 3 ≤ w3.heap.size := by have := ht.size; simp at this; omega
      have R0 : Hid (DRnd w B b σ M P (parGroups f [] [] s1) na w1.heap.size (w1.heap.size + 1) (w1.heap.size + 1 + 1) w3.heap.size f' t (.slice none 0 0) [] [] (w3.alloc (.cells #[.int .i64 t.k, .string t.t, .int .i64 t.p, .int .i64 t.q, .int .i64 t.a, .int .i64 t.c] 41)) s2 M3 s.steps) :=
        Lib.hid ⟨by rw [hf']; exact grps_ok hq2, by have := HF.out; have h2 := ST1.out; omega, (((hh.slack (show σ + 1 ≤ σ + 1 + 4 by omega)).own (.cells #[.int .i64 t.k, .string t.t, .int .i64 t.p, .int .i64 t.q, .int .i64 t.a, .int .i64 t.c] 41)).noRow (v := .slice none 0 0) rfl).less (fun k hk => by
            rcases hk with ((((hk | hk) | hk) | hk) | hk) | hk
            · exact Or.inl (Or.inl (Or.inl (Or.inl (Or.inl hk))))
            · exact Or.inl (Or.inl (Or.inl (Or.inl (Or.inr hk))))
            · exact Or.inl (Or.inl (Or.inl (Or.inr (by rw [hk]; simp))))
            · exact Or.inl (Or.inl (Or.inr (by rw [hk]; simp)))
            · exact Or.inl (Or.inr hk)
            · exact Or.inr hk),
          G1.out.trans hG (Nat.le_trans W1.out (by simp; omega)), T3.out.then (Turns.alloc M w3 (.cells #[.int .i64 t.k, .string t.t, .int .i64 t.p, .int .i64 t.q, .int .i64 t.a, .int .i64 t.c] 41)), KN3, KK3, heap_alloc_new w3 _, World.ownsRow_nil _ _ _ _, by have := KP3; simpa using this, fun k hk => by simp [Value.ownBlock] at hk, Nat.zero_le _, Nat.zero_le _, fun g hg => by simp at hg, rfl, ht2, by have h2 := ST1.out; omega⟩
      obtain ⟨RG, hRG⟩ : ∃ RG, RG = parGroups f [] [] s1 := ⟨_, rfl⟩
      rw [← hRG] at R0
      have HRG := Lib.hid hRG
      have W3 : Hid (w1.heap.size + 3 ≤ w3.heap.size) := Lib.hid hw3
      clear hq2 hG ht hh hp st2 n0 n1 n2 KN3 KK3 kp3 KP3 hw3 hRG C2 ht2
      unfold Tv.val
      go_wp2_with fail
      have ORD : Hid (w.heap.size ≤ w1.heap.size ∧ w1.heap.size < w1.heap.size + 1 ∧ w1.heap.size + 1 < w1.heap.size + 1 + 1 ∧ w1.heap.size + 1 + 1 < w3.heap.size) := Lib.hid ⟨W1.out, by omega, by omega, by have := W3.out; omega⟩
      have HRD := Lib.hid (fun (pl : Pl) (gs : List Par) (t : Tv) (s2 : St) (h : RG = .ok (pl, gs, t) s2) => And.intro (fun (h2 : isSign t (str [61]) = false) => def_no Q1.out (HRG.out.symm.trans h) h2) (And.intro (fun (h2 : isSign t (str [61]) = true) (e : Flt) (h3 : body f pl 0 [] s2 = .bad e) => def_bad3 Q1.out (HRG.out.symm.trans h) h2 h3) (fun (h2 : isSign t (str [61]) = true) (bo : List Piece) (s3 : St) (h3 : body f pl 0 [] s2 = .ok bo s3) => def_ok Q1.out (HRG.out.symm.trans h) h2 h3)))
      have HRB := Lib.hid (fun (e : Flt) (h : RG = .bad e) => def_bad2 Q1.out (HRG.out.symm.trans h))
      clear KN KK KP W3 W1 HRG Q1 HA TA G1 T3
      generalize w1.heap.size + 1 + 1 = mb at *
      generalize w1.heap.size + 1 = km at *
      generalize w1.heap.size = nb at *
      generalize w3.heap.size = tb at *
      generalize define f s = R at *
      go_loopg [] f' (fun k wr => ∃ (t : Tv) (v : Value) (pl : Pl) (gs : List Par) (s' : St) (M' : Nat → Prop), Hid (DRnd w B b σ M P RG na nb km mb tb k t v pl gs wr s' M' s.steps))
      case atStart => exact ⟨t, _, [], [], s2, M3, R0⟩
      case round =>
        clear R0
        obtain ⟨tt, v, pl, gs, s', M', hr⟩ := hrel
        obtain ⟨⟨x0, x1, x2, x3, x4, x5⟩, -, xl⟩ := blk6 hr.out.zt
        have CN := Lib.hid (isSign_any tt (str [40]) wr)
        obtain ⟨bz, hbz⟩ : ∃ q, isSign tt (str [40]) = q := ⟨_, rfl⟩
        rw [hbz] at CN
        have HBZ := Lib.hid hbz
        unfold Tv.val at CN
        clear hbz
        go_wp2_with fail
        refine CN.out.mono ?_; rintro e w4 ⟨rfl, hb⟩
        have H4 := Lib.hid (hr.out.H.below hb)
        have T4 := Lib.hid (hr.out.T.then (Turns.of_below hb M))
        have KN4 := Lib.hid ((hb.block nb (Array.getElem?_eq_some_iff.1 hr.out.zn).1).trans hr.out.zn)
        have KK4 := Lib.hid ((hb.block km (Array.getElem?_eq_some_iff.1 hr.out.zk).1).trans hr.out.zk)
        have KT4 := Lib.hid ((hb.block tb (Array.getElem?_eq_some_iff.1 hr.out.zt).1).trans hr.out.zt)
        have OW4 := Lib.hid (row_keep hr.out.own (fun k hk => hb.block k (World.ownsRow.lt hr.out.own k hk).2))
        have PL4 := Lib.hid (hr.out.pls.keep (hb.block mb hr.out.pls.lt))
        clear hb x0 x1 x2 x3 x4 x5
        cases bz
        · have EA := Lib.hid (hr.out.eq.trans (aft_no HBZ.out))
          obtain ⟨hno, hb3, hdo⟩ := HRD.out pl gs tt s' EA.out
          have HB3 := Lib.hid hb3
          have HDO := Lib.hid hdo
          obtain ⟨⟨x0, x1, x2, x3, x4, x5⟩, -, xl4⟩ := blk6 KT4.out
          have ST : Hid (200001 ≤ f + s'.steps) := Lib.hid (st_sum (k := 0) hr.out.st HF.out)
          cases hd : isSign tt (str [61])
          · have HE := Lib.hid (hno hd)
            have CD := Lib.hid (demand_bad tt (str [61]) _ _ H4.out.env' hr.out.tf hd rfl)
            unfold Tv.val at CD
            clear hd hno hb3 hdo
            go_wp2_with fail
            refine CD.out.mono ?_; rintro e w5 ⟨rfl, hb⟩
            exact ⟨rfl, ends_bad HE.out (T4.out.then (Turns.of_below hb _)) rfl⟩
          · have HD := Lib.hid hd
            have CD := Lib.hid (demand_ok tt (str [61]) _ H4.out.env' hd)
            unfold Tv.val at CD
            clear hd hno hb3 hdo
            go_wp2_with fail
            refine CD.out.mono ?_; rintro e w5 ⟨rfl, hb⟩
            have H5 := Lib.hid (H4.out.below hb)
            have T5 := Lib.hid (T4.out.then (Turns.of_below hb M))
            have KN5 := Lib.hid ((hb.block nb (Array.getElem?_eq_some_iff.1 KN4.out).1).trans KN4.out)
            have KK5 := Lib.hid ((hb.block km (Array.getElem?_eq_some_iff.1 KK4.out).1).trans KK4.out)
            have OW5 := Lib.hid (row_keep OW4.out (fun k hk => hb.block k (World.ownsRow.lt OW4.out k hk).2))
            have PL5 := Lib.hid (PL4.out.keep (hb.block mb PL4.out.lt))
            have CB := Lib.hid (readBody_any pl mb f ST.out (Or.inl (Or.inl (Or.inr rfl))) PL5.out H5.out)
            clear hb x0 x1 x2 x3 x4 x5
            go_wp2_with fail
            refine CB.out.mono ?_; rintro e w6 ⟨M6, hG, ht, h⟩
            have T6 := Lib.hid (T5.out.trans hr.out.G ht)
            cases hq6 : body f pl 0 [] s' with
            | bad g =>
              rw [hq6] at h
              obtain rfl := h
              exact ⟨rfl, ends_bad (HB3.out HD.out g hq6) T6.out rfl⟩
            | ok bo s6 =>
              rw [hq6] at h
              obtain ⟨vb, rfl, hpo, hpn, hpf, hpa, hpl, hh⟩ := h
              have hp := H5.out.lowP
              have HE := Lib.hid (HDO.out HD.out bo s6 hq6)
              have KN6 := Lib.hid ((ht.block nb (hp nb (Or.inl (Or.inl (Or.inl (Or.inl (Or.inr rfl)))))).2.1 (hp nb (Or.inl (Or.inl (Or.inl (Or.inl (Or.inr rfl)))))).2.2).trans KN5.out)
              have KK6 := Lib.hid ((ht.block km (hp km (Or.inl (Or.inl (Or.inl (Or.inr rfl))))).2.1 (hp km (Or.inl (Or.inl (Or.inl (Or.inr rfl))))).2.2).trans KK5.out)
              have OW6 := Lib.hid (row_keep OW5.out (fun k hk => ht.block k (hp k (Or.inr hk)).2.1 (hp k (Or.inr hk)).2.2))
              have G6 := Lib.hid (hr.out.G.trans hG T5.out.size)
              have hp6 := hh.lowP
              have hX : ∀ k, (k = km ∨ v.ownBlock = some k ∨ vb.ownBlock = some k) → ¬ uni M6 P k := fun k hk hx => by
                have hpk : row (row (four P nb km mb tb) v) vb k := by
                  rcases hk with rfl | hk | hk
                  · exact Or.inl (Or.inl (Or.inl (Or.inl (Or.inr rfl))))
                  · exact Or.inl (Or.inr hk)
                  · exact Or.inr hk
                rcases hx with hx | hx
                · exact (hp6 k hpk).2.2 hx
                · have h1 := OLD.out k hx
                  have h2 := ORD.out
                  rcases hk with rfl | hk | hk
                  · exact lt_le_no h1 (ord_all h2).2.2.2.2.2.2.1 (Nat.le_refl _)
                  · exact lt_le_no h1 (ord_all h2).2.2.2.2.2.2.2.2.1 (Nat.le_of_lt (hr.out.nw k hk))
                  · exact lt_le_no h1 T5.out.size (hpn k hk)
              have hkv : ∀ k, v.ownBlock = some k → k ≠ km := fun k hk => Nat.ne_of_gt (Nat.lt_trans (ord_all ORD.out).2.2.2.2.2.2.2.2.2.1 (hr.out.nw k hk))
              have hkb : ∀ k, vb.ownBlock = some k → k ≠ km := row_ne hpo KK6.out (by decide)
              obtain ⟨A1, c1, hv1, hf1⟩ := ParOwn.fix (X := uni M6 P) (row_keep OW6.out (fun k hk => Below.heap_setCell w6 ⟨km, 1, none⟩ vb k (hkv k hk))) (fun k hk => hX k (Or.inr (Or.inl hk)))
              obtain ⟨A2, c2, rfl, hf2⟩ := PieceOwn.fix (X := uni M6 P) (row_keep hpo (fun k hk => Below.heap_setCell w6 ⟨km, 1, none⟩ vb k (hkb k hk))) (fun k hk => hX k (Or.inr (Or.inr hk))) hpf
              have hset := heap_set w6 km 1 (.slice A2 bo.length c2) _ _ KK6.out
              have hmac : IsMac (w6.setCell ⟨km, 1, none⟩ (.slice A2 bo.length c2)) (uni M6 P) km ⟨gs, bo⟩ :=
                ⟨⟨(Array.getElem?_eq_some_iff.1 hset).1, hX km (Or.inl rfl)⟩, ⟨A1, c1, A2, c2, by rw [hset, hv1]; rfl, hf1, hf2⟩, few_a hr.out.gl hr.out.H.b1, few_b hpl, hr.out.cnt, fun p hp => by have h1 := hpa p hp; rw [hr.out.sum] at h1; exact h1⟩
              have H7 := Lib.hid ((hh.wrote (p := ⟨km, 1, none⟩) (Or.inl (Or.inl (Or.inl (Or.inl (Or.inr rfl))))) (.slice A2 bo.length c2)).less (P' := P) (fun k hk => Or.inl (Or.inl (Or.inl (Or.inl (Or.inl (Or.inl hk)))))))
              have MAC := Lib.hid (hmac.turn (Turns.refl _ _).drew (Grows.refl _ _))
              have T7 := Lib.hid (T6.out.new1 (g := km) (ord_all ORD.out).2.2.2.2.2.2.1 1 (.slice A2 bo.length c2))
              have KN7 := Lib.hid ((Below.heap_setCell w6 ⟨km, 1, none⟩ (.slice A2 bo.length c2) nb (ord_all ORD.out).1).trans KN6.out)
              obtain ⟨kk0, kk1, kk2, kk3, kkl⟩ := cells2 KK6.out
              obtain ⟨⟨n0, n1, n2, n3, n4, n5⟩, -, nl⟩ := blk6 KN7.out
              have H7D := Lib.hid H7.out.drew
              obtain ⟨y, Pt⟩ := H7.out.parts
              have c9 := (ecells Pt.cells).c9
              have hlt := (ecells Pt.cells).lt
              have PD := Lib.hid (Parts.below H7.out Pt (Below.refl _ _).drew)
              obtain ⟨hmM, N, hmap, hN⟩ := PD.out.map
              obtain ⟨D, hD, hsp⟩ := hmap.ex
              obtain ⟨w9, hrun, own9, gr9⟩ := World.ownsMap.update hD str_key Tryz.underlying45 (small_n hN H7.out.b1) (key := .string na.t) (val := .iface 61 (.pointer (some ⟨km, 0, none⟩))) (d := .held (.iface 61 (.pointer (some ⟨km, 0, none⟩)))) (ps := []) (WideMaps.keyOf_string_mk Tryz.underlying9 HNA.out.ts) rfl
              have HM9 := Lib.hid (Holds.mapped (σ := σ) (m := .mac ⟨gs, bo⟩) H7D.out PD.out HNA.out.ts hD hsp hN ⟨km, rfl, MAC.out⟩ own9 gr9)
              clear hq6 hG ht hpo hpn hpf hpa hpl hh hp hp6 hX hkv hkb hv1 hf1 hf2 hset hmac Pt hmap hD hsp hN own9 gr9 hmM
              go_wp2_with fail
              go_region
              go_wp2_with fail
              go_end0
              exact ends_ok HE.out G6.out (T7.out.drew.trans G6.out HM9.out.2) rfl HM9.out.1
        · have CG := Lib.hid (readParameters_any pl mb gk hr.out.fuel (Or.inl (Or.inl (Or.inr rfl))) (PL4.out.keep (w' := w4.drew) rfl) hr.out.len (H4.out.drew.less (P' := row (four P nb km mb tb) v) (fun k hk => hk)))
          cases hq : parGroup gk pl s' with
          | bad g =>
            rw [hq] at CG
            have HE := Lib.hid (HRB.out g (hr.out.eq.trans (aft_bad HBZ.out hq)))
            obtain ⟨y0, y1, y2, y3, yl⟩ := cells2 KK4.out
            clear hq
            go_wp2_with fail
            go_region_dies
            all_goals (refine CG.out.mono ?_; rintro e w5 ⟨M5, hG, ht, rfl⟩; exact ⟨rfl, ends_bad HE.out (T4.out.drew.trans (plus_new hr.out.G (mb := mb) (ord_all ORD.out).2.2.2.2.2.2.2.1) ht) rfl⟩)
          | ok r s4 =>
            obtain ⟨pl2, gt, gc⟩ := r
            rw [hq] at CG
            obtain ⟨gl1, gl2⟩ := grp_len hq
            have GL1 : Hid (pl2.length = pl.length + gc) := Lib.hid gl1
            have GL2 : Hid (s'.steps + 1 ≤ s4.steps) := Lib.hid gl2
            have EA := Lib.hid (hr.out.eq.trans (aft_ok HBZ.out hq))
            obtain ⟨y0, y1, y2, y3, yl⟩ := cells2 KK4.out
            have hP4 := H4.out.lowP
            have nKM : ¬ plus M' mb km := fun h => by
              rcases h with h | h
              · exact (hP4 km (Or.inl (Or.inl (Or.inl (Or.inr rfl))))).2.2 h
              · exact (ord_all ORD.out).2.1 h
            have nNB : ¬ plus M' mb nb := fun h => by
              rcases h with h | h
              · exact (hP4 nb (Or.inl (Or.inl (Or.inl (Or.inl (Or.inr rfl)))))).2.2 h
              · exact (ord_all ORD.out).2.2.1 h
            have nTB : ¬ plus M' mb tb := fun h => by
              rcases h with h | h
              · exact (hP4 tb (Or.inl (Or.inr rfl))).2.2 h
              · exact (ord_all ORD.out).2.2.2.1 h
            have nV : ∀ k, v.ownBlock = some k → ¬ plus M' mb k := fun k hk h => by
              rcases h with h | h
              · exact (hP4 k (Or.inr hk)).2.2 h
              · exact Nat.ne_of_gt (Nat.lt_trans (ord_all ORD.out).2.2.2.2.2.2.2.2.2.2.2 (hr.out.nw k hk)) h
            have PLN := Lib.hid (plus_new hr.out.G (mb := mb) (ord_all ORD.out).2.2.2.2.2.2.2.1)
            have NKM := Lib.hid nKM
            have NNB := Lib.hid nNB
            have NTB := Lib.hid nTB
            have NV := Lib.hid nV
            obtain ⟨i0, hi0, hz0, hz1, hz2⟩ := info_parts info_par
            obtain ⟨ng, hng⟩ : ∃ n, n = gs.length := ⟨_, rfl⟩
            have HNG := Lib.hid hng
            obtain ⟨q3, q4⟩ := g_facts hr.out.gl hr.out.H.b1
            have Q3 := Lib.hid q3
            have Q4 := Lib.hid q4
            clear hq gl1 gl2 hP4 nKM nNB nTB nV hng q3 q4
            go_wp2_with fail
            go_region_law (first | (go_simp; go_at_call 128; refine CG.out.mono ?_; rintro e w5 ⟨M5, hG, ht, rfl, hp5, hl5, hc5, hh5⟩; have KK5 := Lib.hid ((ht.block km (Array.getElem?_eq_some_iff.1 KK4.out).1 NKM.out).trans KK4.out); have KN5 := Lib.hid ((ht.block nb (Array.getElem?_eq_some_iff.1 KN4.out).1 NNB.out).trans KN4.out); have KT5 := Lib.hid ((ht.block tb (Array.getElem?_eq_some_iff.1 KT4.out).1 NTB.out).trans KT4.out); have OW5 := Lib.hid (row_keep OW4.out (fun k hk => ht.block k (World.ownsRow.lt OW4.out k hk).2 (NV.out k hk))); have T5 := Lib.hid (T4.out.drew.trans PLN.out ht); have G5 := Lib.hid (hr.out.G.trans hG T4.out.drew.size); have H5 := Lib.hid hh5; have P5 := Lib.hid hp5; have L5 := Lib.hid hl5; have C5 := Lib.hid hc5; obtain ⟨z0, z1, z2, z3, zl⟩ := cells2 KK5.out; clear hG ht hp5 hl5 hc5 hh5) | (refine step_own rfl (.tmp 21) (.tmp 25) 126 rfl B 131 i0 (.agg #[.bool false, .int .i64 0]) 2 16 Tryz.underlying126 hi0 hz0 hz1 hz2 rfl (by decide) v gs.length (rowG gs) (by simp [Act.eval]) (World.ownsRow.alloc OW5.out _) ⟨w5.heap.size, 0, none⟩ 1 1 [.bool gt, .int .i64 gc] (by simp [Act.eval]) rfl (new_cells (heap_alloc_new w5 _)) (par_one gt gc) Q3.out Q4.out (Nat.le_trans H5.out.Bs (by simp)) ?_; intro v1 w9 own9 gr9 loc9; obtain ⟨g1, cap1, rfl, -, -, -⟩ := row_some own9; have KK9 := Lib.hid ((gr9.block km (Nat.lt_of_lt_of_le (Array.getElem?_eq_some_iff.1 KK5.out).1 (by simp)) (fun e => row_ne OW5.out KK5.out (by decide) km e.symm rfl)).trans (blk_alloc KK5.out _)); obtain ⟨k0, k1, k2, k3, kl⟩ := cells2 KK9.out; have O9 := Lib.hid own9; have GR9 := Lib.hid gr9; have L9 := Lib.hid loc9; clear own9 gr9 loc9))
            all_goals
              have hkt : km < tb ∧ nb < tb ∧ nb < km ∧ mb < tb ∧ km < mb ∧ w.heap.size ≤ nb := ⟨(ord_all ORD.out).2.2.2.2.2.2.2.2.2.1, (ord_all ORD.out).2.2.2.2.2.2.2.2.2.2.1, ORD.out.2.1, ORD.out.2.2.2, ORD.out.2.2.1, ORD.out.1⟩
              have KN9 := Lib.hid ((gr_blk GR9.out (blk_alloc KN5.out _) (fun e => row_ne OW5.out KN5.out (by decide) nb e.symm rfl)))
              have KT9 := Lib.hid ((gr_blk GR9.out (blk_alloc KT5.out _) (fun e => row_ne OW5.out KT5.out (by decide) tb e.symm rfl)))
              have PL9 := Lib.hid ((P5.out.keep (Below.heap_alloc w5 (.cells #[.bool gt, .int .i64 gc] 131) mb P5.out.lt)).keep (GR9.out.block mb (Nat.lt_of_lt_of_le P5.out.lt (by simp)) (fun e => by obtain ⟨cur, hc⟩ := row_ty OW5.out e.symm; exact P5.out.ne hc rfl)))
              have hv1 : (Value.slice (some ⟨g1, 0, none⟩) (gs.length + 1) cap1).ownBlock = v.ownBlock ∨ ∃ g, (Value.slice (some ⟨g1, 0, none⟩) (gs.length + 1) cap1).ownBlock = some g ∧ w5.heap.size ≤ g := L9.out.imp id (fun h => ⟨_, h, by simp⟩)
              have NW9 : Hid (∀ k, (Value.slice (some ⟨g1, 0, none⟩) (gs.length + 1) cap1).ownBlock = some k → tb < k) := Lib.hid (fun k hk => by
                rcases hv1 with h | ⟨g, h, hg⟩
                · exact hr.out.nw k (h ▸ hk)
                · rw [h] at hk; injection hk with hk; exact hk ▸ tb_lt (Array.getElem?_eq_some_iff.1 KT5.out).1 hg)
              have H9 := Lib.hid ((H5.out.alloc (.cells #[.bool gt, .int .i64 gc] 131)).grew GR9.out (v' := (Value.slice (some ⟨g1, 0, none⟩) (gs.length + 1) cap1)) (L9.out.imp id (fun h => Or.inr ⟨_, h, Nat.le_refl _⟩)) (fun k hk => (World.ownsRow.lt O9.out k hk).2) ((notExp_row OW5.out (by decide)).below ((Below.refl _ _).alloc (Nat.le_refl _) _) (fun k hk => (World.ownsRow.lt OW5.out k hk).2)))
              have T9 := Lib.hid ((T5.out.then (Turns.alloc M w5 (.cells #[.bool gt, .int .i64 gc] 131))).grewNew GR9.out (fun k hk => Nat.le_trans (ord_all ORD.out).2.2.2.2.2.2.2.2.1 (Nat.le_of_lt (hr.out.nw k hk))))
              have KK10 := Lib.hid (heap_set w9 km 0 (Value.slice (some ⟨g1, 0, none⟩) (gs.length + 1) cap1) _ _ KK9.out)
              have KN10 := Lib.hid ((Below.heap_setCell w9 ⟨km, 0, none⟩ (Value.slice (some ⟨g1, 0, none⟩) (gs.length + 1) cap1) nb (ord_all ORD.out).1).trans KN9.out)
              have KT10 := Lib.hid ((Below.heap_setCell w9 ⟨km, 0, none⟩ (Value.slice (some ⟨g1, 0, none⟩) (gs.length + 1) cap1) tb (ord_all ORD.out).2.2.2.2.1).trans KT9.out)
              have PL10 := Lib.hid (PL9.out.keep (Below.heap_setCell w9 ⟨km, 0, none⟩ (Value.slice (some ⟨g1, 0, none⟩) (gs.length + 1) cap1) mb (ord_all ORD.out).2.2.2.2.2.1))
              have OW10 : Hid (ParOwn (w9.setCell ⟨km, 0, none⟩ (Value.slice (some ⟨g1, 0, none⟩) (gs.length + 1) cap1)) B (Value.slice (some ⟨g1, 0, none⟩) (gs.length + 1) cap1) (gs ++ [⟨gt, gc⟩])) := Lib.hid (row_keep (ParOwn.push (g := ⟨gt, gc⟩) O9.out) (fun k hk => Below.heap_setCell w9 ⟨km, 0, none⟩ (Value.slice (some ⟨g1, 0, none⟩) (gs.length + 1) cap1) k (Nat.ne_of_gt (Nat.lt_trans (ord_all ORD.out).2.2.2.2.2.2.2.2.2.1 (NW9.out k hk)))))
              have H10 := Lib.hid (H9.out.wrote (p := ⟨km, 0, none⟩) (Or.inl (Or.inl (Or.inl (Or.inr rfl)))) (Value.slice (some ⟨g1, 0, none⟩) (gs.length + 1) cap1))
              have T10 := Lib.hid (T9.out.new1 (g := km) (ord_all ORD.out).2.2.2.2.2.2.1 0 (Value.slice (some ⟨g1, 0, none⟩) (gs.length + 1) cap1))
              have C6 := Lib.hid (read_any H10.out)
              obtain ⟨k', hk'⟩ := k_pos hr.out.fuel hr.out.H.b1
              have HK' := Lib.hid hk'
              have OR2 := Lib.hid hkt
              clear hkt hv1 hk'
              go_wp2_with fail
              refine C6.out.mono ?_; rintro e w11 ⟨M11, hG, ht, h⟩
              have T11 := Lib.hid (T10.out.trans G5.out ht)
              cases hq6 : read s4 with
              | bad g =>
                rw [hq6] at h
                obtain rfl := h
                exact ⟨rfl, ends_bad (HRB.out g (EA.out.trans (by rw [HK'.out]; exact grps_bad hq6))) T11.out rfl⟩
              | ok t5 s5 =>
                rw [hq6] at h
                obtain ⟨v5, rfl, ⟨rfl, ht5⟩, hh⟩ := h
                have hp := H10.out.lowP
                have KN11 := Lib.hid ((ht.block nb (hp nb (Or.inl (Or.inl (Or.inl (Or.inl (Or.inr rfl)))))).2.1 (hp nb (Or.inl (Or.inl (Or.inl (Or.inl (Or.inr rfl)))))).2.2).trans KN10.out)
                have KK11 := Lib.hid ((ht.block km (hp km (Or.inl (Or.inl (Or.inl (Or.inr rfl))))).2.1 (hp km (Or.inl (Or.inl (Or.inl (Or.inr rfl))))).2.2).trans KK10.out)
                have KT11 := Lib.hid ((ht.block tb (hp tb (Or.inl (Or.inr rfl))).2.1 (hp tb (Or.inl (Or.inr rfl))).2.2).trans KT10.out)
                have PL11 := Lib.hid (PL10.out.keep (ht.block mb (hp mb (Or.inl (Or.inl (Or.inr rfl)))).2.1 (hp mb (Or.inl (Or.inl (Or.inr rfl)))).2.2))
                have OW11 := Lib.hid (row_keep OW10.out (fun k hk => ht.block k (hp k (Or.inr hk)).2.1 (hp k (Or.inr hk)).2.2))
                have G11 := Lib.hid (G5.out.trans hG T10.out.size)
                have H11 := Lib.hid (hh.slack (show σ + 1 ≤ σ + 1 + 4 by omega))
                have EQ11 : Hid (RG = aft k' pl2 (gs ++ [⟨gt, gc⟩]) t5 s5) := Lib.hid (EA.out.trans (by rw [HK'.out]; exact grps_ok hq6))
                have ST11 := Lib.hid (read_steps hq6)
                have HT5 := Lib.hid ht5
                obtain ⟨⟨x0, x1, x2, x3, x4, x5⟩, ⟨u0, u1, u2, u3, u4, u5⟩, xl⟩ := blk6 KT11.out
                clear hq6 hG ht hp hh ht5 C6
                unfold Tv.val
                go_wp2_with fail
                go_roundg k'
                case measure => rw [HK'.out]; exact Nat.lt_succ_self _
                case rel =>
                  obtain ⟨o1, o2, o3, o4, o5, o6⟩ := OR2.out
                  refine ⟨t5, (Value.slice (some ⟨g1, 0, none⟩) (gs.length + 1) cap1), pl2, gs ++ [⟨gt, gc⟩], s5, M11, ⟨EQ11.out, fu_step' hr.out.fuel HK'.out GL2.out ST11.out, H11.out.wrote6 (Or.inl (Or.inr rfl)) _ _ _ _ _ _, G11.out, T11.out.new6 (Nat.le_trans o6 (Nat.le_of_lt o2)) _ _ _ _ _ _, (far6 (Nat.ne_of_lt o2) _ _ _ _ _ _).trans KN11.out, (far6 (Nat.ne_of_lt o1) _ _ _ _ _ _).trans KK11.out, set6 KT11.out _ _ _ _ _ _, row_keep OW11.out (fun k hk => far6 (Nat.ne_of_gt (NW9.out k hk)) _ _ _ _ _ _), PL11.out.keep (far6 (Nat.ne_of_lt o4) _ _ _ _ _ _), NW9.out, le_s L5.out ST11.out, gl_step hr.out.gl GL2.out ST11.out, fun g hg => ?_, sum_step GL1.out hr.out.sum, HT5.out, le_s2 hr.out.st GL2.out ST11.out⟩⟩
                  rcases List.mem_append.1 hg with h1 | h1
                  · exact hr.out.cnt g h1
                  · rw [List.mem_singleton] at h1; subst h1; exact cnt_le C5.out L5.out H5.out.b1
end Mx
end Go.Proofs.YtnhcjgnohnedaaaGreatDoor
