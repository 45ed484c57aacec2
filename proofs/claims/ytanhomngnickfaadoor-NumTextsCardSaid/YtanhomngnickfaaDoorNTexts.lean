/-
  The walk of NumTexts: it returns true at any number and string.
-/
-- LAW 01
import Derived.Test.YtanhomngnickfaaDoorNRef5
namespace Go.Proofs.YtanhomngnickfaaDoor
open Go.RowKit

set_option maxRecDepth 100000 in
set_option maxHeartbeats 2000000 in
theorem ntexts_long (aP aQ : Int) (s : ByteArray) (w : World) (he : Env5 w) (hs : 10000 < s.size) (_ws : s.size ≤ maxLen) :
    Calls Tryd.prog 13 #[.agg #[.int .i64 aP, .int .i64 aQ], .string s] w fun e w' => e = .returned (.bool true) ∧ Below w.heap.size w w' := by
  have HE := Lib.hid he
  clear he
  go_enter Tryd.func13, Tryd.ntmps13
  go_wp2_with fail
  have hB := (Below.refl w.heap.size w).alloc (Nat.le_refl _) (.cells #[.int .i64 aP, .int .i64 aQ] 41)
  refine (awake_any _ (HE.out.toEnv.below hB)).mono ?_; rintro e w6 ⟨rfl, hb1⟩; replace hB := hB.trans (hb1.mono hB.size); clear hb1
  go_wp2_with fail
  go_ret
  exact ⟨rfl, hB⟩

set_option maxRecDepth 100000 in
set_option maxHeartbeats 4000000 in
theorem ntexts_core (aP aQ e1 gP gQ gE kP kQ kE : Int) (s TA : ByteArray) (w : World) (he : Env5 w) (hs : s.size ≤ 10000)
    (c1 : ∀ w, Env5 w → Calls Tryd.prog 37 #[.agg #[.int .i64 aP, .int .i64 aQ]] w fun e w' => e = .returned (.tuple #[.string TA, .int .i64 e1]) ∧ Below w.heap.size w w')
    (c2 : ∀ w, Calls Tryd.prog 38 #[.agg #[.int .i64 aP, .int .i64 aQ]] w fun e w' => e = .returned (.tuple #[.string TA, .int .i64 e1]) ∧ Below w.heap.size w w')
    (c3 : ∀ w, Env5 w → Calls Tryd.prog 39 #[.string s] w fun e w' => e = .returned (numV gP gQ gE) ∧ Below w.heap.size w w')
    (c4 : ∀ w, Calls Tryd.prog 40 #[.string s] w fun e w' => e = .returned (numV gP gQ gE) ∧ Below w.heap.size w w')
    (c5 : ∀ w, Env5 w → Calls Tryd.prog 41 #[.string s] w fun e w' => e = .returned (numV kP kQ kE) ∧ Below w.heap.size w w')
    (c6 : ∀ w, Calls Tryd.prog 42 #[.string s] w fun e w' => e = .returned (numV kP kQ kE) ∧ Below w.heap.size w w') :
    Calls Tryd.prog 13 #[.agg #[.int .i64 aP, .int .i64 aQ], .string s] w fun e w' => e = .returned (.bool true) ∧ Below w.heap.size w w' := by
  have HE := Lib.hid he
  have C1 := Lib.hid c1
  have C2 := Lib.hid c2
  have C3 := Lib.hid c3
  have C4 := Lib.hid c4
  have C5 := Lib.hid c5
  have C6 := Lib.hid c6
  clear he c1 c2 c3 c4 c5 c6
  go_enter Tryd.func13, Tryd.ntmps13
  go_wp2_with fail
  have fa := numAt_new w aP aQ 41
  have hB := (Below.refl w.heap.size w).alloc (Nat.le_refl _) (.cells #[.int .i64 aP, .int .i64 aQ] 41)
  generalize w.alloc (.cells #[.int .i64 aP, .int .i64 aQ] 41) = W at fa hB ⊢
  refine (C1.out _ (HE.out.below hB)).mono ?_; rintro e w' ⟨rfl, hb1⟩; replace fa := fa.below hb1; replace hB := hB.trans (hb1.mono hB.size); clear hb1
  obtain ⟨a0, a1, al⟩ := id fa
  go_wp2_with fail
  clear a0 a1 al
  refine (C2.out _).mono ?_; rintro e w' ⟨rfl, hb1⟩; replace fa := fa.below hb1; replace hB := hB.trans (hb1.mono hB.size); clear hb1
  clear fa
  go_wp2_with fail
  refine (C3.out _ (HE.out.below hB)).mono ?_; rintro e w' ⟨rfl, hb1⟩; replace hB := hB.trans (hb1.mono hB.size)
  clear hb1
  simp only [numV]
  go_wp2_with fail
  have fg := numAt_new w' gP gQ 41
  replace hB := hB.alloc hB.size (.cells #[.int .i64 gP, .int .i64 gQ] 41)
  generalize w'.alloc (.cells #[.int .i64 gP, .int .i64 gQ] 41) = Wg at fg  hB ⊢
  generalize w'.heap.size = bg at fg ⊢
  clear w'
  refine (C4.out _).mono ?_; rintro e w' ⟨rfl, hb1⟩; replace hB := hB.trans (hb1.mono hB.size)
  replace fg := fg.below hb1
  clear hb1
  simp only [numV]
  go_wp2_with fail
  have fi := numAt_new w' gP gQ 41
  replace hB := hB.alloc hB.size (.cells #[.int .i64 gP, .int .i64 gQ] 41)
  replace fg := fg.alloc (.cells #[.int .i64 gP, .int .i64 gQ] 41)
  generalize w'.alloc (.cells #[.int .i64 gP, .int .i64 gQ] 41) = Wi at fi fg hB ⊢
  generalize w'.heap.size = bi at fi ⊢
  clear w'
  refine (C5.out _ (HE.out.below hB)).mono ?_; rintro e w' ⟨rfl, hb1⟩; replace hB := hB.trans (hb1.mono hB.size)
  replace fg := fg.below hb1
  replace fi := fi.below hb1
  clear hb1
  simp only [numV]
  go_wp2_with fail
  have fk := numAt_new w' kP kQ 41
  replace hB := hB.alloc hB.size (.cells #[.int .i64 kP, .int .i64 kQ] 41)
  replace fg := fg.alloc (.cells #[.int .i64 kP, .int .i64 kQ] 41)
  replace fi := fi.alloc (.cells #[.int .i64 kP, .int .i64 kQ] 41)
  generalize w'.alloc (.cells #[.int .i64 kP, .int .i64 kQ] 41) = Wk at fk fg fi hB ⊢
  generalize w'.heap.size = bk at fk ⊢
  clear w'
  refine (C6.out _).mono ?_; rintro e w' ⟨rfl, hb1⟩; replace hB := hB.trans (hb1.mono hB.size)
  replace fg := fg.below hb1
  replace fi := fi.below hb1
  replace fk := fk.below hb1
  clear hb1
  simp only [numV]
  obtain ⟨g0, g1, gl⟩ := id fg
  obtain ⟨i0, i1, il⟩ := id fi
  obtain ⟨k0, k1, kl⟩ := id fk
  go_wp2_with fail
  clear g0 g1 gl i0 i1 il k0 k1 kl
  replace hB := hB.alloc hB.size (.cells #[.int .i64 kP, .int .i64 kQ] 41)
  refine (awake_any _ (HE.out.toEnv.below hB)).mono ?_; rintro e w6 ⟨rfl, hb1⟩; replace hB := hB.trans (hb1.mono hB.size); clear hb1
  go_wp2_with fail
  go_ret
  exact ⟨rfl, hB⟩

theorem txtV_of (p q : Int) : ∃ (T : ByteArray) (e : Int), txtV (Nm.vld p q) p q = .tuple #[.string T, .int .i64 e] := by
  cases h : Nm.vld p q
  · exact ⟨_, _, rfl⟩
  · exact ⟨_, _, rfl⟩
theorem decV_num (l : List UInt8) : ∃ P Q E : Int, decV l = numV P Q E := by
  unfold decV decV3
  split
  · exact ⟨_, _, _, rfl⟩
  · exact ⟨_, _, _, rfl⟩
theorem numTexts_walk (aP aQ : Int) (s : ByteArray) (w : World) (he : Env5 w) (h1 : -9223372036854775808 ≤ aP) (h2 : aP ≤ 9223372036854775807) (h3 : -9223372036854775808 ≤ aQ) (h4 : aQ ≤ 9223372036854775807) (ws : s.size ≤ maxLen) :
    Calls Tryd.prog 13 #[.agg #[.int .i64 aP, .int .i64 aQ], .string s] w fun e w' => e = .returned (.bool true) ∧ Below w.heap.size w w' := by
  by_cases hs : s.size ≤ 10000
  case neg => exact ntexts_long aP aQ s w he (by omega) ws
  obtain ⟨T, e, hT⟩ := txtV_of aP aQ
  obtain ⟨P, Q, E, hD⟩ := decV_num s.data.toList
  have c1 := fun w (he : Env5 w) => text_any aP aQ w he.toEnv h1 h2 h3 h4
  have c2 := fun w => rtext_any aP aQ w h1 h2 h3 h4
  have c5 := fun w (he : Env5 w) => decimal_any s w he.toEnv hs
  have c6 := fun w => rdecimal_any s w hs
  rw [hT] at c1 c2
  rw [hD] at c5 c6
  by_cases hy : ∃ p q, Nm.vld p q = true ∧ txt p q = s.data.toList
  · obtain ⟨xP, xQ, hvx, hx⟩ := hy
    exact ntexts_core aP aQ e xP xQ 0 P Q E s T w he hs c1 c2 (fun w he => nparse_yes s w he hs xP xQ hvx hx) (fun w => rparse_yes s w hs xP xQ hvx hx) c5 c6
  · exact ntexts_core aP aQ e 0 0 30 P Q E s T w he hs c1 c2 (fun w he => nparse_no s w he hs (fun p q hv h => hy ⟨p, q, hv, h⟩)) (fun w => rparse_no s w hs (fun p q hv h => hy ⟨p, q, hv, h⟩)) c5 c6
end Go.Proofs.YtanhomngnickfaaDoor
