/-
  The walk of NumFixed.
-/
-- LAW 01
import Derived.Test.YtmcpbnkmccngpaaDoorAwake
import Derived.Test.YtmcpbnkmccngpaaDoorFixMath
namespace Go.Proofs.YtmcpbnkmccngpaaDoor
open Go.RowKit

set_option maxRecDepth 100000 in
set_option maxHeartbeats 2000000 in
theorem numFixed_a (aP aQ n x y m : Int) (w : World) (he : Env w)
    (c1 : ∀ w, Calls Tryd.prog 38 #[.int .i64 n] w fun e w' => e = .returned (numV x y 0) ∧ Below w.heap.size w w')
    (c2 : ∀ w, Calls Tryd.prog 36 #[.agg #[.int .i64 x, .int .i64 y]] w fun e w' => e = .returned (.tuple #[.int .i64 n, .int .i64 0]) ∧ Below w.heap.size w w')
    (c3 : ∀ w, Calls Tryd.prog 16 #[.agg #[.int .i64 aP, .int .i64 aQ]] w fun e w' => e = .returned (.bool true) ∧ Below w.heap.size w w')
    (c4 : ∀ w, Calls Tryd.prog 36 #[.agg #[.int .i64 aP, .int .i64 aQ]] w fun e w' => e = .returned (.tuple #[.int .i64 m, .int .i64 0]) ∧ Below w.heap.size w w') (hq0 : 1 ≤ aQ) (hq1 : aQ ≤ 2147483647) (hp0 : -2147483647 ≤ aP) (hp1 : aP ≤ 2147483647) (hm0 : 2 * (m * aQ - 65536 * aP) ≤ aQ) (hm1 : -aQ < 2 * (m * aQ - 65536 * aP)) :
    Calls Tryd.prog 11 #[.agg #[.int .i64 aP, .int .i64 aQ], .int .i64 n] w fun e w' => e = .returned (.bool true) ∧ Below w.heap.size w w' := by
  have HE := Lib.hid he
  have C1 := Lib.hid c1
  have C2 := Lib.hid c2
  clear c2
  have C3 := Lib.hid c3
  have C4 := Lib.hid c4
  clear c4
  have g1 : IntKind.i64.wrap (m * aQ) = m * aQ := IntWalk.i64_in _ (by omega)
  have g2 : -140737488355328 - 2147483647 ≤ m * aQ := by omega
  have g3 : m * aQ ≤ 140737488355328 + 2147483647 := by omega
  clear he c1 c3
  go_enter Tryd.func11, Tryd.ntmps11
  go_wp2_with fail
  have hB := Below.refl w.heap.size w
  have nA := numAt_new w aP aQ 23
  replace hB := hB.alloc hB.size (.cells #[.int .i64 aP, .int .i64 aQ] 23)
  generalize World.alloc w (.cells #[.int .i64 aP, .int .i64 aQ] 23) = W at nA hB ⊢
  refine (C1.out _).mono ?_; rintro e w' ⟨rfl, hb1⟩
  replace hB := hB.trans (hb1.mono hB.size)
  replace nA := nA.below hb1
  clear hb1
  simp only [numV]
  go_wp2_with fail
  replace nA := nA.alloc (.cells #[.int .i64 x, .int .i64 y] 23)
  replace hB := hB.alloc hB.size (.cells #[.int .i64 x, .int .i64 y] 23)
  generalize World.alloc w' (.cells #[.int .i64 x, .int .i64 y] 23) = W at nA hB ⊢
  generalize w'.heap.size = bL
  clear w'
  refine (C2.out _).mono ?_; rintro e w' ⟨rfl, hb1⟩
  replace hB := hB.trans (hb1.mono hB.size)
  replace nA := nA.below hb1
  clear hb1
  have a0 := nA.c0
  have a1 := nA.c1
  go_wp2_with fail
  clear a0 a1
  refine (C3.out _).mono ?_; rintro e w4 ⟨rfl, hb1⟩
  replace hB := hB.trans (hb1.mono hB.size)
  replace nA := nA.below hb1
  clear hb1
  have a0 := nA.c0
  have a1 := nA.c1
  go_wp2_with fail
  clear a0 a1
  refine (C4.out _).mono ?_; rintro e w5 ⟨rfl, hb1⟩
  replace hB := hB.trans (hb1.mono hB.size)
  replace nA := nA.below hb1
  clear hb1
  have a0 := nA.c0
  have a1 := nA.c1
  go_wp2_with fail
  clear a0 a1
  refine (awake_any _ (HE.out.below hB)).mono ?_; rintro e w6 ⟨rfl, hb1⟩
  replace hB := hB.trans (hb1.mono hB.size)
  clear hb1
  go_wp2_with fail
  go_ret
  exact ⟨rfl, hB⟩

set_option maxRecDepth 100000 in
set_option maxHeartbeats 2000000 in
theorem numFixed_b (aP aQ n x y : Int) (w : World) (he : Env w)
    (c1 : ∀ w, Calls Tryd.prog 38 #[.int .i64 n] w fun e w' => e = .returned (numV x y 0) ∧ Below w.heap.size w w')
    (c2 : ∀ w, Calls Tryd.prog 36 #[.agg #[.int .i64 x, .int .i64 y]] w fun e w' => e = .returned (.tuple #[.int .i64 n, .int .i64 0]) ∧ Below w.heap.size w w')
    (c3 : ∀ w, Calls Tryd.prog 16 #[.agg #[.int .i64 aP, .int .i64 aQ]] w fun e w' => e = .returned (.bool false) ∧ Below w.heap.size w w')
     :
    Calls Tryd.prog 11 #[.agg #[.int .i64 aP, .int .i64 aQ], .int .i64 n] w fun e w' => e = .returned (.bool true) ∧ Below w.heap.size w w' := by
  have HE := Lib.hid he
  have C1 := Lib.hid c1
  have C2 := Lib.hid c2
  clear c2
  have C3 := Lib.hid c3
  clear he c1 c3
  go_enter Tryd.func11, Tryd.ntmps11
  go_wp2_with fail
  have hB := Below.refl w.heap.size w
  have nA := numAt_new w aP aQ 23
  replace hB := hB.alloc hB.size (.cells #[.int .i64 aP, .int .i64 aQ] 23)
  generalize World.alloc w (.cells #[.int .i64 aP, .int .i64 aQ] 23) = W at nA hB ⊢
  refine (C1.out _).mono ?_; rintro e w' ⟨rfl, hb1⟩
  replace hB := hB.trans (hb1.mono hB.size)
  replace nA := nA.below hb1
  clear hb1
  simp only [numV]
  go_wp2_with fail
  replace nA := nA.alloc (.cells #[.int .i64 x, .int .i64 y] 23)
  replace hB := hB.alloc hB.size (.cells #[.int .i64 x, .int .i64 y] 23)
  generalize World.alloc w' (.cells #[.int .i64 x, .int .i64 y] 23) = W at nA hB ⊢
  generalize w'.heap.size = bL
  clear w'
  refine (C2.out _).mono ?_; rintro e w' ⟨rfl, hb1⟩
  replace hB := hB.trans (hb1.mono hB.size)
  replace nA := nA.below hb1
  clear hb1
  have a0 := nA.c0
  have a1 := nA.c1
  go_wp2_with fail
  clear a0 a1
  refine (C3.out _).mono ?_; rintro e w4 ⟨rfl, hb1⟩
  replace hB := hB.trans (hb1.mono hB.size)
  replace nA := nA.below hb1
  clear hb1
  go_wp2_with fail
  refine (awake_any _ (HE.out.below hB)).mono ?_; rintro e w6 ⟨rfl, hb1⟩
  replace hB := hB.trans (hb1.mono hB.size)
  clear hb1
  go_wp2_with fail
  go_ret
  exact ⟨rfl, hB⟩

set_option maxRecDepth 100000 in
set_option maxHeartbeats 2000000 in
theorem numFixed_c (aP aQ n x y e0 m : Int) (w : World) (he : Env w)
    (c1 : ∀ w, Calls Tryd.prog 38 #[.int .i64 n] w fun e w' => e = .returned (numV x y e0) ∧ Below w.heap.size w w')
    (hE : e0 ≠ 0)
    (c3 : ∀ w, Calls Tryd.prog 16 #[.agg #[.int .i64 aP, .int .i64 aQ]] w fun e w' => e = .returned (.bool true) ∧ Below w.heap.size w w')
    (c4 : ∀ w, Calls Tryd.prog 36 #[.agg #[.int .i64 aP, .int .i64 aQ]] w fun e w' => e = .returned (.tuple #[.int .i64 m, .int .i64 0]) ∧ Below w.heap.size w w') (hq0 : 1 ≤ aQ) (hq1 : aQ ≤ 2147483647) (hp0 : -2147483647 ≤ aP) (hp1 : aP ≤ 2147483647) (hm0 : 2 * (m * aQ - 65536 * aP) ≤ aQ) (hm1 : -aQ < 2 * (m * aQ - 65536 * aP)) :
    Calls Tryd.prog 11 #[.agg #[.int .i64 aP, .int .i64 aQ], .int .i64 n] w fun e w' => e = .returned (.bool true) ∧ Below w.heap.size w w' := by
  have HE := Lib.hid he
  have C1 := Lib.hid c1
  have hEb : (e0 == 0) = false := by simpa using hE
  have hEc : (e0 != 0) = true := by simpa using hE
  clear hE
  have C3 := Lib.hid c3
  have C4 := Lib.hid c4
  clear c4
  have g1 : IntKind.i64.wrap (m * aQ) = m * aQ := IntWalk.i64_in _ (by omega)
  have g2 : -140737488355328 - 2147483647 ≤ m * aQ := by omega
  have g3 : m * aQ ≤ 140737488355328 + 2147483647 := by omega
  clear he c1 c3
  go_enter Tryd.func11, Tryd.ntmps11
  go_wp2_with fail
  have hB := Below.refl w.heap.size w
  have nA := numAt_new w aP aQ 23
  replace hB := hB.alloc hB.size (.cells #[.int .i64 aP, .int .i64 aQ] 23)
  generalize World.alloc w (.cells #[.int .i64 aP, .int .i64 aQ] 23) = W at nA hB ⊢
  refine (C1.out _).mono ?_; rintro e w' ⟨rfl, hb1⟩
  replace hB := hB.trans (hb1.mono hB.size)
  replace nA := nA.below hb1
  clear hb1
  simp only [numV]
  have a0 := nA.c0
  have a1 := nA.c1
  have al := nA.lt
  go_wp2_with fail
  clear a0 a1 al
  replace nA := nA.alloc (.cells #[.int .i64 x, .int .i64 y] 23)
  replace hB := hB.alloc hB.size (.cells #[.int .i64 x, .int .i64 y] 23)
  generalize World.alloc w' (.cells #[.int .i64 x, .int .i64 y] 23) = W at nA hB ⊢
  generalize w'.heap.size = bL
  clear w'
  refine (C3.out _).mono ?_; rintro e w4 ⟨rfl, hb1⟩
  replace hB := hB.trans (hb1.mono hB.size)
  replace nA := nA.below hb1
  clear hb1
  have a0 := nA.c0
  have a1 := nA.c1
  go_wp2_with fail
  clear a0 a1
  refine (C4.out _).mono ?_; rintro e w5 ⟨rfl, hb1⟩
  replace hB := hB.trans (hb1.mono hB.size)
  replace nA := nA.below hb1
  clear hb1
  have a0 := nA.c0
  have a1 := nA.c1
  go_wp2_with fail
  clear a0 a1
  refine (awake_any _ (HE.out.below hB)).mono ?_; rintro e w6 ⟨rfl, hb1⟩
  replace hB := hB.trans (hb1.mono hB.size)
  clear hb1
  go_wp2_with fail
  go_ret
  exact ⟨rfl, hB⟩

set_option maxRecDepth 100000 in
set_option maxHeartbeats 2000000 in
theorem numFixed_d (aP aQ n x y e0 : Int) (w : World) (he : Env w)
    (c1 : ∀ w, Calls Tryd.prog 38 #[.int .i64 n] w fun e w' => e = .returned (numV x y e0) ∧ Below w.heap.size w w')
    (hE : e0 ≠ 0)
    (c3 : ∀ w, Calls Tryd.prog 16 #[.agg #[.int .i64 aP, .int .i64 aQ]] w fun e w' => e = .returned (.bool false) ∧ Below w.heap.size w w')
     :
    Calls Tryd.prog 11 #[.agg #[.int .i64 aP, .int .i64 aQ], .int .i64 n] w fun e w' => e = .returned (.bool true) ∧ Below w.heap.size w w' := by
  have HE := Lib.hid he
  have C1 := Lib.hid c1
  have hEb : (e0 == 0) = false := by simpa using hE
  have hEc : (e0 != 0) = true := by simpa using hE
  clear hE
  have C3 := Lib.hid c3
  clear he c1 c3
  go_enter Tryd.func11, Tryd.ntmps11
  go_wp2_with fail
  have hB := Below.refl w.heap.size w
  have nA := numAt_new w aP aQ 23
  replace hB := hB.alloc hB.size (.cells #[.int .i64 aP, .int .i64 aQ] 23)
  generalize World.alloc w (.cells #[.int .i64 aP, .int .i64 aQ] 23) = W at nA hB ⊢
  refine (C1.out _).mono ?_; rintro e w' ⟨rfl, hb1⟩
  replace hB := hB.trans (hb1.mono hB.size)
  replace nA := nA.below hb1
  clear hb1
  simp only [numV]
  have a0 := nA.c0
  have a1 := nA.c1
  have al := nA.lt
  go_wp2_with fail
  clear a0 a1 al
  replace nA := nA.alloc (.cells #[.int .i64 x, .int .i64 y] 23)
  replace hB := hB.alloc hB.size (.cells #[.int .i64 x, .int .i64 y] 23)
  generalize World.alloc w' (.cells #[.int .i64 x, .int .i64 y] 23) = W at nA hB ⊢
  generalize w'.heap.size = bL
  clear w'
  refine (C3.out _).mono ?_; rintro e w4 ⟨rfl, hb1⟩
  replace hB := hB.trans (hb1.mono hB.size)
  replace nA := nA.below hb1
  clear hb1
  go_wp2_with fail
  refine (awake_any _ (HE.out.below hB)).mono ?_; rintro e w6 ⟨rfl, hb1⟩
  replace hB := hB.trans (hb1.mono hB.size)
  clear hb1
  go_wp2_with fail
  go_ret
  exact ⟨rfl, hB⟩

theorem numFixed_walk (aP aQ n : Int) (w : World) (he : Env w) (h1 : -9223372036854775808 ≤ aP) (h2 : aP ≤ 9223372036854775807) (h3 : -9223372036854775808 ≤ aQ) (h4 : aQ ≤ 9223372036854775807) (n1 : -9223372036854775808 ≤ n) (n2 : n ≤ 9223372036854775807) :
    Calls Tryd.prog 11 #[.agg #[.int .i64 aP, .int .i64 aQ], .int .i64 n] w fun e w' => e = .returned (.bool true) ∧ Below w.heap.size w w' := by
  have c1 := fun w => fromFixed_any n w n1 n2
  have c3 := fun w => rvalid_any aP aQ w h1 h2 h3 h4
  by_cases hE : Nm.mkE n 65536 = 0
  · have hs := Nm.mk_spec (by decide) hE
    have c2 : ∀ w, Calls Tryd.prog 36 #[.agg #[.int .i64 (Nm.mkP n 65536), .int .i64 (Nm.mkQ n 65536)]] w fun e w' => e = .returned (.tuple #[.int .i64 n, .int .i64 0]) ∧ Below w.heap.size w w' := fun w => by
      have := fixed_ok (Nm.mkP n 65536) (Nm.mkQ n 65536) w hs.1
      rwa [Nm.fx_back hE] at this
    rw [hE] at c1
    cases hv : Nm.vld aP aQ
    · rw [hv] at c3
      exact numFixed_b aP aQ n _ _ w he c1 c2 c3
    · rw [hv] at c3
      obtain ⟨x1, x2, x3, x4⟩ := vld_bd hv
      obtain ⟨b1, b2⟩ := Nm.fx_bounds aP aQ (by omega)
      exact numFixed_a aP aQ n _ _ _ w he c1 c2 c3 (fun w => fixed_ok aP aQ w hv) x1 x2 x3 x4 b1 b2
  · cases hv : Nm.vld aP aQ
    · rw [hv] at c3
      exact numFixed_d aP aQ n _ _ _ w he c1 hE c3
    · rw [hv] at c3
      obtain ⟨x1, x2, x3, x4⟩ := vld_bd hv
      obtain ⟨b1, b2⟩ := Nm.fx_bounds aP aQ (by omega)
      exact numFixed_c aP aQ n _ _ _ _ w he c1 hE c3 (fun w => fixed_ok aP aQ w hv) x1 x2 x3 x4 b1 b2
end Go.Proofs.YtmcpbnkmccngpaaDoor
