/-
  The walk of FixTurned: it returns true at any integers.
-/
-- LAW 02
import Derived.Test.YtanhomngnickfaaDoorFxAwake
import Derived.Deep.DeepCutAuto
namespace Go.Proofs.YtanhomngnickfaaDoor
open Go.RowKit

theorem z_S : Fx.qS 0 = 0 ∧ Fx.qC 0 = 268435456 := by decide +kernel
theorem rnd_one (n : Int) : Fx.rnd (268435456 * n) 268435456 = n := by rw [Int.mul_comm]; exact Fx.rnd_mul n 268435456 (by omega)
/-- A turn by quarters. -/
theorem turn_quarters (m x y : Int) (k : Nat) (hk : k = (m % 4).toNat) (m0 : -10000 < m) (m1 : m < 10000) (hx : Fx.fxd x = true) (hy : Fx.fxd y = true) :
    Fx.tuX x y (m * 94371840) = Fx.roS y x (k + 1) ∧ Fx.tuY x y (m * 94371840) = Fx.roS y x k ∧ Fx.tuE x y (m * 94371840) = 0 := by
  have ha : Fx.ang (m * 94371840) = true := decide_eq_true (by omega)
  have e1 : m * 94371840 % 377487360 % 94371840 = 0 := by omega
  have e2 : (m * 94371840 % 377487360 / 94371840).toNat = k := by omega
  have k4 : k < 4 := by omega
  have hS : Fx.cS (m * 94371840) = Fx.roS 0 268435456 k := by unfold Fx.cS; rw [e1, e2, z_S.1, z_S.2]
  have hC : Fx.cC (m * 94371840) = Fx.roS 0 268435456 (k + 1) := by unfold Fx.cC; rw [e1, e2, z_S.1, z_S.2]
  have hU : Fx.tuU x y (m * 94371840) = Fx.roS y x (k + 1) := by
    unfold Fx.tuU
    rw [hS, hC]
    rcases (by omega : k = 0 ∨ k = 1 ∨ k = 2 ∨ k = 3) with rfl | rfl | rfl | rfl <;> simp only [Fx.roS]
    · rw [show 268435456 * x - 0 * y = 268435456 * x by omega]; exact rnd_one x
    · rw [show -0 * x - 268435456 * y = 268435456 * -y by omega]; exact rnd_one (-y)
    · rw [show -268435456 * x - -0 * y = 268435456 * -x by omega]; exact rnd_one (-x)
    · rw [show - -0 * x - -268435456 * y = 268435456 * y by omega, show - -y = y by omega]; exact rnd_one y
  have hV : Fx.tuV x y (m * 94371840) = Fx.roS y x k := by
    unfold Fx.tuV
    rw [hS, hC]
    rcases (by omega : k = 0 ∨ k = 1 ∨ k = 2 ∨ k = 3) with rfl | rfl | rfl | rfl <;> simp only [Fx.roS]
    · rw [show 0 * x + 268435456 * y = 268435456 * y by omega]; exact rnd_one y
    · rw [show 268435456 * x + -0 * y = 268435456 * x by omega]; exact rnd_one x
    · rw [show -0 * x + -268435456 * y = 268435456 * -y by omega]; exact rnd_one (-y)
    · rw [show -268435456 * x + - -0 * y = 268435456 * -x by omega]; exact rnd_one (-x)
  have bx := Fx.fxd_bd hx
  have bY := Fx.fxd_bd hy
  have fU : Fx.fxd (Fx.roS y x (k + 1)) = true := by
    rcases (by omega : k = 0 ∨ k = 1 ∨ k = 2 ∨ k = 3) with rfl | rfl | rfl | rfl <;> exact decide_eq_true (by simp only [Fx.roS]; omega)
  have fV : Fx.fxd (Fx.roS y x k) = true := by
    rcases (by omega : k = 0 ∨ k = 1 ∨ k = 2 ∨ k = 3) with rfl | rfl | rfl | rfl <;> exact decide_eq_true (by simp only [Fx.roS]; omega)
  unfold Fx.tuX Fx.tuY Fx.tuE
  rw [hx, hy, ha, hU, hV, fU, fV]
  exact ⟨rfl, rfl, rfl⟩
theorem turn_far (m x y : Int) (h : (Fx.fxd x && Fx.fxd y) = false) : Fx.tuX x y (m * 94371840) = 0 ∧ Fx.tuY x y (m * 94371840) = 0 ∧ Fx.tuE x y (m * 94371840) = 2 := by
  unfold Fx.tuX Fx.tuY Fx.tuE
  rw [h]
  exact ⟨rfl, rfl, rfl⟩

set_option maxRecDepth 100000 in
set_option maxHeartbeats 2000000 in
theorem turned_no (x y q m : Int) (w : World) (he : Env w) (hm : q.tmod 10000 = m) (q0 : -32768 ≤ q) (q1 : q ≤ 32767) (m0 : -10000 < m) (m1 : m < 10000)
    (c1 : ∀ w, Calls Tryd.prog 28 #[.int .i64 x, .int .i64 y, .int .i64 (m * 94371840)] w fun e w' => e = .returned (.tuple #[.int .i64 0, .int .i64 0, .int .i64 2]) ∧ Below w.heap.size w w')
    (hv : ¬ (-2147483647 ≤ x ∧ x ≤ 2147483647 ∧ -2147483647 ≤ y ∧ y ≤ 2147483647)) :
    Calls Tryd.prog 12 #[.int .i64 x, .int .i64 y, .int .i16 q] w fun e w' => e = .returned (.bool true) ∧ Below w.heap.size w w' := by
  have HE := Lib.hid he
  have C1 := Lib.hid c1
  clear he c1
  by_cases x1 : x < -2147483647
  · clear hv
    (go_enter Tryd.func12, Tryd.ntmps12; go_wp2_with fail; refine (C1.out _).mono ?_; rintro e w1 ⟨rfl, hb⟩; go_wp2_with fail; refine (awake_any _ (HE.out.below hb)).mono ?_; rintro e w2 ⟨rfl, hb2⟩; go_wp2_with fail; go_ret; exact ⟨rfl, hb.trans (hb2.mono hb.size)⟩)
  by_cases x2 : 2147483647 < x
  · clear hv
    (go_enter Tryd.func12, Tryd.ntmps12; go_wp2_with fail; refine (C1.out _).mono ?_; rintro e w1 ⟨rfl, hb⟩; go_wp2_with fail; refine (awake_any _ (HE.out.below hb)).mono ?_; rintro e w2 ⟨rfl, hb2⟩; go_wp2_with fail; go_ret; exact ⟨rfl, hb.trans (hb2.mono hb.size)⟩)
  by_cases y1 : y < -2147483647
  · clear hv
    (go_enter Tryd.func12, Tryd.ntmps12; go_wp2_with fail; refine (C1.out _).mono ?_; rintro e w1 ⟨rfl, hb⟩; go_wp2_with fail; refine (awake_any _ (HE.out.below hb)).mono ?_; rintro e w2 ⟨rfl, hb2⟩; go_wp2_with fail; go_ret; exact ⟨rfl, hb.trans (hb2.mono hb.size)⟩)
  · have y2 : 2147483647 < y := by omega
    clear hv
    (go_enter Tryd.func12, Tryd.ntmps12; go_wp2_with fail; refine (C1.out _).mono ?_; rintro e w1 ⟨rfl, hb⟩; go_wp2_with fail; refine (awake_any _ (HE.out.below hb)).mono ?_; rintro e w2 ⟨rfl, hb2⟩; go_wp2_with fail; go_ret; exact ⟨rfl, hb.trans (hb2.mono hb.size)⟩)

set_option maxRecDepth 100000 in
set_option maxHeartbeats 2000000 in
theorem turned_ok (x y q m : Int) (k : Nat) (u v : Int) (w : World) (he : Env w) (hm : q.tmod 10000 = m) (q0 : -32768 ≤ q) (q1 : q ≤ 32767) (m0 : -10000 < m) (m1 : m < 10000)
    (c1 : ∀ w, Calls Tryd.prog 28 #[.int .i64 x, .int .i64 y, .int .i64 (m * 94371840)] w fun e w' => e = .returned (.tuple #[.int .i64 u, .int .i64 v, .int .i64 0]) ∧ Below w.heap.size w w')
    (x1 : -2147483647 ≤ x) (x2 : x ≤ 2147483647) (y1 : -2147483647 ≤ y) (y2 : y ≤ 2147483647) (k4 : k < 4) (hk : (m.tmod 4 + 4) % 4 = (k : Int)) (g0 : 1 ≤ m.tmod 4 + 4) (g1 : m.tmod 4 + 4 ≤ 7)
    (hu : u = Fx.roS y x (k + 1)) (hv : v = Fx.roS y x k) :
    Calls Tryd.prog 12 #[.int .i64 x, .int .i64 y, .int .i16 q] w fun e w' => e = .returned (.bool true) ∧ Below w.heap.size w w' := by
  have HE := Lib.hid he
  have C1 := Lib.hid c1
  have HU := Lib.hid hu
  have HV := Lib.hid hv
  have t0 : -3 ≤ m.tmod 4 := by omega
  have t1 : m.tmod 4 ≤ 3 := by omega
  clear he c1 hu hv
  go_enter Tryd.func12, Tryd.ntmps12
  go_wp2_with fail
  refine (C1.out _).mono ?_; rintro e w1 ⟨rfl, hb⟩
  go_wp2_with fail
  go_loop [0, 1, 11] (fun vx vy vi => ∃ j : Nat, vi = .int .i64 j ∧ j ≤ k ∧ vx = .int .i64 (Fx.roS y x (j + 1)) ∧ vy = .int .i64 (Fx.roS y x j)) (fun _ _ vi => k - (intOf vi).toNat)
  case atStart => exact ⟨0, rfl, by omega, rfl, rfl⟩
  case round =>
    obtain ⟨j, rfl, hj, rfl, rfl⟩ := hrel
    have b0 : -2147483647 ≤ Fx.roS y x j ∧ Fx.roS y x j ≤ 2147483647 := by
      rcases (by omega : j = 0 ∨ j = 1 ∨ j = 2 ∨ j = 3) with rfl | rfl | rfl | rfl <;> (simp only [Fx.roS]; omega)
    obtain ⟨b1, b2⟩ := b0
    by_cases hjk : j < k
    · have e2 : -Fx.roS y x j = Fx.roS y x (j + 1 + 1) := rfl
      go_wp2_with fail
      exact ⟨⟨j + 1, by go_num, by omega, rfl, rfl⟩, by simp [intOf]; omega⟩
    · have e : j = k := by omega
      subst e
      have eu : (u == Fx.roS y x (j + 1)) = true := by rw [HU.out]; simp
      have ev : (v == Fx.roS y x j) = true := by rw [HV.out]; simp
      go_wp2_with fail
      refine (awake_any _ (HE.out.below hb)).mono ?_; rintro e w2 ⟨rfl, hb2⟩
      go_wp2_with fail
      go_ret
      exact ⟨rfl, hb.trans (hb2.mono hb.size)⟩

theorem fixTurned_walk (x y q : Int) (w : World) (he : Env w) (_lx : -9223372036854775808 ≤ x) (_hx : x ≤ 9223372036854775807) (_ly : -9223372036854775808 ≤ y) (_hy : y ≤ 9223372036854775807) (q0 : -32768 ≤ q) (q1 : q ≤ 32767) :
    Calls Tryd.prog 12 #[.int .i64 x, .int .i64 y, .int .i16 q] w fun e w' => e = .returned (.bool true) ∧ Below w.heap.size w w' := by
  have hb := Fx.tm_lt q 10000 (by omega)
  have m0 : -10000 < q.tmod 10000 := by omega
  have m1 : q.tmod 10000 < 10000 := by omega
  obtain ⟨m, hm⟩ : ∃ m, q.tmod 10000 = m := ⟨_, rfl⟩
  rw [hm] at m0 m1
  by_cases hv : -2147483647 ≤ x ∧ x ≤ 2147483647 ∧ -2147483647 ≤ y ∧ y ≤ 2147483647
  · have fx : Fx.fxd x = true := decide_eq_true (by omega)
    have fy : Fx.fxd y = true := decide_eq_true (by omega)
    have ht := turn_quarters m x y (m % 4).toNat rfl m0 m1 fx fy
    have h4 := Fx.tm_lt m 4 (by omega)
    have hk : (m.tmod 4 + 4) % 4 = ((m % 4).toNat : Int) := by
      by_cases hn : m.tmod 4 < 0
      · have := Fx.emod_tneg m 4 (by omega) hn; omega
      · have := Fx.emod_tnn m 4 (by omega) hn; omega
    refine turned_ok x y q m (m % 4).toNat _ _ w he hm q0 q1 m0 m1 (fun w => ?_) hv.1 hv.2.1 hv.2.2.1 hv.2.2.2 (by omega) hk (by omega) (by omega) rfl rfl
    have h := turn_any x y (m * 94371840) w
    rw [ht.1, ht.2.1, ht.2.2] at h
    exact h
  · have hf : (Fx.fxd x && Fx.fxd y) = false := by
      cases h : (Fx.fxd x && Fx.fxd y)
      · rfl
      · have := Fx.and_bd h; omega
    have ht := turn_far m x y hf
    refine turned_no x y q m w he hm q0 q1 m0 m1 (fun w => ?_) hv
    have h := turn_any x y (m * 94371840) w
    rw [ht.1, ht.2.1, ht.2.2] at h
    exact h
end Go.Proofs.YtanhomngnickfaaDoor
