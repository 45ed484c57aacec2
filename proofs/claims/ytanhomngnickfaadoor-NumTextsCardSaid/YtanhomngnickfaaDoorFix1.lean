/-
  Contracts: units (the fixed part of a rest) of package num, at quotients of 64 bits.
-/
-- LAW 01
import Derived.Test.YtanhomngnickfaaDoorNum8
import Derived.Test.YtanhomngnickfaaDoorShelf
import Derived.Test.YtanhomngnickfaaDoorMath2
import Derived.Laws.Externs
namespace Go.Proofs.YtanhomngnickfaaDoor
open Go.RowKit

set_option maxHeartbeats 400000 in
theorem div64_lo (l y : Int) (w : World) (hl0 : 0 ≤ l) (hl : l ≤ 18446744073709551615) (hy : y ≤ 18446744073709551615) (hy1 : 1 ≤ y) :
    Calls Tryd.prog 108 #[.int .u64 0, .int .u64 l, .int .u64 y] w fun e w' => e = .returned (.tuple #[.int .u64 (l / y), .int .u64 (l % y)]) ∧ ∃ n, w' = w.drewN n := by
  have hyz : (y == 0) = false := by simp; omega
  have hy2 : ¬ (y ≤ 0) := by omega
  have hw : IntKind.u64.wrap (l / y) = l / y :=
    IntWalk.u64_in _ ⟨Int.ediv_nonneg (by omega) (by omega), Int.le_trans (Int.ediv_le_self _ (by omega)) (by omega)⟩
  go_enter Tryd.func108, Tryd.ntmps108
  go_wp2_with fail
  go_quiet (fail)
  go_wp2
  go_ret2
  exact ⟨rfl, ⟨_, rfl⟩⟩

theorem mul64_any (x y : Int) (w : World) (hx : 0 ≤ x) (hx1 : x < 18446744073709551616) (hy : 0 ≤ y) (hy1 : y < 18446744073709551616) :
    Calls Tryd.prog 106 #[.int .u64 x, .int .u64 y] w fun e w' => e = .returned (.tuple #[.int .u64 (x * y / 18446744073709551616), .int .u64 (x * y % 18446744073709551616)]) ∧ w = w' := by
  obtain ⟨m, rfl⟩ := Int.eq_ofNat_of_zero_le hx
  obtain ⟨n, rfl⟩ := Int.eq_ofNat_of_zero_le hy
  refine (Tryd.bits_Mul64 m n (by omega) (by omega) w).mono fun e w' h => ⟨?_, h.2.symm⟩
  rw [h.1, Int.natCast_ediv, Int.natCast_emod, Int.natCast_mul]
  rfl

theorem add64_any (x y c : Int) (hx : 0 ≤ x) (hy : 0 ≤ y) (hc0 : 0 ≤ c) (hc : c ≤ 1) (w : World) : (callFunc 107 #[.int .u64 x, .int .u64 y, .int .u64 c]).run Tryd.prog w =
    .ok (.value (.tuple #[.int .u64 ((x + y + c) % 18446744073709551616), .int .u64 ((x + y + c) / 18446744073709551616)])) w := by
  rw [run_callFunc_extern Tryd.func107 (by kernel_rfl) (by kernel_rfl) (by kernel_rfl) (e := add64Entry) (by kernel_rfl), run_add64 x y c hx hy hc0 hc]
  rfl
theorem add64_0 (x y : Int) (hx : 0 ≤ x) (hy : 0 ≤ y) (w : World) : (callFunc 107 #[.int .u64 x, .int .u64 y, .int .u64 0]).run Tryd.prog w =
    .ok (.value (.tuple #[.int .u64 ((x + y) % 18446744073709551616), .int .u64 ((x + y) / 18446744073709551616)])) w := by
  simpa using add64_any x y 0 hx hy (Int.le_refl 0) (by decide) w
theorem add64_lo (x y : Int) (hx : 0 ≤ x) (hy : 0 ≤ y) (h : x + y < 18446744073709551616) (w : World) : (callFunc 107 #[.int .u64 x, .int .u64 y, .int .u64 0]).run Tryd.prog w =
    .ok (.value (.tuple #[.int .u64 (x + y), .int .u64 0])) w := by
  rw [add64_0 x y hx hy, show (x + y) % 18446744073709551616 = x + y by omega, show (x + y) / 18446744073709551616 = 0 by omega]

set_option maxHeartbeats 400000 in
theorem units_lo (r q : Int) (w : World) (hr0 : 0 ≤ r) (hr : r < q) (hq : q ≤ 4611686018427387904) (a4 : 131072 * r + q ≤ 18446744073709551615) :
    Calls Tryd.prog 95 #[.int .i64 r, .int .i64 q] w fun e w' => e = .returned (.int .i64 (Nm.un r q)) ∧ ∃ n, w' = w.drewN n := by
  have e1 : (131072 * r) / 18446744073709551616 = 0 := by omega
  have e2 : (131072 * r) % 18446744073709551616 = 131072 * r := by omega
  have a1 : 0 ≤ 131072 * r := by omega
  have a2 : 0 ≤ q := by omega
  have a3 : 131072 * r + q < 18446744073709551616 := by omega
  obtain ⟨u0, u1⟩ := Nm.un_bd r q hr0 hr
  go_enter Tryd.func95, Tryd.ntmps95
  go_wp2_with fail
  refine (mul64_any 131072 r _ (by omega) (by omega) (by omega) (by omega)).mono ?_; rintro e w' ⟨rfl, rfl⟩
  rw [e1, e2]
  clear e1 e2
  go_wp2_with (simp only [add64_lo (131072 * r) q a1 a2 a3])
  refine (div64_lo (131072 * r + q) (2 * q) _ (by omega) a4 (by omega) (by omega)).mono ?_; rintro e w' ⟨rfl, n, rfl⟩
  rw [show (131072 * r + q) / (2 * q) = Nm.un r q from rfl]
  go_wp2_with fail
  go_ret
  exact ⟨rfl, ⟨_, rfl⟩⟩

set_option maxHeartbeats 400000 in
theorem fixed_no (p q : Int) (w : World) (hp0 : -9223372036854775808 ≤ p) (hp1 : p ≤ 9223372036854775807) (hq0 : -9223372036854775808 ≤ q) (hq1 : q ≤ 9223372036854775807) (hv : Nm.vld p q = false) :
    Calls Tryd.prog 70 #[.agg #[.int .i64 p, .int .i64 q]] w fun e w' => e = .returned (.tuple #[.int .i64 0, .int .i64 2]) ∧ Below w.heap.size w w' := by
  have HV := Lib.hid hv
  clear hv
  go_enter Tryd.func70, Tryd.ntmps70
  go_wp2_with fail
  refine (valid_any _ _ _ hp0 hp1 hq0 hq1).mono ?_; rintro e w' ⟨rfl, hb⟩
  rw [HV.out]
  go_wp2_with fail
  go_ret2
  exact ⟨rfl, (by repeat (first | exact Below.refl _ _ | refine Below.setCell ?_ (by first | (simp; done) | (simp; omega) | omega) _ | refine below_drewN ?_ _ | refine Below.alloc ?_ (by first | (simp; done) | (simp; omega) | omega) _ | refine Below.trans ?_ (hb.mono (by first | (simp; done) | (simp; omega) | omega))))⟩

set_option maxHeartbeats 400000 in
theorem fixed_ok (p q : Int) (w : World) (hv : Nm.vld p q = true) :
    Calls Tryd.prog 70 #[.agg #[.int .i64 p, .int .i64 q]] w fun e w' => e = .returned (.tuple #[.int .i64 (Nm.fx p q), .int .i64 0]) ∧ Below w.heap.size w w' := by
  obtain ⟨x1, x2, x3, x4⟩ := vld_bd hv
  have HV := Lib.hid hv
  clear hv
  have fb := (Nm.fm_bd p q).1 (by omega)
  obtain ⟨f0, f1⟩ := fb
  obtain ⟨u0, u1⟩ := Nm.un_bd _ _ f0 f1
  obtain ⟨d1, d2⟩ := Nm.fdiv_bd p q x1 (by omega) x4
  go_enter Tryd.func70, Tryd.ntmps70
  go_wp2_with fail
  refine (valid_any _ _ _ (by omega) (by omega) (by omega) (by omega)).mono ?_; rintro e w' ⟨rfl, hb⟩; obtain ⟨hc, hf⟩ := bcell hb; have hsz := hb.size; simp at hsz
  rw [HV.out]
  go_wp2_with fail
  refine (divide_any p q _ (by omega) (by omega) (by omega) (by omega) (by omega)).mono ?_; rintro e w' ⟨rfl, n, rfl⟩
  go_wp2_with fail
  refine (units_lo _ q _ f0 f1 (by omega) (by omega)).mono ?_; rintro e w' ⟨rfl, n, rfl⟩
  go_wp2_with fail
  go_ret2
  exact ⟨rfl, (by repeat (first | exact Below.refl _ _ | refine Below.setCell ?_ (by first | (simp; done) | (simp; omega) | omega) _ | refine below_drewN ?_ _ | refine Below.alloc ?_ (by first | (simp; done) | (simp; omega) | omega) _ | refine Below.trans ?_ (hb.mono (by first | (simp; done) | (simp; omega) | omega))))⟩
end Go.Proofs.YtanhomngnickfaaDoor
