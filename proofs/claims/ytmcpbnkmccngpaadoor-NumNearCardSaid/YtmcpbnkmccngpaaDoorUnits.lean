/-
  Contracts: units (the fixed part of a rest) of package num, at all quotients.
-/
-- LAW 01
import Derived.Test.YtmcpbnkmccngpaaDoorDiv64
import Derived.Test.YtmcpbnkmccngpaaDoorFix1
import Derived.Test.YtmcpbnkmccngpaaDoorNear
namespace Go.Proofs.YtmcpbnkmccngpaaDoor
open Go.RowKit

theorem div64_any (hi lo y : Int) (w : World) (h0 : 0 ≤ hi) (h : hi < y) (hy : y ≤ 18446744073709551615) (l0 : 0 ≤ lo) (l1 : lo ≤ 18446744073709551615) :
    Calls Tryd.prog 75 #[.int .u64 hi, .int .u64 lo, .int .u64 y] w fun e w' => (∃ r : Int, e = .returned (.tuple #[.int .u64 ((hi * 18446744073709551616 + lo) / y), .int .u64 r])) ∧ ∃ n, w' = w.drewN n := by
  by_cases hz : hi = 0
  · subst hz
    rw [show 0 * 18446744073709551616 + lo = lo by omega]
    exact (div64_lo lo y w l0 l1 hy (by omega)).mono fun e w' c => ⟨⟨_, c.1⟩, c.2⟩
  · obtain ⟨a, rfl⟩ := Int.eq_ofNat_of_zero_le h0
    obtain ⟨b, rfl⟩ := Int.eq_ofNat_of_zero_le l0
    obtain ⟨c, rfl⟩ := Int.eq_ofNat_of_zero_le (show 0 ≤ y by omega)
    refine (div64_hi a b c w (by omega) (by omega) (by omega) (by omega)).mono fun e w' d => ⟨?_, ⟨0, d.2⟩⟩
    obtain ⟨r, hr⟩ := d.1
    refine ⟨r, ?_⟩
    rw [hr, Int.natCast_ediv, show ((a * 18446744073709551616 + b : Nat) : Int) = (a : Int) * 18446744073709551616 + (b : Int) by omega]

set_option maxHeartbeats 400000 in
theorem units_any (r q : Int) (hr0 : 0 ≤ r) (hr : r < q) (hq : q ≤ 4611686018427387904) : UnitsAt r q := by
  intro w
  have a1 : 0 ≤ 131072 * r % 18446744073709551616 := by omega
  have a2 : 0 ≤ q := by omega
  have e2 : 131072 * r / 18446744073709551616 + (131072 * r % 18446744073709551616 + q) / 18446744073709551616 = (131072 * r + q) / 18446744073709551616 := by omega
  obtain ⟨u0, u1⟩ := Nm.un_bd r q hr0 hr
  have E2 := Lib.hid e2
  clear e2
  go_enter Tryd.func64, Tryd.ntmps64
  go_wp2_with fail
  refine (mul64_any 131072 r _ (by omega) (by omega) (by omega) (by omega)).mono ?_; rintro e w' ⟨rfl, rfl⟩
  go_wp2_with (simp only [add64_0 (131072 * r % 18446744073709551616) q a1 a2])
  rw [E2.out]
  have f : (131072 * r + q) / 18446744073709551616 * 18446744073709551616 + (131072 * r + q) % 18446744073709551616 = 131072 * r + q := by omega
  refine (div64_any _ _ (2 * q) _ (by omega) (by omega) (by omega) (by omega) (by omega)).mono ?_; rintro e w' ⟨⟨d, rfl⟩, n, rfl⟩
  rw [f, show (131072 * r + q) / (2 * q) = Nm.un r q from rfl]
  clear f
  go_wp2_with fail
  go_ret
  exact ⟨rfl, ⟨_, rfl⟩⟩
#print axioms units_any
end Go.Proofs.YtmcpbnkmccngpaaDoor
