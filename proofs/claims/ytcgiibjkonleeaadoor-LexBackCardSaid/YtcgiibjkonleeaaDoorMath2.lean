/-
  Plain mathematics of fixed numbers, quotients rounded down, remainders.
-/
import Derived.Test.YtcgiibjkonleeaaDoorMath
namespace Go.Proofs.YtcgiibjkonleeaaDoor
namespace Nm
/-- floor(65,536 r / q + 1/2). -/
def un (r q : Int) : Int := (131072 * r + q) / (2 * q)
theorem un_bd (r q : Int) (h0 : 0 ≤ r) (h1 : r < q) : 0 ≤ un r q ∧ un r q ≤ 65536 := by
  unfold un
  constructor
  · exact Int.ediv_nonneg (by omega) (by omega)
  · have : (131072 * r + q) / (2 * q) < 65537 := Int.ediv_lt_of_lt_mul (by omega) (by omega)
    omega
/-- p / q as a fixed number. -/
def fx (p q : Int) : Int := p.fdiv q * 65536 + un (p.fmod q) q
theorem fdiv_bd (p q : Int) (hq : 1 ≤ q) (h0 : -2147483648 ≤ p) (h1 : p ≤ 2147483647) : -2147483648 ≤ p.fdiv q ∧ p.fdiv q ≤ 2147483647 := by
  rw [Int.fdiv_eq_ediv_of_nonneg _ (by omega)]
  constructor
  · exact Int.le_ediv_of_mul_le (by omega) (by omega)
  · have : p / q < 2147483648 := Int.ediv_lt_of_lt_mul (by omega) (by omega)
    omega
end Nm
end Go.Proofs.YtcgiibjkonleeaaDoor
