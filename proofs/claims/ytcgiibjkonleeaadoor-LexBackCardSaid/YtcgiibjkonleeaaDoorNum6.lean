/-
  Contracts: exact of package num and of the reference, at each of the four operations.
-/
-- LAW 01
import Derived.Test.YtcgiibjkonleeaaDoorNum5
namespace Go.Proofs.YtcgiibjkonleeaaDoor
open Go.RowKit

/-- A product of two parts of numbers. -/
theorem mul_bd (a b : Int) (ha : -2147483647 ≤ a) (ha' : a ≤ 2147483647) (hb : -2147483647 ≤ b) (hb' : b ≤ 2147483647) : -4611686014132420609 ≤ a * b ∧ a * b ≤ 4611686014132420609 := by
  have h : (a * b).natAbs ≤ 4611686014132420609 := by
    rw [Int.natAbs_mul]
    exact Nat.le_trans (Nat.mul_le_mul (by omega : a.natAbs ≤ 2147483647) (by omega : b.natAbs ≤ 2147483647)) (by decide)
  omega
theorem vld_bd {p q : Int} (h : Nm.vld p q = true) : 1 ≤ q ∧ q ≤ 2147483647 ∧ -2147483647 ≤ p ∧ p ≤ 2147483647 := by
  unfold Nm.vld at h; have := of_decide_eq_true h; exact ⟨this.1, this.2.1, this.2.2.1, this.2.2.2.1⟩

theorem wrap_mul (a b : Int) (ha : -2147483647 ≤ a) (ha' : a ≤ 2147483647) (hb : -2147483647 ≤ b) (hb' : b ≤ 2147483647) : IntKind.i64.wrap (a * b) = a * b := by
  have := mul_bd a b ha ha' hb hb'
  exact IntWalk.i64_in _ (by omega)

end Go.Proofs.YtcgiibjkonleeaaDoor
