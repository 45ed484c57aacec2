/-
  Contracts: Valid of package num and of the reference, for any numbers.
  Contracts: both (reference), allValid and exact (package num).
  Contracts: exact of package num and of the reference, at each of the four operations.
  Contracts: the four operations, of package num and of the reference.
  Contracts: Add, Sub, Mul, Div of package num and of the reference, for any numbers.
-/
import Derived.Test.YtmfbnlaohlnljaaGreatDoorNum3
namespace Go.Proofs.YtmfbnlaohlnljaaGreatDoor
open Go.RowKit

/-- A number as a value. -/
def numA (p q : Int) : Value := .agg #[.int .i64 p, .int .i64 q]

theorem ret_bool {a b : Bool} (h : a = b) : Ending.returned (.bool a) = .returned (.bool b) := by rw [h]

theorem magnitude_q (n : Int) (w : World) (h0 : -9223372036854775808 ≤ n) (h1 : n ≤ 9223372036854775807) :
    Calls Tryz.prog 155 #[.int .i64 n] w fun e w' => e = .returned (.int .u64 (n.natAbs : Int)) ∧ w' = w :=
  (magnitude_any n w h0 h1).mono fun _ _ h => ⟨h.1, h.2.symm⟩
theorem size_q (n : Int) (w : World) (h0 : -9223372036854775808 ≤ n) (h1 : n ≤ 9223372036854775807) :
    Calls Tryz.prog 130 #[.int .i64 n] w fun e w' => e = .returned (.int .u64 (n.natAbs : Int)) ∧ w' = w :=
  (size_any n w h0 h1).mono fun _ _ h => ⟨h.1, h.2.symm⟩

theorem gcd_q (p q : Int) (w : World) (hp : p.natAbs ≤ 18446744073709551615) (hq : q.natAbs ≤ 18446744073709551615) :
    Calls Tryz.prog 152 #[.int .u64 (p.natAbs : Int), .int .u64 (q.natAbs : Int)] w fun e w' => e = .returned (.int .u64 (Nm.gcdn p q : Nat)) ∧ w' = w :=
  (gcd_of p q w hp hq).mono fun _ _ h => ⟨h.1, h.2.symm⟩
theorem vld_no (p q : Int) (h : ¬ (1 ≤ q ∧ q ≤ 2147483647 ∧ -2147483647 ≤ p ∧ p ≤ 2147483647)) : Nm.vld p q = false := by
  unfold Nm.vld; simp only [decide_eq_false_iff_not]; intro h2; exact h ⟨h2.1, h2.2.1, h2.2.2.1, h2.2.2.2.1⟩
theorem vld_in (p q : Int) (h1 : 1 ≤ q) (h2 : q ≤ 2147483647) (h3 : -2147483647 ≤ p) (h4 : p ≤ 2147483647) : ((Nm.gcdn p q : Int) == 1) = Nm.vld p q := by
  unfold Nm.vld
  rw [Bool.eq_iff_iff]; simp only [beq_iff_eq, decide_eq_true_eq]
  constructor
  · intro h; exact ⟨h1, h2, h3, h4, by omega⟩
  · intro h; omega

set_option maxHeartbeats 400000 in
theorem valid_any (p q : Int) (w : World) (hp0 : -9223372036854775808 ≤ p) (hp1 : p ≤ 9223372036854775807) (hq0 : -9223372036854775808 ≤ q) (hq1 : q ≤ 9223372036854775807) :
    Calls Tryz.prog 120 #[.agg #[.int .i64 p, .int .i64 q]] w fun e w' => e = .returned (.bool (Nm.vld p q)) ∧ Below w.heap.size w w' := by
  by_cases h1 : q < 1
  · go_enter Tryz.func120, Tryz.ntmps120
    go_wp2
    go_ret
    exact ⟨ret_bool (vld_no p q (by omega)).symm, (by repeat (first | exact Below.refl _ _ | refine Below.setCell ?_ (by first | (simp; done) | (simp; omega) | omega) _ | refine below_drewN ?_ _ | refine Below.alloc ?_ (by first | (simp; done) | (simp; omega) | omega) _ | refine Below.trans ?_ (hb.mono (by first | (simp; done) | (simp; omega) | omega))))⟩
  by_cases h2 : 2147483647 < q
  · go_enter Tryz.func120, Tryz.ntmps120
    go_wp2
    go_ret
    exact ⟨ret_bool (vld_no p q (by omega)).symm, (by repeat (first | exact Below.refl _ _ | refine Below.setCell ?_ (by first | (simp; done) | (simp; omega) | omega) _ | refine below_drewN ?_ _ | refine Below.alloc ?_ (by first | (simp; done) | (simp; omega) | omega) _ | refine Below.trans ?_ (hb.mono (by first | (simp; done) | (simp; omega) | omega))))⟩
  by_cases h3 : p < -2147483647
  · go_enter Tryz.func120, Tryz.ntmps120
    go_wp2
    go_ret
    exact ⟨ret_bool (vld_no p q (by omega)).symm, (by repeat (first | exact Below.refl _ _ | refine Below.setCell ?_ (by first | (simp; done) | (simp; omega) | omega) _ | refine below_drewN ?_ _ | refine Below.alloc ?_ (by first | (simp; done) | (simp; omega) | omega) _ | refine Below.trans ?_ (hb.mono (by first | (simp; done) | (simp; omega) | omega))))⟩
  by_cases h4 : 2147483647 < p
  · go_enter Tryz.func120, Tryz.ntmps120
    go_wp2
    go_ret
    exact ⟨ret_bool (vld_no p q (by omega)).symm, (by repeat (first | exact Below.refl _ _ | refine Below.setCell ?_ (by first | (simp; done) | (simp; omega) | omega) _ | refine below_drewN ?_ _ | refine Below.alloc ?_ (by first | (simp; done) | (simp; omega) | omega) _ | refine Below.trans ?_ (hb.mono (by first | (simp; done) | (simp; omega) | omega))))⟩
  · go_enter Tryz.func120, Tryz.ntmps120
    go_wp2_with fail
    go_quiet ((first | (go_at_call 155; exact Calls.quiet_of_same (magnitude_q _ _ (by omega) (by omega))) | (go_at_call 154; exact Calls.quiet_of (divisor_of _ _ _ (by omega) (by omega)))))
    go_wp2
    go_ret
    exact ⟨ret_bool (vld_in p q (by omega) (by omega) (by omega) (by omega)), (by repeat (first | exact Below.refl _ _ | refine Below.setCell ?_ (by first | (simp; done) | (simp; omega) | omega) _ | refine below_drewN ?_ _ | refine Below.alloc ?_ (by first | (simp; done) | (simp; omega) | omega) _ | refine Below.trans ?_ (hb.mono (by first | (simp; done) | (simp; omega) | omega))))⟩

set_option maxHeartbeats 400000 in
theorem rvalid_any (p q : Int) (w : World) (hp0 : -9223372036854775808 ≤ p) (hp1 : p ≤ 9223372036854775807) (hq0 : -9223372036854775808 ≤ q) (hq1 : q ≤ 9223372036854775807) :
    Calls Tryz.prog 118 #[.agg #[.int .i64 p, .int .i64 q]] w fun e w' => e = .returned (.bool (Nm.vld p q)) ∧ Below w.heap.size w w' := by
  by_cases h1 : q < 1
  · have b1 : decide (1 ≤ q) = false := by simp; omega
    go_enter Tryz.func118, Tryz.ntmps118
    go_wp2_with fail
    go_quiet (fail)
    go_wp2
    go_ret
    exact ⟨ret_bool (vld_no p q (by omega)).symm, (by repeat (first | exact Below.refl _ _ | refine Below.setCell ?_ (by first | (simp; done) | (simp; omega) | omega) _ | refine below_drewN ?_ _ | refine Below.alloc ?_ (by first | (simp; done) | (simp; omega) | omega) _ | refine Below.trans ?_ (hb.mono (by first | (simp; done) | (simp; omega) | omega))))⟩
  by_cases h2 : 2147483647 < q
  · have b1 : decide (1 ≤ q) = true := by simp; omega
    have b2 : decide (q ≤ 2147483647) = false := by simp; omega
    go_enter Tryz.func118, Tryz.ntmps118
    go_wp2_with fail
    go_quiet (fail)
    go_wp2
    go_ret
    exact ⟨ret_bool (vld_no p q (by omega)).symm, (by repeat (first | exact Below.refl _ _ | refine Below.setCell ?_ (by first | (simp; done) | (simp; omega) | omega) _ | refine below_drewN ?_ _ | refine Below.alloc ?_ (by first | (simp; done) | (simp; omega) | omega) _ | refine Below.trans ?_ (hb.mono (by first | (simp; done) | (simp; omega) | omega))))⟩
  by_cases h3 : p < -2147483647
  · have b1 : decide (1 ≤ q) = true := by simp; omega
    have b2 : decide (q ≤ 2147483647) = true := by simp; omega
    have b3 : decide (-2147483647 ≤ p) = false := by simp; omega
    go_enter Tryz.func118, Tryz.ntmps118
    go_wp2_with fail
    go_quiet (fail)
    go_wp2
    go_ret
    exact ⟨ret_bool (vld_no p q (by omega)).symm, (by repeat (first | exact Below.refl _ _ | refine Below.setCell ?_ (by first | (simp; done) | (simp; omega) | omega) _ | refine below_drewN ?_ _ | refine Below.alloc ?_ (by first | (simp; done) | (simp; omega) | omega) _ | refine Below.trans ?_ (hb.mono (by first | (simp; done) | (simp; omega) | omega))))⟩
  by_cases h4 : 2147483647 < p
  · have b1 : decide (1 ≤ q) = true := by simp; omega
    have b2 : decide (q ≤ 2147483647) = true := by simp; omega
    have b3 : decide (-2147483647 ≤ p) = true := by simp; omega
    have b4 : decide (p ≤ 2147483647) = false := by simp; omega
    go_enter Tryz.func118, Tryz.ntmps118
    go_wp2_with fail
    go_quiet (fail)
    go_wp2
    go_ret
    exact ⟨ret_bool (vld_no p q (by omega)).symm, (by repeat (first | exact Below.refl _ _ | refine Below.setCell ?_ (by first | (simp; done) | (simp; omega) | omega) _ | refine below_drewN ?_ _ | refine Below.alloc ?_ (by first | (simp; done) | (simp; omega) | omega) _ | refine Below.trans ?_ (hb.mono (by first | (simp; done) | (simp; omega) | omega))))⟩
  · have b1 : decide (1 ≤ q) = true := by simp; omega
    have b2 : decide (q ≤ 2147483647) = true := by simp; omega
    have b3 : decide (-2147483647 ≤ p) = true := by simp; omega
    have b4 : decide (p ≤ 2147483647) = true := by simp; omega
    have hqn : IntKind.u64.wrap q = (q.natAbs : Int) := by rw [IntWalk.u64_in _ (by omega)]; omega
    go_enter Tryz.func118, Tryz.ntmps118
    go_wp2_with fail
    go_quiet ((first | (go_at_call 130; exact Calls.quiet_of_same (size_q _ _ (by omega) (by omega))) | (go_at_call 152; exact Calls.quiet_of_same (gcd_q _ _ _ (by omega) (by omega)))))
    go_wp2
    go_ret
    exact ⟨ret_bool (vld_in p q (by omega) (by omega) (by omega) (by omega)), (by repeat (first | exact Below.refl _ _ | refine Below.setCell ?_ (by first | (simp; done) | (simp; omega) | omega) _ | refine below_drewN ?_ _ | refine Below.alloc ?_ (by first | (simp; done) | (simp; omega) | omega) _ | refine Below.trans ?_ (hb.mono (by first | (simp; done) | (simp; omega) | omega))))⟩
end Go.Proofs.YtmfbnlaohlnljaaGreatDoor

namespace Go.Proofs.YtmfbnlaohlnljaaGreatDoor
open Go.RowKit

/-- What the parts of two numbers are within. -/
def Fits64 (n : Int) : Prop := -9223372036854775808 ≤ n ∧ n ≤ 9223372036854775807

end Go.Proofs.YtmfbnlaohlnljaaGreatDoor

namespace Go.Proofs.YtmfbnlaohlnljaaGreatDoor
open Go.RowKit

/-- A product of two parts of numbers. -/
theorem mul_bd (a b : Int) (ha : -2147483647 ≤ a) (ha' : a ≤ 2147483647) (hb : -2147483647 ≤ b) (hb' : b ≤ 2147483647) : -4611686014132420609 ≤ a * b ∧ a * b ≤ 4611686014132420609 := by
  have h : (a * b).natAbs ≤ 4611686014132420609 := by
    rw [Int.natAbs_mul]
    exact Nat.le_trans (Nat.mul_le_mul (by omega : a.natAbs ≤ 2147483647) (by omega : b.natAbs ≤ 2147483647)) (by decide)
  omega
theorem vld_bd {p q : Int} (h : Nm.vld p q = true) : 1 ≤ q ∧ q ≤ 2147483647 ∧ -2147483647 ≤ p ∧ p ≤ 2147483647 := by
  unfold Nm.vld at h; have := of_decide_eq_true h; exact ⟨this.1, this.2.1, this.2.2.1, this.2.2.2.1⟩

theorem wrap_mul (a b : Int) (ha : -2147483647 ≤ a) (ha' : a ≤ 2147483647) (hb : -2147483647 ≤ b) (hb' : b ≤ 2147483647) : IntKind.i64.wrap (a * b) = a * b := by
  have := mul_bd a b ha ha' hb hb'
  exact IntWalk.i64_in _ (by omega)

end Go.Proofs.YtmfbnlaohlnljaaGreatDoor

namespace Go.Proofs.YtmfbnlaohlnljaaGreatDoor
open Go.RowKit

end Go.Proofs.YtmfbnlaohlnljaaGreatDoor

namespace Go.Proofs.YtmfbnlaohlnljaaGreatDoor
open Go.RowKit

/-- A result of an operation: ErrArg unless v, else what Make gives. -/
def resV (v : Bool) (p q : Int) : Value := numV (Nm.resP v p q) (Nm.resQ v p q) (Nm.resE v p q)
theorem resV_no (p q : Int) : resV false p q = numV 0 0 2 := by simp [resV, Nm.resP, Nm.resQ, Nm.resE]
theorem resV_ok (p q : Int) : resV true p q = numV (Nm.mkP p q) (Nm.mkQ p q) (Nm.mkE p q) := by simp [resV, Nm.resP, Nm.resQ, Nm.resE]
theorem resV_neg (v : Bool) (p q : Int) : resV v (-p) (-q) = resV v p q := by simp [resV, Nm.resP, Nm.resQ, Nm.resE, Nm.mkP_neg, Nm.mkQ_neg, Nm.mkE_neg]
theorem and_true' {a b : Bool} (h : (a && b) = true) : a = true ∧ b = true := by simpa using h

end Go.Proofs.YtmfbnlaohlnljaaGreatDoor
