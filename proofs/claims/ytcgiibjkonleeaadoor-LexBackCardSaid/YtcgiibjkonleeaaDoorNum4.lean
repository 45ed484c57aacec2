/-
  Contracts: Valid of package num and of the reference, for any numbers.
-/
-- LAW 01
import Derived.Test.YtcgiibjkonleeaaDoorNum3
namespace Go.Proofs.YtcgiibjkonleeaaDoor
open Go.RowKit

/-- A number as a value. -/
def numA (p q : Int) : Value := .agg #[.int .i64 p, .int .i64 q]

theorem ret_bool {a b : Bool} (h : a = b) : Ending.returned (.bool a) = .returned (.bool b) := by rw [h]

theorem magnitude_q (n : Int) (w : World) (h0 : -9223372036854775808 ≤ n) (h1 : n ≤ 9223372036854775807) :
    Calls Tryd.prog 54 #[.int .i64 n] w fun e w' => e = .returned (.int .u64 (n.natAbs : Int)) ∧ w' = w :=
  (magnitude_any n w h0 h1).mono fun _ _ h => ⟨h.1, h.2.symm⟩
theorem vld_no (p q : Int) (h : ¬ (1 ≤ q ∧ q ≤ 2147483647 ∧ -2147483647 ≤ p ∧ p ≤ 2147483647)) : Nm.vld p q = false := by
  unfold Nm.vld; simp only [decide_eq_false_iff_not]; intro h2; exact h ⟨h2.1, h2.2.1, h2.2.2.1, h2.2.2.2.1⟩
theorem vld_in (p q : Int) (h1 : 1 ≤ q) (h2 : q ≤ 2147483647) (h3 : -2147483647 ≤ p) (h4 : p ≤ 2147483647) : ((Nm.gcdn p q : Int) == 1) = Nm.vld p q := by
  unfold Nm.vld
  rw [Bool.eq_iff_iff]; simp only [beq_iff_eq, decide_eq_true_eq]
  constructor
  · intro h; exact ⟨h1, h2, h3, h4, by omega⟩
  · intro h; omega

set_option maxHeartbeats 400000 in
theorem valid_any (p q : Int) (w : World) (hp0 : -9223372036854775808 ≤ p) (hp1 : p ≤ 9223372036854775807) (hq0 : -9223372036854775808 ≤ q) (hq1 : q ≤ 9223372036854775807) :
    Calls Tryd.prog 43 #[.agg #[.int .i64 p, .int .i64 q]] w fun e w' => e = .returned (.bool (Nm.vld p q)) ∧ Below w.heap.size w w' := by
  by_cases h1 : q < 1
  · go_enter Tryd.func43, Tryd.ntmps43
    go_wp2
    go_ret
    exact ⟨ret_bool (vld_no p q (by omega)).symm, (by repeat (first | exact Below.refl _ _ | refine Below.setCell ?_ (by first | (simp; done) | (simp; omega) | omega) _ | refine below_drewN ?_ _ | refine Below.alloc ?_ (by first | (simp; done) | (simp; omega) | omega) _ | refine Below.trans ?_ (hb.mono (by first | (simp; done) | (simp; omega) | omega))))⟩
  by_cases h2 : 2147483647 < q
  · go_enter Tryd.func43, Tryd.ntmps43
    go_wp2
    go_ret
    exact ⟨ret_bool (vld_no p q (by omega)).symm, (by repeat (first | exact Below.refl _ _ | refine Below.setCell ?_ (by first | (simp; done) | (simp; omega) | omega) _ | refine below_drewN ?_ _ | refine Below.alloc ?_ (by first | (simp; done) | (simp; omega) | omega) _ | refine Below.trans ?_ (hb.mono (by first | (simp; done) | (simp; omega) | omega))))⟩
  by_cases h3 : p < -2147483647
  · go_enter Tryd.func43, Tryd.ntmps43
    go_wp2
    go_ret
    exact ⟨ret_bool (vld_no p q (by omega)).symm, (by repeat (first | exact Below.refl _ _ | refine Below.setCell ?_ (by first | (simp; done) | (simp; omega) | omega) _ | refine below_drewN ?_ _ | refine Below.alloc ?_ (by first | (simp; done) | (simp; omega) | omega) _ | refine Below.trans ?_ (hb.mono (by first | (simp; done) | (simp; omega) | omega))))⟩
  by_cases h4 : 2147483647 < p
  · go_enter Tryd.func43, Tryd.ntmps43
    go_wp2
    go_ret
    exact ⟨ret_bool (vld_no p q (by omega)).symm, (by repeat (first | exact Below.refl _ _ | refine Below.setCell ?_ (by first | (simp; done) | (simp; omega) | omega) _ | refine below_drewN ?_ _ | refine Below.alloc ?_ (by first | (simp; done) | (simp; omega) | omega) _ | refine Below.trans ?_ (hb.mono (by first | (simp; done) | (simp; omega) | omega))))⟩
  · go_enter Tryd.func43, Tryd.ntmps43
    go_wp2_with fail
    go_quiet ((first | (go_at_call 54; exact Calls.quiet_of_same (magnitude_q _ _ (by omega) (by omega))) | (go_at_call 53; exact Calls.quiet_of (divisor_of _ _ _ (by omega) (by omega)))))
    go_wp2
    go_ret
    exact ⟨ret_bool (vld_in p q (by omega) (by omega) (by omega) (by omega)), (by repeat (first | exact Below.refl _ _ | refine Below.setCell ?_ (by first | (simp; done) | (simp; omega) | omega) _ | refine below_drewN ?_ _ | refine Below.alloc ?_ (by first | (simp; done) | (simp; omega) | omega) _ | refine Below.trans ?_ (hb.mono (by first | (simp; done) | (simp; omega) | omega))))⟩

end Go.Proofs.YtcgiibjkonleeaaDoor
