/-
  Contracts: Add, Sub, Mul, Div of package num and of the reference, for any numbers.
-/
-- LAW 01
import Derived.Test.YtanhomngnickfaaDoorNum7
namespace Go.Proofs.YtanhomngnickfaaDoor
open Go.RowKit

/-- A result of an operation: ErrArg unless v, else what Make gives. -/
def resV (v : Bool) (p q : Int) : Value := numV (Nm.resP v p q) (Nm.resQ v p q) (Nm.resE v p q)
theorem resV_no (p q : Int) : resV false p q = numV 0 0 2 := by simp [resV, Nm.resP, Nm.resQ, Nm.resE]
theorem resV_ok (p q : Int) : resV true p q = numV (Nm.mkP p q) (Nm.mkQ p q) (Nm.mkE p q) := by simp [resV, Nm.resP, Nm.resQ, Nm.resE]
theorem resV_neg (v : Bool) (p q : Int) : resV v (-p) (-q) = resV v p q := by simp [resV, Nm.resP, Nm.resQ, Nm.resE, Nm.mkP_neg, Nm.mkQ_neg, Nm.mkE_neg]
theorem and_true' {a b : Bool} (h : (a && b) = true) : a = true ∧ b = true := by simpa using h

theorem calc_add (aP aQ bP bQ : Int) (w : World) (h1 : -9223372036854775808 ≤ aP) (h2 : aP ≤ 9223372036854775807) (h3 : -9223372036854775808 ≤ aQ) (h4 : aQ ≤ 9223372036854775807) (k1 : -9223372036854775808 ≤ bP) (k2 : bP ≤ 9223372036854775807) (k3 : -9223372036854775808 ≤ bQ) (k4 : bQ ≤ 9223372036854775807) :
    Calls Tryd.prog 92 #[.string ⟨#[43]⟩, .agg #[.int .i64 aP, .int .i64 aQ], .agg #[.int .i64 bP, .int .i64 bQ]] w fun e w' => e = .returned (resV (Nm.vld aP aQ && Nm.vld bP bQ) (aP * bQ + bP * aQ) (aQ * bQ)) ∧ Below w.heap.size w w' := by
  cases hv : (Nm.vld aP aQ && Nm.vld bP bQ)
  · rw [resV_no]
    exact calc_err _ aP aQ bP bQ w fun w => exact_no _ aP aQ bP bQ w h1 h2 h3 h4 k1 k2 k3 k4 hv
  · rw [resV_ok]
    obtain ⟨va, vb⟩ := and_true' hv
    obtain ⟨x1, x2, x3, x4⟩ := vld_bd va
    obtain ⟨y1, y2, y3, y4⟩ := vld_bd vb
    obtain ⟨z1, t1⟩ := mul_bd aP bQ (by omega) (by omega) (by omega) (by omega)
    obtain ⟨z2, t2⟩ := mul_bd bP aQ (by omega) (by omega) (by omega) (by omega)
    obtain ⟨z3, t3⟩ := mul_bd aQ bQ (by omega) (by omega) (by omega) (by omega)
    exact calc_ok _ aP aQ bP bQ _ _ w (by omega) (by omega) (by omega) (by omega) fun w => exact_add aP aQ bP bQ w va vb

set_option maxHeartbeats 400000 in
theorem add_any (aP aQ bP bQ : Int) (w : World) (h1 : -9223372036854775808 ≤ aP) (h2 : aP ≤ 9223372036854775807) (h3 : -9223372036854775808 ≤ aQ) (h4 : aQ ≤ 9223372036854775807) (k1 : -9223372036854775808 ≤ bP) (k2 : bP ≤ 9223372036854775807) (k3 : -9223372036854775808 ≤ bQ) (k4 : bQ ≤ 9223372036854775807) :
    Calls Tryd.prog 67 #[.agg #[.int .i64 aP, .int .i64 aQ], .agg #[.int .i64 bP, .int .i64 bQ]] w fun e w' => e = .returned (resV (Nm.vld aP aQ && Nm.vld bP bQ) (aP * bQ + bP * aQ) (aQ * bQ)) ∧ Below w.heap.size w w' := by
  go_enter Tryd.func67, Tryd.ntmps67
  go_wp2_with fail
  refine (calc_add _ _ _ _ _ h1 h2 h3 h4 k1 k2 k3 k4).mono ?_; rintro e w' ⟨rfl, hb⟩; obtain ⟨hc, hf⟩ := bcell hb; have hsz := hb.size; simp at hsz; simp only [resV, numV]
  go_wp2_with fail
  exact bodyPost_ret (v := resV (Nm.vld aP aQ && Nm.vld bP bQ) (aP * bQ + bP * aQ) (aQ * bQ)) (by simp [results, Tryd.results67, go_sem, resV, numV, hc]) rfl ⟨rfl, (by repeat (first | exact Below.refl _ _ | refine Below.setCell ?_ (by first | (simp; done) | (simp; omega) | omega) _ | refine below_drewN ?_ _ | refine Below.alloc ?_ (by first | (simp; done) | (simp; omega) | omega) _ | refine Below.trans ?_ (hb.mono (by first | (simp; done) | (simp; omega) | omega))))⟩

theorem calc_sub (aP aQ bP bQ : Int) (w : World) (h1 : -9223372036854775808 ≤ aP) (h2 : aP ≤ 9223372036854775807) (h3 : -9223372036854775808 ≤ aQ) (h4 : aQ ≤ 9223372036854775807) (k1 : -9223372036854775808 ≤ bP) (k2 : bP ≤ 9223372036854775807) (k3 : -9223372036854775808 ≤ bQ) (k4 : bQ ≤ 9223372036854775807) :
    Calls Tryd.prog 92 #[.string ⟨#[45]⟩, .agg #[.int .i64 aP, .int .i64 aQ], .agg #[.int .i64 bP, .int .i64 bQ]] w fun e w' => e = .returned (resV (Nm.vld aP aQ && Nm.vld bP bQ) (aP * bQ - bP * aQ) (aQ * bQ)) ∧ Below w.heap.size w w' := by
  cases hv : (Nm.vld aP aQ && Nm.vld bP bQ)
  · rw [resV_no]
    exact calc_err _ aP aQ bP bQ w fun w => exact_no _ aP aQ bP bQ w h1 h2 h3 h4 k1 k2 k3 k4 hv
  · rw [resV_ok]
    obtain ⟨va, vb⟩ := and_true' hv
    obtain ⟨x1, x2, x3, x4⟩ := vld_bd va
    obtain ⟨y1, y2, y3, y4⟩ := vld_bd vb
    obtain ⟨z1, t1⟩ := mul_bd aP bQ (by omega) (by omega) (by omega) (by omega)
    obtain ⟨z2, t2⟩ := mul_bd bP aQ (by omega) (by omega) (by omega) (by omega)
    obtain ⟨z3, t3⟩ := mul_bd aQ bQ (by omega) (by omega) (by omega) (by omega)
    exact calc_ok _ aP aQ bP bQ _ _ w (by omega) (by omega) (by omega) (by omega) fun w => exact_sub aP aQ bP bQ w va vb

theorem calc_mul (aP aQ bP bQ : Int) (w : World) (h1 : -9223372036854775808 ≤ aP) (h2 : aP ≤ 9223372036854775807) (h3 : -9223372036854775808 ≤ aQ) (h4 : aQ ≤ 9223372036854775807) (k1 : -9223372036854775808 ≤ bP) (k2 : bP ≤ 9223372036854775807) (k3 : -9223372036854775808 ≤ bQ) (k4 : bQ ≤ 9223372036854775807) :
    Calls Tryd.prog 92 #[.string ⟨#[42]⟩, .agg #[.int .i64 aP, .int .i64 aQ], .agg #[.int .i64 bP, .int .i64 bQ]] w fun e w' => e = .returned (resV (Nm.vld aP aQ && Nm.vld bP bQ) (aP * bP) (aQ * bQ)) ∧ Below w.heap.size w w' := by
  cases hv : (Nm.vld aP aQ && Nm.vld bP bQ)
  · rw [resV_no]
    exact calc_err _ aP aQ bP bQ w fun w => exact_no _ aP aQ bP bQ w h1 h2 h3 h4 k1 k2 k3 k4 hv
  · rw [resV_ok]
    obtain ⟨va, vb⟩ := and_true' hv
    obtain ⟨x1, x2, x3, x4⟩ := vld_bd va
    obtain ⟨y1, y2, y3, y4⟩ := vld_bd vb
    obtain ⟨z1, t1⟩ := mul_bd aP bP (by omega) (by omega) (by omega) (by omega)
    obtain ⟨z3, t3⟩ := mul_bd aQ bQ (by omega) (by omega) (by omega) (by omega)
    exact calc_ok _ aP aQ bP bQ _ _ w (by omega) (by omega) (by omega) (by omega) fun w => exact_mul aP aQ bP bQ w va vb

set_option maxHeartbeats 400000 in
theorem mul_any (aP aQ bP bQ : Int) (w : World) (h1 : -9223372036854775808 ≤ aP) (h2 : aP ≤ 9223372036854775807) (h3 : -9223372036854775808 ≤ aQ) (h4 : aQ ≤ 9223372036854775807) (k1 : -9223372036854775808 ≤ bP) (k2 : bP ≤ 9223372036854775807) (k3 : -9223372036854775808 ≤ bQ) (k4 : bQ ≤ 9223372036854775807) :
    Calls Tryd.prog 71 #[.agg #[.int .i64 aP, .int .i64 aQ], .agg #[.int .i64 bP, .int .i64 bQ]] w fun e w' => e = .returned (resV (Nm.vld aP aQ && Nm.vld bP bQ) (aP * bP) (aQ * bQ)) ∧ Below w.heap.size w w' := by
  go_enter Tryd.func71, Tryd.ntmps71
  go_wp2_with fail
  refine (calc_mul _ _ _ _ _ h1 h2 h3 h4 k1 k2 k3 k4).mono ?_; rintro e w' ⟨rfl, hb⟩; obtain ⟨hc, hf⟩ := bcell hb; have hsz := hb.size; simp at hsz; simp only [resV, numV]
  go_wp2_with fail
  exact bodyPost_ret (v := resV (Nm.vld aP aQ && Nm.vld bP bQ) (aP * bP) (aQ * bQ)) (by simp [results, Tryd.results71, go_sem, resV, numV, hc]) rfl ⟨rfl, (by repeat (first | exact Below.refl _ _ | refine Below.setCell ?_ (by first | (simp; done) | (simp; omega) | omega) _ | refine below_drewN ?_ _ | refine Below.alloc ?_ (by first | (simp; done) | (simp; omega) | omega) _ | refine Below.trans ?_ (hb.mono (by first | (simp; done) | (simp; omega) | omega))))⟩

theorem calc_div (aP aQ bP bQ : Int) (w : World) (h1 : -9223372036854775808 ≤ aP) (h2 : aP ≤ 9223372036854775807) (h3 : -9223372036854775808 ≤ aQ) (h4 : aQ ≤ 9223372036854775807) (k1 : -9223372036854775808 ≤ bP) (k2 : bP ≤ 9223372036854775807) (k3 : -9223372036854775808 ≤ bQ) (k4 : bQ ≤ 9223372036854775807) :
    Calls Tryd.prog 92 #[.string ⟨#[47]⟩, .agg #[.int .i64 aP, .int .i64 aQ], .agg #[.int .i64 bP, .int .i64 bQ]] w fun e w' => e = .returned (resV (Nm.vld aP aQ && Nm.vld bP bQ) (aP * bQ) (aQ * bP)) ∧ Below w.heap.size w w' := by
  cases hv : (Nm.vld aP aQ && Nm.vld bP bQ)
  · rw [resV_no]
    exact calc_err _ aP aQ bP bQ w fun w => exact_no _ aP aQ bP bQ w h1 h2 h3 h4 k1 k2 k3 k4 hv
  · rw [resV_ok]
    obtain ⟨va, vb⟩ := and_true' hv
    obtain ⟨x1, x2, x3, x4⟩ := vld_bd va
    obtain ⟨y1, y2, y3, y4⟩ := vld_bd vb
    obtain ⟨z1, t1⟩ := mul_bd aP bQ (by omega) (by omega) (by omega) (by omega)
    obtain ⟨z3, t3⟩ := mul_bd aQ bP (by omega) (by omega) (by omega) (by omega)
    exact calc_ok _ aP aQ bP bQ _ _ w (by omega) (by omega) (by omega) (by omega) fun w => exact_div aP aQ bP bQ w va vb

end Go.Proofs.YtanhomngnickfaaDoor
