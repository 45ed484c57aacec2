/-
  Contracts: Add, Sub, Mul, Div of package num and of the reference, for any numbers.
-/
-- LAW 01
import Derived.Test.YtcgiibjkonleeaaDoorNum7
namespace Go.Proofs.YtcgiibjkonleeaaDoor
open Go.RowKit

/-- A result of an operation: ErrArg unless v, else what Make gives. -/
def resV (v : Bool) (p q : Int) : Value := numV (Nm.resP v p q) (Nm.resQ v p q) (Nm.resE v p q)
theorem resV_no (p q : Int) : resV false p q = numV 0 0 2 := by simp [resV, Nm.resP, Nm.resQ, Nm.resE]
theorem resV_ok (p q : Int) : resV true p q = numV (Nm.mkP p q) (Nm.mkQ p q) (Nm.mkE p q) := by simp [resV, Nm.resP, Nm.resQ, Nm.resE]
theorem resV_neg (v : Bool) (p q : Int) : resV v (-p) (-q) = resV v p q := by simp [resV, Nm.resP, Nm.resQ, Nm.resE, Nm.mkP_neg, Nm.mkQ_neg, Nm.mkE_neg]
theorem and_true' {a b : Bool} (h : (a && b) = true) : a = true ∧ b = true := by simpa using h

end Go.Proofs.YtcgiibjkonleeaaDoor
