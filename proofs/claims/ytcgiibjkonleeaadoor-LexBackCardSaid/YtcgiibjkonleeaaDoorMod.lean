/-
  Contracts: Mod of package num and of the reference.
-/
-- LAW 01
import Derived.Test.YtcgiibjkonleeaaDoorNum9
namespace Go.Proofs.YtcgiibjkonleeaaDoor
open Go.RowKit

/-- What Mod returns. -/
def modV (v : Bool) (aP aQ bP bQ : Int) : Value := if v = true then (if bP = 0 then numV 0 0 18 else numV (Nm.mkP ((aP * bQ).fmod (aQ * bP)) (aQ * bQ)) (Nm.mkQ ((aP * bQ).fmod (aQ * bP)) (aQ * bQ)) (Nm.mkE ((aP * bQ).fmod (aQ * bP)) (aQ * bQ))) else numV 0 0 2
theorem modV_no (aP aQ bP bQ : Int) : modV false aP aQ bP bQ = numV 0 0 2 := rfl
theorem modV_zero (aP aQ bQ : Int) : modV true aP aQ 0 bQ = numV 0 0 18 := rfl
theorem modV_ok (aP aQ bP bQ : Int) (h : bP ≠ 0) : modV true aP aQ bP bQ = numV (Nm.mkP ((aP * bQ).fmod (aQ * bP)) (aQ * bQ)) (Nm.mkQ ((aP * bQ).fmod (aQ * bP)) (aQ * bQ)) (Nm.mkE ((aP * bQ).fmod (aQ * bP)) (aQ * bQ)) := by
  simp only [modV, if_neg h]; rfl

end Go.Proofs.YtcgiibjkonleeaaDoor
