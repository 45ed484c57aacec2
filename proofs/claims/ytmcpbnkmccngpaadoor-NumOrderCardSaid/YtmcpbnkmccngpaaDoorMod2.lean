/-
  Mod's parts: of what it returns.
-/
-- LAW 01
import Derived.Test.YtmcpbnkmccngpaaDoorMod
namespace Go.Proofs.YtmcpbnkmccngpaaDoor
open Go.RowKit

/-- Mod's parts. -/
def modP (v : Bool) (aP aQ bP bQ : Int) : Int := if v = true ∧ bP ≠ 0 then Nm.mkP ((aP * bQ).fmod (aQ * bP)) (aQ * bQ) else 0
def modQ (v : Bool) (aP aQ bP bQ : Int) : Int := if v = true ∧ bP ≠ 0 then Nm.mkQ ((aP * bQ).fmod (aQ * bP)) (aQ * bQ) else 0
def modE (v : Bool) (aP aQ bP bQ : Int) : Int := if v = true then (if bP ≠ 0 then Nm.mkE ((aP * bQ).fmod (aQ * bP)) (aQ * bQ) else 18) else 2
theorem modV_eq (v : Bool) (aP aQ bP bQ : Int) : modV v aP aQ bP bQ = numV (modP v aP aQ bP bQ) (modQ v aP aQ bP bQ) (modE v aP aQ bP bQ) := by
  cases v
  · simp [modV, modP, modQ, modE]
  · by_cases hz : bP = 0
    · simp [modV, modP, modQ, modE, hz]
    · simp [modV, modP, modQ, modE, hz]
theorem mod2x_any (aP aQ bP bQ : Int) (w : World) (h1 : -9223372036854775808 ≤ aP) (h2 : aP ≤ 9223372036854775807) (h3 : -9223372036854775808 ≤ aQ) (h4 : aQ ≤ 9223372036854775807) (k1 : -9223372036854775808 ≤ bP) (k2 : bP ≤ 9223372036854775807) (k3 : -9223372036854775808 ≤ bQ) (k4 : bQ ≤ 9223372036854775807) :
    Calls Tryd.prog 28 #[.agg #[.int .i64 aP, .int .i64 aQ], .agg #[.int .i64 bP, .int .i64 bQ]] w fun e w' => e = .returned (numV (modP (Nm.vld aP aQ && Nm.vld bP bQ) aP aQ bP bQ) (modQ (Nm.vld aP aQ && Nm.vld bP bQ) aP aQ bP bQ) (modE (Nm.vld aP aQ && Nm.vld bP bQ) aP aQ bP bQ)) ∧ Below w.heap.size w w' := by
  rw [← modV_eq]; exact mod_any aP aQ bP bQ w h1 h2 h3 h4 k1 k2 k3 k4
end Go.Proofs.YtmcpbnkmccngpaaDoor
