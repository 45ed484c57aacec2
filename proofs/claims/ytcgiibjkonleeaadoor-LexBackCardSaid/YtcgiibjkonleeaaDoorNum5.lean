/-
  Contracts: both (reference), allValid and exact (package num).
-/
-- LAW 01
import Derived.Test.YtcgiibjkonleeaaDoorNum4
namespace Go.Proofs.YtcgiibjkonleeaaDoor
open Go.RowKit

/-- What the parts of two numbers are within. -/
def Fits64 (n : Int) : Prop := -9223372036854775808 ≤ n ∧ n ≤ 9223372036854775807

end Go.Proofs.YtcgiibjkonleeaaDoor
