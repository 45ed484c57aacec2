/-
  Contracts: the four operations, of package num and of the reference.
-/
-- LAW 01
import Derived.Test.YtcgiibjkonleeaaDoorNum6
namespace Go.Proofs.YtcgiibjkonleeaaDoor
open Go.RowKit

end Go.Proofs.YtcgiibjkonleeaaDoor
