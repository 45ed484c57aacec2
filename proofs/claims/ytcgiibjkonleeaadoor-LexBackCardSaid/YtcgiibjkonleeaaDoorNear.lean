/-
  Contracts: Near of package num: the nearest fixed number.
-/
-- LAW 01
import Derived.Test.YtcgiibjkonleeaaDoorMod
namespace Go.Proofs.YtcgiibjkonleeaaDoor
open Go.RowKit

end Go.Proofs.YtcgiibjkonleeaaDoor
