/-
  Contracts: units (the fixed part of a rest) of package num, at quotients of 64 bits.
-/
-- LAW 01
import Derived.Test.YtcgiibjkonleeaaDoorNum8
import Derived.Test.YtcgiibjkonleeaaDoorShelf
import Derived.Test.YtcgiibjkonleeaaDoorMath2
import Derived.Laws.Externs
namespace Go.Proofs.YtcgiibjkonleeaaDoor
open Go.RowKit

end Go.Proofs.YtcgiibjkonleeaaDoor
