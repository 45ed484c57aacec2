/-
  Contracts: Floor, Cmp, FromFixed, Mod of package num and of the reference.
-/
-- LAW 01
import Derived.Test.YtcgiibjkonleeaaDoorFix1
namespace Go.Proofs.YtcgiibjkonleeaaDoor
open Go.RowKit

/-- Compare: -1, 0, 1. -/
def cmp3 (x y : Int) : Int := if x < y then -1 else if y < x then 1 else 0
theorem cmp3_lt {x y : Int} (h : x < y) : cmp3 x y = -1 := by simp [cmp3, h]
theorem cmp3_gt {x y : Int} (h : y < x) : cmp3 x y = 1 := by simp only [cmp3, if_neg (by omega : ¬ x < y), if_pos h]
theorem cmp3_eq {x y : Int} (h : ¬ x < y) (h' : ¬ y < x) : cmp3 x y = 0 := by simp only [cmp3, if_neg h, if_neg h']

/-- What Cmp returns. -/
def cmpV (v : Bool) (x y : Int) : Value := if v = true then .tuple #[.int .i64 (cmp3 x y), .int .i64 0] else .tuple #[.int .i64 0, .int .i64 2]

end Go.Proofs.YtcgiibjkonleeaaDoor
