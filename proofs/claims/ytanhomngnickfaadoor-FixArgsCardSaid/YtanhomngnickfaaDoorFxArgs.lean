/-
  The walk of FixArgs: it returns true at any integers.
-/
-- LAW 02
import Derived.Test.YtanhomngnickfaaDoorFxAwake
namespace Go.Proofs.YtanhomngnickfaaDoor
open Go.RowKit

set_option maxRecDepth 100000 in
set_option maxHeartbeats 2000000 in
theorem fixArgs_walk (x y : Int) (w : World) (he : Env w) (_lox : -9223372036854775808 ≤ x) (_hix : x ≤ 9223372036854775807) (_loy : -9223372036854775808 ≤ y) (_hiy : y ≤ 9223372036854775807) :
    Calls Tryd.prog 7 #[.int .i64 x, .int .i64 y] w fun e w' => e = .returned (.bool true) ∧ Below w.heap.size w w' := by
  have hB := Below.refl w.heap.size w
  have HE := Lib.hid he
  clear he
  go_enter Tryd.func7, Tryd.ntmps7
  go_wp2_with fail
  refine (arg_any x y _).mono ?_; rintro e w' ⟨rfl, hb1⟩; replace hB := hB.trans (hb1.mono hB.size); clear hb1; go_wp2_with fail
  refine (rarg_any x y _).mono ?_; rintro e w' ⟨rfl, hb1⟩; replace hB := hB.trans (hb1.mono hB.size); clear hb1; go_wp2_with fail
  refine (awake_any _ (HE.out.below hB)).mono ?_; rintro e w' ⟨rfl, hb1⟩; replace hB := hB.trans (hb1.mono hB.size); clear hb1; go_wp2_with fail
  go_ret
  exact ⟨rfl, hB⟩
end Go.Proofs.YtanhomngnickfaaDoor
