/-
  The walk of FixSines: it returns true at any integers.
-/
-- LAW 02
import Derived.Test.YtanhomngnickfaaDoorFxAwake
namespace Go.Proofs.YtanhomngnickfaaDoor
open Go.RowKit

set_option maxRecDepth 100000 in
set_option maxHeartbeats 2000000 in
theorem fixSines_walk (a : Int) (w : World) (he : Env w) (_loa : -9223372036854775808 ≤ a) (_hia : a ≤ 9223372036854775807) :
    Calls Tryd.prog 5 #[.int .i64 a] w fun e w' => e = .returned (.bool true) ∧ Below w.heap.size w w' := by
  have hB := Below.refl w.heap.size w
  have HE := Lib.hid he
  clear he
  go_enter Tryd.func5, Tryd.ntmps5
  go_wp2_with fail
  refine (sine_any a _).mono ?_; rintro e w1 ⟨rfl, rfl⟩; go_wp2_with fail
  refine (rsine_any a _).mono ?_; rintro e w1 ⟨rfl, rfl⟩; go_wp2_with fail
  refine (dir_any a _).mono ?_; rintro e w1 ⟨rfl, rfl⟩; go_wp2_with fail
  refine (rdir_any a _).mono ?_; rintro e w1 ⟨rfl, rfl⟩; go_wp2_with fail
  refine (awake_any _ (HE.out.below hB)).mono ?_; rintro e w' ⟨rfl, hb1⟩; replace hB := hB.trans (hb1.mono hB.size); clear hb1; go_wp2_with fail
  go_ret
  exact ⟨rfl, hB⟩
end Go.Proofs.YtanhomngnickfaaDoor
