/-
  The walk of FixRoots: it returns true at any integers.
-/
-- LAW 02
import Derived.Test.YtanhomngnickfaaDoorFxAwake
namespace Go.Proofs.YtanhomngnickfaaDoor
open Go.RowKit

set_option maxRecDepth 100000 in
set_option maxHeartbeats 2000000 in
theorem fixRoots_walk (a b : Int) (w : World) (he : Env w) (_loa : -9223372036854775808 ≤ a) (_hia : a ≤ 9223372036854775807) (_lob : -9223372036854775808 ≤ b) (_hib : b ≤ 9223372036854775807) :
    Calls Tryd.prog 4 #[.int .i64 a, .int .i64 b] w fun e w' => e = .returned (.bool true) ∧ Below w.heap.size w w' := by
  have hB := Below.refl w.heap.size w
  have HE := Lib.hid he
  clear he
  go_enter Tryd.func4, Tryd.ntmps4
  go_wp2_with fail
  refine (sqrt_any a _).mono ?_; rintro e w' ⟨rfl, hb1⟩; replace hB := hB.trans (hb1.mono hB.size); clear hb1; go_wp2_with fail
  refine (rsqrt_any a _).mono ?_; rintro e w' ⟨rfl, hb1⟩; replace hB := hB.trans (hb1.mono hB.size); clear hb1; go_wp2_with fail
  refine (hypot_any a b _).mono ?_; rintro e w' ⟨rfl, hb1⟩; replace hB := hB.trans (hb1.mono hB.size); clear hb1; go_wp2_with fail
  refine (rhypot_any a b _).mono ?_; rintro e w' ⟨rfl, hb1⟩; replace hB := hB.trans (hb1.mono hB.size); clear hb1; go_wp2_with fail
  refine (awake_any _ (HE.out.below hB)).mono ?_; rintro e w' ⟨rfl, hb1⟩; replace hB := hB.trans (hb1.mono hB.size); clear hb1; go_wp2_with fail
  go_ret
  exact ⟨rfl, hB⟩
end Go.Proofs.YtanhomngnickfaaDoor
