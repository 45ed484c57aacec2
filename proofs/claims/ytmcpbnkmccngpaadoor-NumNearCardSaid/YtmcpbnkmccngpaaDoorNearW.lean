/-
  The walk of NumNear.
-/
-- LAW 01
import Derived.Test.YtmcpbnkmccngpaaDoorNear4
namespace Go.Proofs.YtmcpbnkmccngpaaDoor
open Go.RowKit

set_option maxRecDepth 100000 in
set_option maxHeartbeats 1000000 in
theorem numNear_walk (s : ByteArray) (aP aQ bP bQ : Int) (w : World) (he : Env w) {P : Prop} (_ : P) (h1 : -9223372036854775808 ≤ aP) (h2 : aP ≤ 9223372036854775807) (h3 : -9223372036854775808 ≤ aQ) (h4 : aQ ≤ 9223372036854775807) (k1 : -9223372036854775808 ≤ bP) (k2 : bP ≤ 9223372036854775807) (k3 : -9223372036854775808 ≤ bQ) (k4 : bQ ≤ 9223372036854775807) :
    Calls Tryd.prog 5 #[.string s, .agg #[.int .i64 aP, .int .i64 aQ], .agg #[.int .i64 bP, .int .i64 bQ]] w fun e w' => e = .returned (.bool true) ∧ Below w.heap.size w w' := by
  obtain ⟨x, y, e0, c1, c2⟩ := near_same s aP aQ bP bQ h1 h2 h3 h4 k1 k2 k3 k4
  have HE := Lib.hid he
  have C1 := Lib.hid c1
  have C2 := Lib.hid c2
  clear he c1 c2
  go_enter Tryd.func5, Tryd.ntmps5
  go_wp2_with fail
  have la : NumAt ((w.alloc (.cells #[.int .i64 aP, .int .i64 aQ] 23)).alloc (.cells #[.int .i64 bP, .int .i64 bQ] 23)) w.heap.size aP aQ := (numAt_new w _ _ _).alloc _
  have lb : NumAt ((w.alloc (.cells #[.int .i64 aP, .int .i64 aQ] 23)).alloc (.cells #[.int .i64 bP, .int .i64 bQ] 23)) (w.heap.size + 1) bP bQ := by
    have := numAt_new (w.alloc (.cells #[.int .i64 aP, .int .i64 aQ] 23)) bP bQ 23
    rwa [show (w.alloc (.cells #[.int .i64 aP, .int .i64 aQ] 23)).heap.size = w.heap.size + 1 by simp] at this
  have bel : Below w.heap.size w ((w.alloc (.cells #[.int .i64 aP, .int .i64 aQ] 23)).alloc (.cells #[.int .i64 bP, .int .i64 bQ] 23)) := ((Below.refl _ _).alloc (Nat.le_refl _) _).alloc (by simp) _
  generalize (w.alloc (.cells #[.int .i64 aP, .int .i64 aQ] 23)).alloc (.cells #[.int .i64 bP, .int .i64 bQ] 23) = W at la lb bel ⊢
  refine (C1.out _).mono ?_; rintro e w' ⟨rfl, hb1⟩; replace la := la.below hb1; replace lb := lb.below hb1; replace bel := bel.trans (hb1.mono bel.size); clear hb1; simp only [numV]
  have a0 := la.c0; have a1 := la.c1; have al := la.lt
  have b0 := lb.c0; have b1 := lb.c1; have bl := lb.lt
  go_wp2_with fail
  clear a0 a1 al b0 b1 bl
  have lx := numAt_new w' x y 23
  replace bel := bel.trans (((Below.refl w'.heap.size w').alloc (Nat.le_refl _) (.cells #[.int .i64 x, .int .i64 y] 23)).mono bel.size)
  clear la lb
  generalize World.alloc w' (.cells #[.int .i64 x, .int .i64 y] 23) = W2 at lx bel ⊢
  generalize w'.heap.size = bx at lx ⊢
  clear w'
  refine (C2.out _).mono ?_; rintro e w' ⟨rfl, hb1⟩; replace lx := lx.below hb1; replace bel := bel.trans (hb1.mono bel.size); clear hb1; simp only [numV]
  go_upto_region 3 with fail
  have ly := numAt_new w' x y 23
  replace bel := bel.trans (((Below.refl w'.heap.size w').alloc (Nat.le_refl _) (.cells #[.int .i64 x, .int .i64 y] 23)).mono bel.size)
  replace lx := lx.alloc (.cells #[.int .i64 x, .int .i64 y] 23)
  generalize World.alloc w' (.cells #[.int .i64 x, .int .i64 y] 23) = W3 at lx ly bel ⊢
  generalize w'.heap.size = bz at ly ⊢
  clear w'
  have a0 := lx.c0; have a1 := lx.c1; have al := lx.lt
  have b0 := ly.c0; have b1 := ly.c1; have bl := ly.lt
  go_wp2_with fail
  clear a0 a1 al b0 b1 bl
  refine (awake_any _ (HE.out.below bel)).mono ?_; rintro e w3 ⟨rfl, hb1⟩
  replace bel := bel.trans (hb1.mono bel.size)
  clear hb1
  go_wp2_with fail
  go_ret
  exact ⟨rfl, bel⟩
end Go.Proofs.YtmcpbnkmccngpaaDoor
