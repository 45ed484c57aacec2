/-
  The walk of NumPowers: its calls, one after the other, and what it compares.
-/
-- LAW 01
import Derived.Test.YtmcpbnkmccngpaaDoorRPower
namespace Go.Proofs.YtmcpbnkmccngpaaDoor
open Go.RowKit

set_option maxRecDepth 100000 in
set_option maxHeartbeats 4000000 in
theorem numPowers_core (aP aQ bP bQ n x1 y1 e1 x2 y2 e2 : Int) (w : World) (he : Env w)
    (c1 : ∀ w, Calls Tryd.prog 28 #[.agg #[.int .i64 aP, .int .i64 aQ], .agg #[.int .i64 bP, .int .i64 bQ]] w fun e w' => e = .returned (numV x1 y1 e1) ∧ Below w.heap.size w w')
    (c2 : ∀ w, Calls Tryd.prog 29 #[.agg #[.int .i64 aP, .int .i64 aQ], .agg #[.int .i64 bP, .int .i64 bQ]] w fun e w' => e = .returned (numV x1 y1 e1) ∧ Below w.heap.size w w')
    (c3 : ∀ w, Calls Tryd.prog 30 #[.agg #[.int .i64 aP, .int .i64 aQ], .int .i64 n] w fun e w' => e = .returned (numV x2 y2 e2) ∧ Below w.heap.size w w')
    (c4 : ∀ w, Calls Tryd.prog 31 #[.agg #[.int .i64 aP, .int .i64 aQ], .int .i64 n] w fun e w' => e = .returned (numV x2 y2 e2) ∧ Below w.heap.size w w') :
    Calls Tryd.prog 6 #[.agg #[.int .i64 aP, .int .i64 aQ], .agg #[.int .i64 bP, .int .i64 bQ], .int .i64 n] w fun e w' => e = .returned (.bool true) ∧ Below w.heap.size w w' := by
  have HE := Lib.hid he
  have C1 := Lib.hid c1
  have C2 := Lib.hid c2
  have C3 := Lib.hid c3
  have C4 := Lib.hid c4
  clear he c1 c2 c3 c4
  go_enter Tryd.func6, Tryd.ntmps6
  go_wp2_with fail
  have hB := Below.refl w.heap.size w
  have n_aP := numAt_new (w) aP aQ 23
  replace hB := hB.alloc hB.size (.cells #[.int .i64 aP, .int .i64 aQ] 23)
  have n_bP := numAt_new (World.alloc (w) (.cells #[.int .i64 aP, .int .i64 aQ] 23)) bP bQ 23
  rw [show (World.alloc (w) (.cells #[.int .i64 aP, .int .i64 aQ] 23)).heap.size = w.heap.size + 1 by simp] at n_bP
  replace n_aP := n_aP.alloc (.cells #[.int .i64 bP, .int .i64 bQ] 23)
  replace hB := hB.alloc hB.size (.cells #[.int .i64 bP, .int .i64 bQ] 23)
  generalize World.alloc (World.alloc (w) (.cells #[.int .i64 aP, .int .i64 aQ] 23)) (.cells #[.int .i64 bP, .int .i64 bQ] 23) = W at n_aP n_bP hB ⊢
  refine (C1.out _).mono ?_; rintro e w' ⟨rfl, hb1⟩
  replace hB := hB.trans (hb1.mono hB.size)
  replace n_aP := n_aP.below hb1
  replace n_bP := n_bP.below hb1
  clear hb1
  have n_aP_0 := n_aP.c0
  have n_aP_1 := n_aP.c1
  have n_aP_l := n_aP.lt
  have n_bP_0 := n_bP.c0
  have n_bP_1 := n_bP.c1
  have n_bP_l := n_bP.lt
  simp only [numV]
  go_wp2_with fail
  clear n_aP_0 n_aP_1 n_aP_l n_bP_0 n_bP_1 n_bP_l
  have l_1 := numAt_new w' x1 y1 23
  replace n_aP := n_aP.alloc (.cells #[.int .i64 x1, .int .i64 y1] 23)
  replace n_bP := n_bP.alloc (.cells #[.int .i64 x1, .int .i64 y1] 23)
  replace hB := hB.alloc hB.size (.cells #[.int .i64 x1, .int .i64 y1] 23)
  generalize World.alloc w' (.cells #[.int .i64 x1, .int .i64 y1] 23) = W at n_aP n_bP l_1 hB ⊢
  generalize w'.heap.size = b_1 at l_1 ⊢
  clear w'
  refine (C2.out _).mono ?_; rintro e w' ⟨rfl, hb1⟩
  replace hB := hB.trans (hb1.mono hB.size)
  replace n_aP := n_aP.below hb1
  replace n_bP := n_bP.below hb1
  replace l_1 := l_1.below hb1
  clear hb1
  have n_aP_0 := n_aP.c0
  have n_aP_1 := n_aP.c1
  have n_aP_l := n_aP.lt
  have n_bP_0 := n_bP.c0
  have n_bP_1 := n_bP.c1
  have n_bP_l := n_bP.lt
  simp only [numV]
  go_wp2_with fail
  clear n_aP_0 n_aP_1 n_aP_l n_bP_0 n_bP_1 n_bP_l
  have l_2 := numAt_new w' x1 y1 23
  replace n_aP := n_aP.alloc (.cells #[.int .i64 x1, .int .i64 y1] 23)
  replace n_bP := n_bP.alloc (.cells #[.int .i64 x1, .int .i64 y1] 23)
  replace l_1 := l_1.alloc (.cells #[.int .i64 x1, .int .i64 y1] 23)
  replace hB := hB.alloc hB.size (.cells #[.int .i64 x1, .int .i64 y1] 23)
  generalize World.alloc w' (.cells #[.int .i64 x1, .int .i64 y1] 23) = W at n_aP n_bP l_1 l_2 hB ⊢
  generalize w'.heap.size = b_2 at l_2 ⊢
  clear w'
  refine (C3.out _).mono ?_; rintro e w' ⟨rfl, hb1⟩
  replace hB := hB.trans (hb1.mono hB.size)
  replace n_aP := n_aP.below hb1
  replace n_bP := n_bP.below hb1
  replace l_1 := l_1.below hb1
  replace l_2 := l_2.below hb1
  clear hb1
  have n_aP_0 := n_aP.c0
  have n_aP_1 := n_aP.c1
  have n_aP_l := n_aP.lt
  have n_bP_0 := n_bP.c0
  have n_bP_1 := n_bP.c1
  have n_bP_l := n_bP.lt
  simp only [numV]
  go_wp2_with fail
  clear n_aP_0 n_aP_1 n_aP_l n_bP_0 n_bP_1 n_bP_l
  have l_3 := numAt_new w' x2 y2 23
  replace n_aP := n_aP.alloc (.cells #[.int .i64 x2, .int .i64 y2] 23)
  replace n_bP := n_bP.alloc (.cells #[.int .i64 x2, .int .i64 y2] 23)
  replace l_1 := l_1.alloc (.cells #[.int .i64 x2, .int .i64 y2] 23)
  replace l_2 := l_2.alloc (.cells #[.int .i64 x2, .int .i64 y2] 23)
  replace hB := hB.alloc hB.size (.cells #[.int .i64 x2, .int .i64 y2] 23)
  generalize World.alloc w' (.cells #[.int .i64 x2, .int .i64 y2] 23) = W at n_aP n_bP l_1 l_2 l_3 hB ⊢
  generalize w'.heap.size = b_3 at l_3 ⊢
  clear w'
  refine (C4.out _).mono ?_; rintro e w' ⟨rfl, hb1⟩
  replace hB := hB.trans (hb1.mono hB.size)
  replace n_aP := n_aP.below hb1
  replace n_bP := n_bP.below hb1
  replace l_1 := l_1.below hb1
  replace l_2 := l_2.below hb1
  replace l_3 := l_3.below hb1
  clear hb1
  have n_aP_0 := n_aP.c0
  have n_aP_1 := n_aP.c1
  have n_aP_l := n_aP.lt
  have n_bP_0 := n_bP.c0
  have n_bP_1 := n_bP.c1
  have n_bP_l := n_bP.lt
  have l_1_0 := l_1.c0
  have l_1_1 := l_1.c1
  have l_1_l := l_1.lt
  have l_2_0 := l_2.c0
  have l_2_1 := l_2.c1
  have l_2_l := l_2.lt
  have l_3_0 := l_3.c0
  have l_3_1 := l_3.c1
  have l_3_l := l_3.lt
  simp only [numV]
  go_wp2_with fail
  clear n_aP_0 n_aP_1 n_aP_l n_bP_0 n_bP_1 n_bP_l l_1_0 l_1_1 l_1_l l_2_0 l_2_1 l_2_l l_3_0 l_3_1 l_3_l
  replace hB := hB.alloc hB.size (.cells #[.int .i64 x2, .int .i64 y2] 23)
  refine (awake_any _ (HE.out.below hB)).mono ?_; rintro e w'' ⟨rfl, hb1⟩
  replace hB := hB.trans (hb1.mono hB.size)
  clear hb1
  go_wp2_with fail
  go_ret
  exact ⟨rfl, hB⟩

theorem numPowers_walk (aP aQ bP bQ n : Int) (w : World) (he : Env w) (h1 : -9223372036854775808 ≤ aP) (h2 : aP ≤ 9223372036854775807) (h3 : -9223372036854775808 ≤ aQ) (h4 : aQ ≤ 9223372036854775807) (k1 : -9223372036854775808 ≤ bP) (k2 : bP ≤ 9223372036854775807) (k3 : -9223372036854775808 ≤ bQ) (k4 : bQ ≤ 9223372036854775807) (n1 : -9223372036854775808 ≤ n) (n2 : n ≤ 9223372036854775807) :
    Calls Tryd.prog 6 #[.agg #[.int .i64 aP, .int .i64 aQ], .agg #[.int .i64 bP, .int .i64 bQ], .int .i64 n] w fun e w' => e = .returned (.bool true) ∧ Below w.heap.size w w' :=
  numPowers_core aP aQ bP bQ n _ _ _ _ _ _ w he
    (fun w => mod2_any aP aQ bP bQ w h1 h2 h3 h4 k1 k2 k3 k4) (fun w => rmod2_any aP aQ bP bQ w h1 h2 h3 h4 k1 k2 k3 k4) (fun w => power_any aP aQ n w h1 h2 h3 h4) (fun w => rpower_any aP aQ n w h1 h2 h3 h4)
end Go.Proofs.YtmcpbnkmccngpaaDoor
