/-
  The walk of NumFloors: its calls, one after the other, and what it compares.
-/
-- LAW 01
import Derived.Test.YtmcpbnkmccngpaaDoorRFix
namespace Go.Proofs.YtmcpbnkmccngpaaDoor
open Go.RowKit

set_option maxRecDepth 100000 in
set_option maxHeartbeats 4000000 in
theorem numFloors_core (aP aQ bP bQ n x1 e1 x2 e2 x3 e3 x4 y4 e4 : Int) (w : World) (he : Env w)
    (c1 : ∀ w, Calls Tryd.prog 32 #[.agg #[.int .i64 aP, .int .i64 aQ]] w fun e w' => e = .returned (.tuple #[.int .i64 x1, .int .i64 e1]) ∧ Below w.heap.size w w')
    (c2 : ∀ w, Calls Tryd.prog 33 #[.agg #[.int .i64 aP, .int .i64 aQ]] w fun e w' => e = .returned (.tuple #[.int .i64 x1, .int .i64 e1]) ∧ Below w.heap.size w w')
    (c3 : ∀ w, Calls Tryd.prog 34 #[.agg #[.int .i64 aP, .int .i64 aQ], .agg #[.int .i64 bP, .int .i64 bQ]] w fun e w' => e = .returned (.tuple #[.int .i64 x2, .int .i64 e2]) ∧ Below w.heap.size w w')
    (c4 : ∀ w, Calls Tryd.prog 35 #[.agg #[.int .i64 aP, .int .i64 aQ], .agg #[.int .i64 bP, .int .i64 bQ]] w fun e w' => e = .returned (.tuple #[.int .i64 x2, .int .i64 e2]) ∧ Below w.heap.size w w')
    (c5 : ∀ w, Calls Tryd.prog 36 #[.agg #[.int .i64 aP, .int .i64 aQ]] w fun e w' => e = .returned (.tuple #[.int .i64 x3, .int .i64 e3]) ∧ Below w.heap.size w w')
    (c6 : ∀ w, Calls Tryd.prog 37 #[.agg #[.int .i64 aP, .int .i64 aQ]] w fun e w' => e = .returned (.tuple #[.int .i64 x3, .int .i64 e3]) ∧ Below w.heap.size w w')
    (c7 : ∀ w, Calls Tryd.prog 38 #[.int .i64 n] w fun e w' => e = .returned (numV x4 y4 e4) ∧ Below w.heap.size w w')
    (c8 : ∀ w, Calls Tryd.prog 39 #[.int .i64 n] w fun e w' => e = .returned (numV x4 y4 e4) ∧ Below w.heap.size w w') :
    Calls Tryd.prog 7 #[.agg #[.int .i64 aP, .int .i64 aQ], .agg #[.int .i64 bP, .int .i64 bQ], .int .i64 n] w fun e w' => e = .returned (.bool true) ∧ Below w.heap.size w w' := by
  have HE := Lib.hid he
  have C1 := Lib.hid c1
  have C2 := Lib.hid c2
  have C3 := Lib.hid c3
  have C4 := Lib.hid c4
  have C5 := Lib.hid c5
  have C6 := Lib.hid c6
  have C7 := Lib.hid c7
  have C8 := Lib.hid c8
  clear he c1 c2 c3 c4 c5 c6 c7 c8
  go_enter Tryd.func7, Tryd.ntmps7
  go_wp2_with fail
  have hB := Below.refl w.heap.size w
  have n_aP := numAt_new (w) aP aQ 23
  replace hB := hB.alloc hB.size (.cells #[.int .i64 aP, .int .i64 aQ] 23)
  have n_bP := numAt_new (World.alloc (w) (.cells #[.int .i64 aP, .int .i64 aQ] 23)) bP bQ 23
  rw [show (World.alloc (w) (.cells #[.int .i64 aP, .int .i64 aQ] 23)).heap.size = w.heap.size + 1 by simp] at n_bP
  replace n_aP := n_aP.alloc (.cells #[.int .i64 bP, .int .i64 bQ] 23)
  replace hB := hB.alloc hB.size (.cells #[.int .i64 bP, .int .i64 bQ] 23)
  generalize World.alloc (World.alloc (w) (.cells #[.int .i64 aP, .int .i64 aQ] 23)) (.cells #[.int .i64 bP, .int .i64 bQ] 23) = W at n_aP n_bP hB ⊢
  refine (C1.out _).mono ?_; rintro e w' ⟨rfl, hb1⟩
  replace hB := hB.trans (hb1.mono hB.size)
  replace n_aP := n_aP.below hb1
  replace n_bP := n_bP.below hb1
  clear hb1
  have n_aP_0 := n_aP.c0
  have n_aP_1 := n_aP.c1
  have n_aP_l := n_aP.lt
  have n_bP_0 := n_bP.c0
  have n_bP_1 := n_bP.c1
  have n_bP_l := n_bP.lt
  go_wp2_with fail
  clear n_aP_0 n_aP_1 n_aP_l n_bP_0 n_bP_1 n_bP_l
  refine (C2.out _).mono ?_; rintro e w' ⟨rfl, hb1⟩
  replace hB := hB.trans (hb1.mono hB.size)
  replace n_aP := n_aP.below hb1
  replace n_bP := n_bP.below hb1
  clear hb1
  have n_aP_0 := n_aP.c0
  have n_aP_1 := n_aP.c1
  have n_aP_l := n_aP.lt
  have n_bP_0 := n_bP.c0
  have n_bP_1 := n_bP.c1
  have n_bP_l := n_bP.lt
  go_wp2_with fail
  clear n_aP_0 n_aP_1 n_aP_l n_bP_0 n_bP_1 n_bP_l
  refine (C3.out _).mono ?_; rintro e w' ⟨rfl, hb1⟩
  replace hB := hB.trans (hb1.mono hB.size)
  replace n_aP := n_aP.below hb1
  replace n_bP := n_bP.below hb1
  clear hb1
  have n_aP_0 := n_aP.c0
  have n_aP_1 := n_aP.c1
  have n_aP_l := n_aP.lt
  have n_bP_0 := n_bP.c0
  have n_bP_1 := n_bP.c1
  have n_bP_l := n_bP.lt
  go_wp2_with fail
  clear n_aP_0 n_aP_1 n_aP_l n_bP_0 n_bP_1 n_bP_l
  refine (C4.out _).mono ?_; rintro e w' ⟨rfl, hb1⟩
  replace hB := hB.trans (hb1.mono hB.size)
  replace n_aP := n_aP.below hb1
  replace n_bP := n_bP.below hb1
  clear hb1
  have n_aP_0 := n_aP.c0
  have n_aP_1 := n_aP.c1
  have n_aP_l := n_aP.lt
  have n_bP_0 := n_bP.c0
  have n_bP_1 := n_bP.c1
  have n_bP_l := n_bP.lt
  go_wp2_with fail
  clear n_aP_0 n_aP_1 n_aP_l n_bP_0 n_bP_1 n_bP_l
  refine (C5.out _).mono ?_; rintro e w' ⟨rfl, hb1⟩
  replace hB := hB.trans (hb1.mono hB.size)
  replace n_aP := n_aP.below hb1
  replace n_bP := n_bP.below hb1
  clear hb1
  have n_aP_0 := n_aP.c0
  have n_aP_1 := n_aP.c1
  have n_aP_l := n_aP.lt
  have n_bP_0 := n_bP.c0
  have n_bP_1 := n_bP.c1
  have n_bP_l := n_bP.lt
  go_wp2_with fail
  clear n_aP_0 n_aP_1 n_aP_l n_bP_0 n_bP_1 n_bP_l
  refine (C6.out _).mono ?_; rintro e w' ⟨rfl, hb1⟩
  replace hB := hB.trans (hb1.mono hB.size)
  replace n_aP := n_aP.below hb1
  replace n_bP := n_bP.below hb1
  clear hb1
  have n_aP_0 := n_aP.c0
  have n_aP_1 := n_aP.c1
  have n_aP_l := n_aP.lt
  have n_bP_0 := n_bP.c0
  have n_bP_1 := n_bP.c1
  have n_bP_l := n_bP.lt
  go_wp2_with fail
  clear n_aP_0 n_aP_1 n_aP_l n_bP_0 n_bP_1 n_bP_l
  refine (C7.out _).mono ?_; rintro e w' ⟨rfl, hb1⟩
  replace hB := hB.trans (hb1.mono hB.size)
  replace n_aP := n_aP.below hb1
  replace n_bP := n_bP.below hb1
  clear hb1
  have n_aP_0 := n_aP.c0
  have n_aP_1 := n_aP.c1
  have n_aP_l := n_aP.lt
  have n_bP_0 := n_bP.c0
  have n_bP_1 := n_bP.c1
  have n_bP_l := n_bP.lt
  simp only [numV]
  go_wp2_with fail
  clear n_aP_0 n_aP_1 n_aP_l n_bP_0 n_bP_1 n_bP_l
  have l_7 := numAt_new w' x4 y4 23
  replace n_aP := n_aP.alloc (.cells #[.int .i64 x4, .int .i64 y4] 23)
  replace n_bP := n_bP.alloc (.cells #[.int .i64 x4, .int .i64 y4] 23)
  replace hB := hB.alloc hB.size (.cells #[.int .i64 x4, .int .i64 y4] 23)
  generalize World.alloc w' (.cells #[.int .i64 x4, .int .i64 y4] 23) = W at n_aP n_bP l_7 hB ⊢
  generalize w'.heap.size = b_7 at l_7 ⊢
  clear w'
  refine (C8.out _).mono ?_; rintro e w' ⟨rfl, hb1⟩
  replace hB := hB.trans (hb1.mono hB.size)
  replace n_aP := n_aP.below hb1
  replace n_bP := n_bP.below hb1
  replace l_7 := l_7.below hb1
  clear hb1
  have n_aP_0 := n_aP.c0
  have n_aP_1 := n_aP.c1
  have n_aP_l := n_aP.lt
  have n_bP_0 := n_bP.c0
  have n_bP_1 := n_bP.c1
  have n_bP_l := n_bP.lt
  have l_7_0 := l_7.c0
  have l_7_1 := l_7.c1
  have l_7_l := l_7.lt
  simp only [numV]
  go_wp2_with fail
  clear n_aP_0 n_aP_1 n_aP_l n_bP_0 n_bP_1 n_bP_l l_7_0 l_7_1 l_7_l
  replace hB := hB.alloc hB.size (.cells #[.int .i64 x4, .int .i64 y4] 23)
  refine (awake_any _ (HE.out.below hB)).mono ?_; rintro e w'' ⟨rfl, hb1⟩
  replace hB := hB.trans (hb1.mono hB.size)
  clear hb1
  go_wp2_with fail
  go_ret
  exact ⟨rfl, hB⟩

theorem numFloors_walk (aP aQ bP bQ n : Int) (w : World) (he : Env w) (h1 : -9223372036854775808 ≤ aP) (h2 : aP ≤ 9223372036854775807) (h3 : -9223372036854775808 ≤ aQ) (h4 : aQ ≤ 9223372036854775807) (k1 : -9223372036854775808 ≤ bP) (k2 : bP ≤ 9223372036854775807) (k3 : -9223372036854775808 ≤ bQ) (k4 : bQ ≤ 9223372036854775807) (n1 : -9223372036854775808 ≤ n) (n2 : n ≤ 9223372036854775807) :
    Calls Tryd.prog 7 #[.agg #[.int .i64 aP, .int .i64 aQ], .agg #[.int .i64 bP, .int .i64 bQ], .int .i64 n] w fun e w' => e = .returned (.bool true) ∧ Below w.heap.size w w' :=
  numFloors_core aP aQ bP bQ n _ _ _ _ _ _ _ _ _ w he
    (fun w => floor_any aP aQ w h1 h2 h3 h4) (fun w => rfloor_any aP aQ w h1 h2 h3 h4) (fun w => cmp2_any aP aQ bP bQ w h1 h2 h3 h4 k1 k2 k3 k4) (fun w => rcmp2_any aP aQ bP bQ w h1 h2 h3 h4 k1 k2 k3 k4)
    (fun w => fixed_any aP aQ w h1 h2 h3 h4) (fun w => rfixed_any aP aQ w h1 h2 h3 h4) (fun w => fromFixed_any n w n1 n2) (fun w => rfromFixed_any n w n1 n2)
end Go.Proofs.YtmcpbnkmccngpaaDoor
