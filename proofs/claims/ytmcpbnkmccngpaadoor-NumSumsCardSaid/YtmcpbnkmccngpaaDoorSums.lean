/-
  The walk of NumSums: its calls, one after the other, and what it compares.
-/
-- LAW 01
import Derived.Test.YtmcpbnkmccngpaaDoorAwake
namespace Go.Proofs.YtmcpbnkmccngpaaDoor
open Go.RowKit

set_option maxRecDepth 100000 in
set_option maxHeartbeats 4000000 in
theorem numSums_core (aP aQ bP bQ x1 y1 e1 x2 y2 e2 x3 y3 e3 x4 y4 e4 : Int) (w : World) (he : Env w)
    (c1 : ∀ w, Calls Tryd.prog 18 #[.agg #[.int .i64 aP, .int .i64 aQ], .agg #[.int .i64 bP, .int .i64 bQ]] w fun e w' => e = .returned (numV x1 y1 e1) ∧ Below w.heap.size w w')
    (c2 : ∀ w, Calls Tryd.prog 19 #[.agg #[.int .i64 aP, .int .i64 aQ], .agg #[.int .i64 bP, .int .i64 bQ]] w fun e w' => e = .returned (numV x1 y1 e1) ∧ Below w.heap.size w w')
    (c3 : ∀ w, Calls Tryd.prog 20 #[.agg #[.int .i64 aP, .int .i64 aQ], .agg #[.int .i64 bP, .int .i64 bQ]] w fun e w' => e = .returned (numV x2 y2 e2) ∧ Below w.heap.size w w')
    (c4 : ∀ w, Calls Tryd.prog 21 #[.agg #[.int .i64 aP, .int .i64 aQ], .agg #[.int .i64 bP, .int .i64 bQ]] w fun e w' => e = .returned (numV x2 y2 e2) ∧ Below w.heap.size w w')
    (c5 : ∀ w, Calls Tryd.prog 22 #[.agg #[.int .i64 aP, .int .i64 aQ], .agg #[.int .i64 bP, .int .i64 bQ]] w fun e w' => e = .returned (numV x3 y3 e3) ∧ Below w.heap.size w w')
    (c6 : ∀ w, Calls Tryd.prog 23 #[.agg #[.int .i64 aP, .int .i64 aQ], .agg #[.int .i64 bP, .int .i64 bQ]] w fun e w' => e = .returned (numV x3 y3 e3) ∧ Below w.heap.size w w')
    (c7 : ∀ w, Calls Tryd.prog 24 #[.agg #[.int .i64 aP, .int .i64 aQ], .agg #[.int .i64 bP, .int .i64 bQ]] w fun e w' => e = .returned (numV x4 y4 e4) ∧ Below w.heap.size w w')
    (c8 : ∀ w, Calls Tryd.prog 25 #[.agg #[.int .i64 aP, .int .i64 aQ], .agg #[.int .i64 bP, .int .i64 bQ]] w fun e w' => e = .returned (numV x4 y4 e4) ∧ Below w.heap.size w w') :
    Calls Tryd.prog 4 #[.agg #[.int .i64 aP, .int .i64 aQ], .agg #[.int .i64 bP, .int .i64 bQ]] w fun e w' => e = .returned (.bool true) ∧ Below w.heap.size w w' := by
  have HE := Lib.hid he
  have C1 := Lib.hid c1
  have C2 := Lib.hid c2
  have C3 := Lib.hid c3
  have C4 := Lib.hid c4
  have C5 := Lib.hid c5
  have C6 := Lib.hid c6
  have C7 := Lib.hid c7
  have C8 := Lib.hid c8
  clear he c1 c2 c3 c4 c5 c6 c7 c8
  go_enter Tryd.func4, Tryd.ntmps4
  go_wp2_with fail
  have hB := Below.refl w.heap.size w
  have n_aP := numAt_new (w) aP aQ 23
  replace hB := hB.alloc hB.size (.cells #[.int .i64 aP, .int .i64 aQ] 23)
  have n_bP := numAt_new (World.alloc (w) (.cells #[.int .i64 aP, .int .i64 aQ] 23)) bP bQ 23
  rw [show (World.alloc (w) (.cells #[.int .i64 aP, .int .i64 aQ] 23)).heap.size = w.heap.size + 1 by simp] at n_bP
  replace n_aP := n_aP.alloc (.cells #[.int .i64 bP, .int .i64 bQ] 23)
  replace hB := hB.alloc hB.size (.cells #[.int .i64 bP, .int .i64 bQ] 23)
  generalize World.alloc (World.alloc (w) (.cells #[.int .i64 aP, .int .i64 aQ] 23)) (.cells #[.int .i64 bP, .int .i64 bQ] 23) = W at n_aP n_bP hB ⊢
  refine (C1.out _).mono ?_; rintro e w' ⟨rfl, hb1⟩
  replace hB := hB.trans (hb1.mono hB.size)
  replace n_aP := n_aP.below hb1
  replace n_bP := n_bP.below hb1
  clear hb1
  have n_aP_0 := n_aP.c0
  have n_aP_1 := n_aP.c1
  have n_aP_l := n_aP.lt
  have n_bP_0 := n_bP.c0
  have n_bP_1 := n_bP.c1
  have n_bP_l := n_bP.lt
  simp only [numV]
  go_wp2_with fail
  clear n_aP_0 n_aP_1 n_aP_l n_bP_0 n_bP_1 n_bP_l
  have l_1 := numAt_new w' x1 y1 23
  replace n_aP := n_aP.alloc (.cells #[.int .i64 x1, .int .i64 y1] 23)
  replace n_bP := n_bP.alloc (.cells #[.int .i64 x1, .int .i64 y1] 23)
  replace hB := hB.alloc hB.size (.cells #[.int .i64 x1, .int .i64 y1] 23)
  generalize World.alloc w' (.cells #[.int .i64 x1, .int .i64 y1] 23) = W at n_aP n_bP l_1 hB ⊢
  generalize w'.heap.size = b_1 at l_1 ⊢
  clear w'
  refine (C2.out _).mono ?_; rintro e w' ⟨rfl, hb1⟩
  replace hB := hB.trans (hb1.mono hB.size)
  replace n_aP := n_aP.below hb1
  replace n_bP := n_bP.below hb1
  replace l_1 := l_1.below hb1
  clear hb1
  have n_aP_0 := n_aP.c0
  have n_aP_1 := n_aP.c1
  have n_aP_l := n_aP.lt
  have n_bP_0 := n_bP.c0
  have n_bP_1 := n_bP.c1
  have n_bP_l := n_bP.lt
  simp only [numV]
  go_wp2_with fail
  clear n_aP_0 n_aP_1 n_aP_l n_bP_0 n_bP_1 n_bP_l
  have l_2 := numAt_new w' x1 y1 23
  replace n_aP := n_aP.alloc (.cells #[.int .i64 x1, .int .i64 y1] 23)
  replace n_bP := n_bP.alloc (.cells #[.int .i64 x1, .int .i64 y1] 23)
  replace l_1 := l_1.alloc (.cells #[.int .i64 x1, .int .i64 y1] 23)
  replace hB := hB.alloc hB.size (.cells #[.int .i64 x1, .int .i64 y1] 23)
  generalize World.alloc w' (.cells #[.int .i64 x1, .int .i64 y1] 23) = W at n_aP n_bP l_1 l_2 hB ⊢
  generalize w'.heap.size = b_2 at l_2 ⊢
  clear w'
  refine (C3.out _).mono ?_; rintro e w' ⟨rfl, hb1⟩
  replace hB := hB.trans (hb1.mono hB.size)
  replace n_aP := n_aP.below hb1
  replace n_bP := n_bP.below hb1
  replace l_1 := l_1.below hb1
  replace l_2 := l_2.below hb1
  clear hb1
  have n_aP_0 := n_aP.c0
  have n_aP_1 := n_aP.c1
  have n_aP_l := n_aP.lt
  have n_bP_0 := n_bP.c0
  have n_bP_1 := n_bP.c1
  have n_bP_l := n_bP.lt
  simp only [numV]
  go_wp2_with fail
  clear n_aP_0 n_aP_1 n_aP_l n_bP_0 n_bP_1 n_bP_l
  have l_3 := numAt_new w' x2 y2 23
  replace n_aP := n_aP.alloc (.cells #[.int .i64 x2, .int .i64 y2] 23)
  replace n_bP := n_bP.alloc (.cells #[.int .i64 x2, .int .i64 y2] 23)
  replace l_1 := l_1.alloc (.cells #[.int .i64 x2, .int .i64 y2] 23)
  replace l_2 := l_2.alloc (.cells #[.int .i64 x2, .int .i64 y2] 23)
  replace hB := hB.alloc hB.size (.cells #[.int .i64 x2, .int .i64 y2] 23)
  generalize World.alloc w' (.cells #[.int .i64 x2, .int .i64 y2] 23) = W at n_aP n_bP l_1 l_2 l_3 hB ⊢
  generalize w'.heap.size = b_3 at l_3 ⊢
  clear w'
  refine (C4.out _).mono ?_; rintro e w' ⟨rfl, hb1⟩
  replace hB := hB.trans (hb1.mono hB.size)
  replace n_aP := n_aP.below hb1
  replace n_bP := n_bP.below hb1
  replace l_1 := l_1.below hb1
  replace l_2 := l_2.below hb1
  replace l_3 := l_3.below hb1
  clear hb1
  have n_aP_0 := n_aP.c0
  have n_aP_1 := n_aP.c1
  have n_aP_l := n_aP.lt
  have n_bP_0 := n_bP.c0
  have n_bP_1 := n_bP.c1
  have n_bP_l := n_bP.lt
  simp only [numV]
  go_wp2_with fail
  clear n_aP_0 n_aP_1 n_aP_l n_bP_0 n_bP_1 n_bP_l
  have l_4 := numAt_new w' x2 y2 23
  replace n_aP := n_aP.alloc (.cells #[.int .i64 x2, .int .i64 y2] 23)
  replace n_bP := n_bP.alloc (.cells #[.int .i64 x2, .int .i64 y2] 23)
  replace l_1 := l_1.alloc (.cells #[.int .i64 x2, .int .i64 y2] 23)
  replace l_2 := l_2.alloc (.cells #[.int .i64 x2, .int .i64 y2] 23)
  replace l_3 := l_3.alloc (.cells #[.int .i64 x2, .int .i64 y2] 23)
  replace hB := hB.alloc hB.size (.cells #[.int .i64 x2, .int .i64 y2] 23)
  generalize World.alloc w' (.cells #[.int .i64 x2, .int .i64 y2] 23) = W at n_aP n_bP l_1 l_2 l_3 l_4 hB ⊢
  generalize w'.heap.size = b_4 at l_4 ⊢
  clear w'
  refine (C5.out _).mono ?_; rintro e w' ⟨rfl, hb1⟩
  replace hB := hB.trans (hb1.mono hB.size)
  replace n_aP := n_aP.below hb1
  replace n_bP := n_bP.below hb1
  replace l_1 := l_1.below hb1
  replace l_2 := l_2.below hb1
  replace l_3 := l_3.below hb1
  replace l_4 := l_4.below hb1
  clear hb1
  have n_aP_0 := n_aP.c0
  have n_aP_1 := n_aP.c1
  have n_aP_l := n_aP.lt
  have n_bP_0 := n_bP.c0
  have n_bP_1 := n_bP.c1
  have n_bP_l := n_bP.lt
  simp only [numV]
  go_wp2_with fail
  clear n_aP_0 n_aP_1 n_aP_l n_bP_0 n_bP_1 n_bP_l
  have l_5 := numAt_new w' x3 y3 23
  replace n_aP := n_aP.alloc (.cells #[.int .i64 x3, .int .i64 y3] 23)
  replace n_bP := n_bP.alloc (.cells #[.int .i64 x3, .int .i64 y3] 23)
  replace l_1 := l_1.alloc (.cells #[.int .i64 x3, .int .i64 y3] 23)
  replace l_2 := l_2.alloc (.cells #[.int .i64 x3, .int .i64 y3] 23)
  replace l_3 := l_3.alloc (.cells #[.int .i64 x3, .int .i64 y3] 23)
  replace l_4 := l_4.alloc (.cells #[.int .i64 x3, .int .i64 y3] 23)
  replace hB := hB.alloc hB.size (.cells #[.int .i64 x3, .int .i64 y3] 23)
  generalize World.alloc w' (.cells #[.int .i64 x3, .int .i64 y3] 23) = W at n_aP n_bP l_1 l_2 l_3 l_4 l_5 hB ⊢
  generalize w'.heap.size = b_5 at l_5 ⊢
  clear w'
  refine (C6.out _).mono ?_; rintro e w' ⟨rfl, hb1⟩
  replace hB := hB.trans (hb1.mono hB.size)
  replace n_aP := n_aP.below hb1
  replace n_bP := n_bP.below hb1
  replace l_1 := l_1.below hb1
  replace l_2 := l_2.below hb1
  replace l_3 := l_3.below hb1
  replace l_4 := l_4.below hb1
  replace l_5 := l_5.below hb1
  clear hb1
  have n_aP_0 := n_aP.c0
  have n_aP_1 := n_aP.c1
  have n_aP_l := n_aP.lt
  have n_bP_0 := n_bP.c0
  have n_bP_1 := n_bP.c1
  have n_bP_l := n_bP.lt
  simp only [numV]
  go_wp2_with fail
  clear n_aP_0 n_aP_1 n_aP_l n_bP_0 n_bP_1 n_bP_l
  have l_6 := numAt_new w' x3 y3 23
  replace n_aP := n_aP.alloc (.cells #[.int .i64 x3, .int .i64 y3] 23)
  replace n_bP := n_bP.alloc (.cells #[.int .i64 x3, .int .i64 y3] 23)
  replace l_1 := l_1.alloc (.cells #[.int .i64 x3, .int .i64 y3] 23)
  replace l_2 := l_2.alloc (.cells #[.int .i64 x3, .int .i64 y3] 23)
  replace l_3 := l_3.alloc (.cells #[.int .i64 x3, .int .i64 y3] 23)
  replace l_4 := l_4.alloc (.cells #[.int .i64 x3, .int .i64 y3] 23)
  replace l_5 := l_5.alloc (.cells #[.int .i64 x3, .int .i64 y3] 23)
  replace hB := hB.alloc hB.size (.cells #[.int .i64 x3, .int .i64 y3] 23)
  generalize World.alloc w' (.cells #[.int .i64 x3, .int .i64 y3] 23) = W at n_aP n_bP l_1 l_2 l_3 l_4 l_5 l_6 hB ⊢
  generalize w'.heap.size = b_6 at l_6 ⊢
  clear w'
  refine (C7.out _).mono ?_; rintro e w' ⟨rfl, hb1⟩
  replace hB := hB.trans (hb1.mono hB.size)
  replace n_aP := n_aP.below hb1
  replace n_bP := n_bP.below hb1
  replace l_1 := l_1.below hb1
  replace l_2 := l_2.below hb1
  replace l_3 := l_3.below hb1
  replace l_4 := l_4.below hb1
  replace l_5 := l_5.below hb1
  replace l_6 := l_6.below hb1
  clear hb1
  have n_aP_0 := n_aP.c0
  have n_aP_1 := n_aP.c1
  have n_aP_l := n_aP.lt
  have n_bP_0 := n_bP.c0
  have n_bP_1 := n_bP.c1
  have n_bP_l := n_bP.lt
  simp only [numV]
  go_wp2_with fail
  clear n_aP_0 n_aP_1 n_aP_l n_bP_0 n_bP_1 n_bP_l
  have l_7 := numAt_new w' x4 y4 23
  replace n_aP := n_aP.alloc (.cells #[.int .i64 x4, .int .i64 y4] 23)
  replace n_bP := n_bP.alloc (.cells #[.int .i64 x4, .int .i64 y4] 23)
  replace l_1 := l_1.alloc (.cells #[.int .i64 x4, .int .i64 y4] 23)
  replace l_2 := l_2.alloc (.cells #[.int .i64 x4, .int .i64 y4] 23)
  replace l_3 := l_3.alloc (.cells #[.int .i64 x4, .int .i64 y4] 23)
  replace l_4 := l_4.alloc (.cells #[.int .i64 x4, .int .i64 y4] 23)
  replace l_5 := l_5.alloc (.cells #[.int .i64 x4, .int .i64 y4] 23)
  replace l_6 := l_6.alloc (.cells #[.int .i64 x4, .int .i64 y4] 23)
  replace hB := hB.alloc hB.size (.cells #[.int .i64 x4, .int .i64 y4] 23)
  generalize World.alloc w' (.cells #[.int .i64 x4, .int .i64 y4] 23) = W at n_aP n_bP l_1 l_2 l_3 l_4 l_5 l_6 l_7 hB ⊢
  generalize w'.heap.size = b_7 at l_7 ⊢
  clear w'
  refine (C8.out _).mono ?_; rintro e w' ⟨rfl, hb1⟩
  replace hB := hB.trans (hb1.mono hB.size)
  replace n_aP := n_aP.below hb1
  replace n_bP := n_bP.below hb1
  replace l_1 := l_1.below hb1
  replace l_2 := l_2.below hb1
  replace l_3 := l_3.below hb1
  replace l_4 := l_4.below hb1
  replace l_5 := l_5.below hb1
  replace l_6 := l_6.below hb1
  replace l_7 := l_7.below hb1
  clear hb1
  have n_aP_0 := n_aP.c0
  have n_aP_1 := n_aP.c1
  have n_aP_l := n_aP.lt
  have n_bP_0 := n_bP.c0
  have n_bP_1 := n_bP.c1
  have n_bP_l := n_bP.lt
  have l_1_0 := l_1.c0
  have l_1_1 := l_1.c1
  have l_1_l := l_1.lt
  have l_2_0 := l_2.c0
  have l_2_1 := l_2.c1
  have l_2_l := l_2.lt
  have l_3_0 := l_3.c0
  have l_3_1 := l_3.c1
  have l_3_l := l_3.lt
  have l_4_0 := l_4.c0
  have l_4_1 := l_4.c1
  have l_4_l := l_4.lt
  have l_5_0 := l_5.c0
  have l_5_1 := l_5.c1
  have l_5_l := l_5.lt
  have l_6_0 := l_6.c0
  have l_6_1 := l_6.c1
  have l_6_l := l_6.lt
  have l_7_0 := l_7.c0
  have l_7_1 := l_7.c1
  have l_7_l := l_7.lt
  simp only [numV]
  go_wp2_with fail
  clear n_aP_0 n_aP_1 n_aP_l n_bP_0 n_bP_1 n_bP_l l_1_0 l_1_1 l_1_l l_2_0 l_2_1 l_2_l l_3_0 l_3_1 l_3_l l_4_0 l_4_1 l_4_l l_5_0 l_5_1 l_5_l l_6_0 l_6_1 l_6_l l_7_0 l_7_1 l_7_l
  replace hB := hB.alloc hB.size (.cells #[.int .i64 x4, .int .i64 y4] 23)
  refine (awake_any _ (HE.out.below hB)).mono ?_; rintro e w'' ⟨rfl, hb1⟩
  replace hB := hB.trans (hb1.mono hB.size)
  clear hb1
  go_wp2_with fail
  go_ret
  exact ⟨rfl, hB⟩

theorem numSums_walk (aP aQ bP bQ : Int) (w : World) (he : Env w) (h1 : -9223372036854775808 ≤ aP) (h2 : aP ≤ 9223372036854775807) (h3 : -9223372036854775808 ≤ aQ) (h4 : aQ ≤ 9223372036854775807) (k1 : -9223372036854775808 ≤ bP) (k2 : bP ≤ 9223372036854775807) (k3 : -9223372036854775808 ≤ bQ) (k4 : bQ ≤ 9223372036854775807) :
    Calls Tryd.prog 4 #[.agg #[.int .i64 aP, .int .i64 aQ], .agg #[.int .i64 bP, .int .i64 bQ]] w fun e w' => e = .returned (.bool true) ∧ Below w.heap.size w w' :=
  numSums_core aP aQ bP bQ _ _ _ _ _ _ _ _ _ _ _ _ w he
    (fun w => add_any aP aQ bP bQ w h1 h2 h3 h4 k1 k2 k3 k4) (fun w => radd_any aP aQ bP bQ w h1 h2 h3 h4 k1 k2 k3 k4) (fun w => sub_any aP aQ bP bQ w h1 h2 h3 h4 k1 k2 k3 k4) (fun w => rsub_any aP aQ bP bQ w h1 h2 h3 h4 k1 k2 k3 k4)
    (fun w => mul_any aP aQ bP bQ w h1 h2 h3 h4 k1 k2 k3 k4) (fun w => rmul_any aP aQ bP bQ w h1 h2 h3 h4 k1 k2 k3 k4) (fun w => div_any aP aQ bP bQ w h1 h2 h3 h4 k1 k2 k3 k4) (fun w => rdiv_any aP aQ bP bQ w h1 h2 h3 h4 k1 k2 k3 k4)
end Go.Proofs.YtmcpbnkmccngpaaDoor
