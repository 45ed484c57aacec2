/-
  The walk of NumOrder, at any three numbers.
-/
-- LAW 01
import Derived.Test.YtmcpbnkmccngpaaDoorOrder
import Derived.Test.YtmcpbnkmccngpaaDoorOrdMath
import Derived.Test.YtmcpbnkmccngpaaDoorMod2
namespace Go.Proofs.YtmcpbnkmccngpaaDoor
open Go.RowKit

set_option maxRecDepth 100000 in
set_option maxHeartbeats 1000000 in
theorem numOrder_i1 (aP aQ bP bQ cP cQ : Int) (w : World) (he : Env w)
    (v1 : ∀ w, Calls Tryd.prog 16 #[.agg #[.int .i64 aP, .int .i64 aQ]] w fun e w' => e = .returned (.bool false) ∧ Below w.heap.size w w') :
    Calls Tryd.prog 10 #[.agg #[.int .i64 aP, .int .i64 aQ], .agg #[.int .i64 bP, .int .i64 bQ], .agg #[.int .i64 cP, .int .i64 cQ]] w fun e w' => e = .returned (.bool true) ∧ Below w.heap.size w w' := by
  have HE := Lib.hid he
  have V1 := Lib.hid v1
  clear he v1
  go_enter Tryd.func10, Tryd.ntmps10
  go_wp2_with fail
  have h := abc_new w aP aQ bP bQ cP cQ
  generalize ((w.alloc (.cells #[.int .i64 aP, .int .i64 aQ] 23)).alloc (.cells #[.int .i64 bP, .int .i64 bQ] 23)).alloc (.cells #[.int .i64 cP, .int .i64 cQ] 23) = W at h ⊢
  refine (V1.out _).mono ?_; rintro e w' ⟨rfl, hb1⟩; replace h := h.below hb1; clear hb1
  go_wp2_with fail
  refine (awake_any _ (HE.out.below h.bel)).mono ?_; rintro e w3 ⟨rfl, hb1⟩
  replace h := h.below hb1
  clear hb1
  go_wp2_with fail
  go_ret
  exact ⟨rfl, h.bel⟩

set_option maxRecDepth 100000 in
set_option maxHeartbeats 1000000 in
theorem numOrder_i2 (aP aQ bP bQ cP cQ : Int) (w : World) (he : Env w)
    (v1 : ∀ w, Calls Tryd.prog 16 #[.agg #[.int .i64 aP, .int .i64 aQ]] w fun e w' => e = .returned (.bool true) ∧ Below w.heap.size w w')
    (v2 : ∀ w, Calls Tryd.prog 16 #[.agg #[.int .i64 bP, .int .i64 bQ]] w fun e w' => e = .returned (.bool false) ∧ Below w.heap.size w w') :
    Calls Tryd.prog 10 #[.agg #[.int .i64 aP, .int .i64 aQ], .agg #[.int .i64 bP, .int .i64 bQ], .agg #[.int .i64 cP, .int .i64 cQ]] w fun e w' => e = .returned (.bool true) ∧ Below w.heap.size w w' := by
  have HE := Lib.hid he
  have V1 := Lib.hid v1
  have V2 := Lib.hid v2
  clear he v1 v2
  go_enter Tryd.func10, Tryd.ntmps10
  go_wp2_with fail
  have h := abc_new w aP aQ bP bQ cP cQ
  generalize ((w.alloc (.cells #[.int .i64 aP, .int .i64 aQ] 23)).alloc (.cells #[.int .i64 bP, .int .i64 bQ] 23)).alloc (.cells #[.int .i64 cP, .int .i64 cQ] 23) = W at h ⊢
  refine (V1.out _).mono ?_; rintro e w' ⟨rfl, hb1⟩; replace h := h.below hb1; clear hb1
  have a0 := h.a.c0; have a1 := h.a.c1; have al := h.a.lt; have b0 := h.b.c0; have b1 := h.b.c1; have bl := h.b.lt; have c0 := h.c.c0; have c1 := h.c.c1; have cl := h.c.lt
  go_wp2_with fail
  clear a0 a1 al b0 b1 bl c0 c1 cl
  refine (V2.out _).mono ?_; rintro e w' ⟨rfl, hb1⟩; replace h := h.below hb1; clear hb1
  go_wp2_with fail
  refine (awake_any _ (HE.out.below h.bel)).mono ?_; rintro e w3 ⟨rfl, hb1⟩
  replace h := h.below hb1
  clear hb1
  go_wp2_with fail
  go_ret
  exact ⟨rfl, h.bel⟩

set_option maxRecDepth 100000 in
set_option maxHeartbeats 1000000 in
theorem numOrder_i3 (aP aQ bP bQ cP cQ : Int) (w : World) (he : Env w)
    (v1 : ∀ w, Calls Tryd.prog 16 #[.agg #[.int .i64 aP, .int .i64 aQ]] w fun e w' => e = .returned (.bool true) ∧ Below w.heap.size w w')
    (v2 : ∀ w, Calls Tryd.prog 16 #[.agg #[.int .i64 bP, .int .i64 bQ]] w fun e w' => e = .returned (.bool true) ∧ Below w.heap.size w w')
    (v3 : ∀ w, Calls Tryd.prog 16 #[.agg #[.int .i64 cP, .int .i64 cQ]] w fun e w' => e = .returned (.bool false) ∧ Below w.heap.size w w') :
    Calls Tryd.prog 10 #[.agg #[.int .i64 aP, .int .i64 aQ], .agg #[.int .i64 bP, .int .i64 bQ], .agg #[.int .i64 cP, .int .i64 cQ]] w fun e w' => e = .returned (.bool true) ∧ Below w.heap.size w w' := by
  have HE := Lib.hid he
  have V1 := Lib.hid v1
  have V2 := Lib.hid v2
  have V3 := Lib.hid v3
  clear he v1 v2 v3
  go_enter Tryd.func10, Tryd.ntmps10
  go_wp2_with fail
  have h := abc_new w aP aQ bP bQ cP cQ
  generalize ((w.alloc (.cells #[.int .i64 aP, .int .i64 aQ] 23)).alloc (.cells #[.int .i64 bP, .int .i64 bQ] 23)).alloc (.cells #[.int .i64 cP, .int .i64 cQ] 23) = W at h ⊢
  refine (V1.out _).mono ?_; rintro e w' ⟨rfl, hb1⟩; replace h := h.below hb1; clear hb1
  have a0 := h.a.c0; have a1 := h.a.c1; have al := h.a.lt; have b0 := h.b.c0; have b1 := h.b.c1; have bl := h.b.lt; have c0 := h.c.c0; have c1 := h.c.c1; have cl := h.c.lt
  go_wp2_with fail
  clear a0 a1 al b0 b1 bl c0 c1 cl
  refine (V2.out _).mono ?_; rintro e w' ⟨rfl, hb1⟩; replace h := h.below hb1; clear hb1
  have a0 := h.a.c0; have a1 := h.a.c1; have al := h.a.lt; have b0 := h.b.c0; have b1 := h.b.c1; have bl := h.b.lt; have c0 := h.c.c0; have c1 := h.c.c1; have cl := h.c.lt
  go_wp2_with fail
  clear a0 a1 al b0 b1 bl c0 c1 cl
  refine (V3.out _).mono ?_; rintro e w' ⟨rfl, hb1⟩; replace h := h.below hb1; clear hb1
  go_wp2_with fail
  refine (awake_any _ (HE.out.below h.bel)).mono ?_; rintro e w3 ⟨rfl, hb1⟩
  replace h := h.below hb1
  clear hb1
  go_wp2_with fail
  go_ret
  exact ⟨rfl, h.bel⟩


theorem cmp3_cm (x y : Int) : cmp3 x y = Nm.cm x y := rfl
theorem resE_true {p q : Int} (h : (Nm.resE true p q == 0) = true) : Nm.mkE p q = 0 := by simpa [Nm.resE] using h
theorem numOrder_walk (aP aQ bP bQ cP cQ : Int) (w : World) (he : Env w) (h1 : -9223372036854775808 ≤ aP) (h2 : aP ≤ 9223372036854775807) (h3 : -9223372036854775808 ≤ aQ) (h4 : aQ ≤ 9223372036854775807) (k1 : -9223372036854775808 ≤ bP) (k2 : bP ≤ 9223372036854775807) (k3 : -9223372036854775808 ≤ bQ) (k4 : bQ ≤ 9223372036854775807) (l1 : -9223372036854775808 ≤ cP) (l2 : cP ≤ 9223372036854775807) (l3 : -9223372036854775808 ≤ cQ) (l4 : cQ ≤ 9223372036854775807) :
    Calls Tryd.prog 10 #[.agg #[.int .i64 aP, .int .i64 aQ], .agg #[.int .i64 bP, .int .i64 bQ], .agg #[.int .i64 cP, .int .i64 cQ]] w fun e w' => e = .returned (.bool true) ∧ Below w.heap.size w w' := by
  have v1 := fun w => rvalid_any aP aQ w h1 h2 h3 h4
  have v2 := fun w => rvalid_any bP bQ w k1 k2 k3 k4
  have v3 := fun w => rvalid_any cP cQ w l1 l2 l3 l4
  cases ha : Nm.vld aP aQ
  · rw [ha] at v1; exact numOrder_i1 aP aQ bP bQ cP cQ w he v1
  cases hb : Nm.vld bP bQ
  · rw [ha] at v1; rw [hb] at v2; exact numOrder_i2 aP aQ bP bQ cP cQ w he v1 v2
  cases hc : Nm.vld cP cQ
  · rw [ha] at v1; rw [hb] at v2; rw [hc] at v3; exact numOrder_i3 aP aQ bP bQ cP cQ w he v1 v2 v3
  rw [ha] at v1; rw [hb] at v2; rw [hc] at v3
  obtain ⟨x1, x2, x3, x4⟩ := vld_bd ha
  obtain ⟨y1, y2, y3, y4⟩ := vld_bd hb
  obtain ⟨z1, z2, z3, z4⟩ := vld_bd hc
  have c2 : ∀ w, Calls Tryd.prog 34 #[.agg #[.int .i64 bP, .int .i64 bQ], .agg #[.int .i64 aP, .int .i64 aQ]] w fun e w' => e = .returned (.tuple #[.int .i64 (-cmp3 (aP * bQ) (bP * aQ)), .int .i64 0]) ∧ Below w.heap.size w w' := fun w => by
    have := cmp_ok bP bQ aP aQ w hb ha
    rwa [cmp3_cm, Nm.cm_anti] at this
  have s1 := fun w => sum_of aP aQ cP cQ _ _ _ w (fun w => add_any aP aQ cP cQ w h1 h2 h3 h4 l1 l2 l3 l4)
  have s2 := fun w => sum_of bP bQ cP cQ _ _ _ w (fun w => add_any bP bQ cP cQ w k1 k2 k3 k4 l1 l2 l3 l4)
  rw [ha, hc, Bool.and_self] at s1
  rw [hb, hc, Bool.and_self] at s2
  have hfl := Nm.fdiv_bd aP aQ x1 (by omega) x4
  have hfb := Nm.floor_bd aP aQ x1
  have hm1 := fun w => mod2x_any aP aQ bP bQ w h1 h2 h3 h4 k1 k2 k3 k4
  rw [ha, hb, Bool.and_self] at hm1
  have hcb := Nm.cm_bd (aP * bQ) (bP * aQ)
  have hmd : ∀ g, modE true aP aQ bP bQ = g → g = 0 → bP ≠ 0 ∧ Nm.vld (modP true aP aQ bP bQ) (modQ true aP aQ bP bQ) = true ∧ modP true aP aQ bP bQ * (aQ * bQ) = (aP * bQ).fmod (aQ * bP) * modQ true aP aQ bP bQ := by
    intro g hg h0
    subst h0
    unfold modE at hg
    by_cases hz : bP = 0
    · simp [hz] at hg
    · have hq : aQ * bQ ≠ 0 := by rw [Int.mul_ne_zero_iff]; omega
      rw [if_pos rfl, if_pos hz] at hg
      have := Nm.mk_spec hq hg
      unfold modP modQ
      rw [if_pos ⟨rfl, hz⟩, if_pos ⟨rfl, hz⟩]
      exact ⟨hz, this.1, this.2⟩
  refine numOrder_ok aP aQ bP bQ cP cQ _ _ _ 0 0 _ _ _ _ _ _ _ _ _ _ 0 0 _ _ w he v1 v2 v3 (fun w => cmp_ok aP aQ bP bQ w ha hb) c2 (fun w => cmp_ok bP bQ cP cQ w hb hc) (fun w => cmp_ok aP aQ cP cQ w ha hc) s1 s2 ?_ (fun w => floor_ok aP aQ w ha) hm1
    (fun hg w => cmp_ok _ _ 0 1 w (hmd _ rfl hg).2.1 (by decide +kernel)) (fun hg w => cmp_ok _ _ bP bQ w (hmd _ rfl hg).2.1 hb) hfl.1 hfl.2 x1 x2 x3 x4 hfb.1 hfb.2 ?_ hcb.1 hcb.2 (Nm.cm_eq ha hb) (Nm.cm_trans x1 y1 z1)
  · intro e1 e2 w
    have m1 := resE_true e1
    have m2 := resE_true e2
    have q1 : aQ * cQ ≠ 0 := by rw [Int.mul_ne_zero_iff]; omega
    have q2 : bQ * cQ ≠ 0 := by rw [Int.mul_ne_zero_iff]; omega
    obtain ⟨t1, t2⟩ := Nm.mk_spec q1 m1
    obtain ⟨t3, t4⟩ := Nm.mk_spec q2 m2
    have := cmp_ok _ _ _ _ w t1 t3
    rwa [cmp3_cm, Nm.cm_sum x1 y1 z1 (Nm.vq t1) (Nm.vq t3) t2 t4] at this
  · intro hg
    obtain ⟨hz, hv, he⟩ := hmd _ rfl hg
    exact Nm.mod_sign x1 y1 hz (Nm.vq hv) he
end Go.Proofs.YtmcpbnkmccngpaaDoor
