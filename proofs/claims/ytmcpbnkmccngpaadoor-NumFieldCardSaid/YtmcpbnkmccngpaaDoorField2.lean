/-
  The walk of NumField, at any three numbers.
-/
-- LAW 01
import Derived.Test.YtmcpbnkmccngpaaDoorField
import Derived.Test.YtmcpbnkmccngpaaDoorPower
namespace Go.Proofs.YtmcpbnkmccngpaaDoor
open Go.RowKit

set_option maxRecDepth 100000 in
set_option maxHeartbeats 1000000 in
theorem numField_i1 (aP aQ bP bQ cP cQ : Int) (w : World) (he : Env w)
    (v1 : ∀ w, Calls Tryd.prog 16 #[.agg #[.int .i64 aP, .int .i64 aQ]] w fun e w' => e = .returned (.bool false) ∧ Below w.heap.size w w') :
    Calls Tryd.prog 9 #[.agg #[.int .i64 aP, .int .i64 aQ], .agg #[.int .i64 bP, .int .i64 bQ], .agg #[.int .i64 cP, .int .i64 cQ]] w fun e w' => e = .returned (.bool true) ∧ Below w.heap.size w w' := by
  have HE := Lib.hid he
  have V1 := Lib.hid v1
  clear he v1
  go_enter Tryd.func9, Tryd.ntmps9
  go_wp2_with fail
  have h := abc_new w aP aQ bP bQ cP cQ
  generalize ((w.alloc (.cells #[.int .i64 aP, .int .i64 aQ] 23)).alloc (.cells #[.int .i64 bP, .int .i64 bQ] 23)).alloc (.cells #[.int .i64 cP, .int .i64 cQ] 23) = W at h ⊢
  refine (V1.out _).mono ?_; rintro e w' ⟨rfl, hb1⟩; replace h := h.below hb1; clear hb1
  go_wp2_with fail
  refine (awake_any _ (HE.out.below h.bel)).mono ?_; rintro e w3 ⟨rfl, hb1⟩
  replace h := h.below hb1
  clear hb1
  go_wp2_with fail
  go_ret
  exact ⟨rfl, h.bel⟩

set_option maxRecDepth 100000 in
set_option maxHeartbeats 1000000 in
theorem numField_i2 (aP aQ bP bQ cP cQ : Int) (w : World) (he : Env w)
    (v1 : ∀ w, Calls Tryd.prog 16 #[.agg #[.int .i64 aP, .int .i64 aQ]] w fun e w' => e = .returned (.bool true) ∧ Below w.heap.size w w')
    (v2 : ∀ w, Calls Tryd.prog 16 #[.agg #[.int .i64 bP, .int .i64 bQ]] w fun e w' => e = .returned (.bool false) ∧ Below w.heap.size w w') :
    Calls Tryd.prog 9 #[.agg #[.int .i64 aP, .int .i64 aQ], .agg #[.int .i64 bP, .int .i64 bQ], .agg #[.int .i64 cP, .int .i64 cQ]] w fun e w' => e = .returned (.bool true) ∧ Below w.heap.size w w' := by
  have HE := Lib.hid he
  have V1 := Lib.hid v1
  have V2 := Lib.hid v2
  clear he v1 v2
  go_enter Tryd.func9, Tryd.ntmps9
  go_wp2_with fail
  have h := abc_new w aP aQ bP bQ cP cQ
  generalize ((w.alloc (.cells #[.int .i64 aP, .int .i64 aQ] 23)).alloc (.cells #[.int .i64 bP, .int .i64 bQ] 23)).alloc (.cells #[.int .i64 cP, .int .i64 cQ] 23) = W at h ⊢
  refine (V1.out _).mono ?_; rintro e w' ⟨rfl, hb1⟩; replace h := h.below hb1; clear hb1
  have a0 := h.a.c0; have a1 := h.a.c1; have al := h.a.lt; have b0 := h.b.c0; have b1 := h.b.c1; have bl := h.b.lt; have c0 := h.c.c0; have c1 := h.c.c1; have cl := h.c.lt
  go_wp2_with fail
  clear a0 a1 al b0 b1 bl c0 c1 cl
  refine (V2.out _).mono ?_; rintro e w' ⟨rfl, hb1⟩; replace h := h.below hb1; clear hb1
  go_wp2_with fail
  refine (awake_any _ (HE.out.below h.bel)).mono ?_; rintro e w3 ⟨rfl, hb1⟩
  replace h := h.below hb1
  clear hb1
  go_wp2_with fail
  go_ret
  exact ⟨rfl, h.bel⟩

set_option maxRecDepth 100000 in
set_option maxHeartbeats 1000000 in
theorem numField_i3 (aP aQ bP bQ cP cQ : Int) (w : World) (he : Env w)
    (v1 : ∀ w, Calls Tryd.prog 16 #[.agg #[.int .i64 aP, .int .i64 aQ]] w fun e w' => e = .returned (.bool true) ∧ Below w.heap.size w w')
    (v2 : ∀ w, Calls Tryd.prog 16 #[.agg #[.int .i64 bP, .int .i64 bQ]] w fun e w' => e = .returned (.bool true) ∧ Below w.heap.size w w')
    (v3 : ∀ w, Calls Tryd.prog 16 #[.agg #[.int .i64 cP, .int .i64 cQ]] w fun e w' => e = .returned (.bool false) ∧ Below w.heap.size w w') :
    Calls Tryd.prog 9 #[.agg #[.int .i64 aP, .int .i64 aQ], .agg #[.int .i64 bP, .int .i64 bQ], .agg #[.int .i64 cP, .int .i64 cQ]] w fun e w' => e = .returned (.bool true) ∧ Below w.heap.size w w' := by
  have HE := Lib.hid he
  have V1 := Lib.hid v1
  have V2 := Lib.hid v2
  have V3 := Lib.hid v3
  clear he v1 v2 v3
  go_enter Tryd.func9, Tryd.ntmps9
  go_wp2_with fail
  have h := abc_new w aP aQ bP bQ cP cQ
  generalize ((w.alloc (.cells #[.int .i64 aP, .int .i64 aQ] 23)).alloc (.cells #[.int .i64 bP, .int .i64 bQ] 23)).alloc (.cells #[.int .i64 cP, .int .i64 cQ] 23) = W at h ⊢
  refine (V1.out _).mono ?_; rintro e w' ⟨rfl, hb1⟩; replace h := h.below hb1; clear hb1
  have a0 := h.a.c0; have a1 := h.a.c1; have al := h.a.lt; have b0 := h.b.c0; have b1 := h.b.c1; have bl := h.b.lt; have c0 := h.c.c0; have c1 := h.c.c1; have cl := h.c.lt
  go_wp2_with fail
  clear a0 a1 al b0 b1 bl c0 c1 cl
  refine (V2.out _).mono ?_; rintro e w' ⟨rfl, hb1⟩; replace h := h.below hb1; clear hb1
  have a0 := h.a.c0; have a1 := h.a.c1; have al := h.a.lt; have b0 := h.b.c0; have b1 := h.b.c1; have bl := h.b.lt; have c0 := h.c.c0; have c1 := h.c.c1; have cl := h.c.lt
  go_wp2_with fail
  clear a0 a1 al b0 b1 bl c0 c1 cl
  refine (V3.out _).mono ?_; rintro e w' ⟨rfl, hb1⟩; replace h := h.below hb1; clear hb1
  go_wp2_with fail
  refine (awake_any _ (HE.out.below h.bel)).mono ?_; rintro e w3 ⟨rfl, hb1⟩
  replace h := h.below hb1
  clear hb1
  go_wp2_with fail
  go_ret
  exact ⟨rfl, h.bel⟩



namespace Nm
theorem resE_yes {p q : Int} (h : (resE true p q == 0) = true) : mkE p q = 0 := by simpa [resE] using h
theorem sum_assoc {aP aQ bP bQ cP cQ x1 y1 x2 y2 x3 y3 x4 y4 : Int} (n1 : 1 ≤ aQ) (n2 : 1 ≤ bQ) (n3 : 1 ≤ cQ) (n4 : 1 ≤ y1) (n5 : 1 ≤ y3)
    (e1 : x1 * (aQ * bQ) = (aP * bQ + bP * aQ) * y1) (e2 : x2 * (y1 * cQ) = (x1 * cQ + cP * y1) * y2) (e3 : x3 * (bQ * cQ) = (bP * cQ + cP * bQ) * y3) (e4 : x4 * (aQ * y3) = (aP * y3 + x3 * aQ) * y4) : x2 * y4 = x4 * y2 := by
  have hk : aQ * bQ * cQ * y1 * y3 ≠ 0 := by
    have := Int.mul_pos (Int.mul_pos (Int.mul_pos (Int.mul_pos (show 0 < aQ by omega) (show 0 < bQ by omega)) (show 0 < cQ by omega)) (show 0 < y1 by omega)) (show 0 < y3 by omega)
    omega
  refine Int.eq_of_mul_eq_mul_right hk ?_
  have h2 := congrArg (fun t => t * (y4 * aQ * bQ * y3)) e2
  have h1 := congrArg (fun t => t * (cQ * y2 * y4 * y3)) e1
  have h4 := congrArg (fun t => t * (y2 * y1 * cQ * bQ)) e4
  have h3 := congrArg (fun t => t * (aQ * y4 * y2 * y1)) e3
  clear e1 e2 e3 e4 n1 n2 n3 n4 n5 hk
  simp only [Int.add_mul, Int.mul_add, Int.mul_assoc, Int.mul_comm, Int.mul_left_comm] at h1 h2 h3 h4 ⊢
  omega
theorem mul_assoc3 {aP aQ bP bQ cP cQ u1 v1 u2 v2 u3 v3 u4 v4 : Int} (n1 : 1 ≤ aQ) (n2 : 1 ≤ bQ) (n3 : 1 ≤ cQ) (n4 : 1 ≤ v1) (n5 : 1 ≤ v3)
    (e1 : u1 * (aQ * bQ) = aP * bP * v1) (e2 : u2 * (v1 * cQ) = u1 * cP * v2) (e3 : u3 * (bQ * cQ) = bP * cP * v3) (e4 : u4 * (aQ * v3) = aP * u3 * v4) : u2 * v4 = u4 * v2 := by
  have hk : aQ * bQ * cQ * v1 * v3 ≠ 0 := by
    have := Int.mul_pos (Int.mul_pos (Int.mul_pos (Int.mul_pos (show 0 < aQ by omega) (show 0 < bQ by omega)) (show 0 < cQ by omega)) (show 0 < v1 by omega)) (show 0 < v3 by omega)
    omega
  refine Int.eq_of_mul_eq_mul_right hk ?_
  have h2 := congrArg (fun t => t * (v4 * aQ * bQ * v3)) e2
  have h1 := congrArg (fun t => t * (cP * v2 * v4 * v3)) e1
  have h4 := congrArg (fun t => t * (v2 * bQ * cQ * v1)) e4
  have h3 := congrArg (fun t => t * (aP * v4 * v2 * v1)) e3
  clear e1 e2 e3 e4 n1 n2 n3 n4 n5 hk
  simp only [Int.mul_assoc, Int.mul_comm, Int.mul_left_comm] at h1 h2 h3 h4 ⊢
  omega
theorem mul_sum {aP aQ bP bQ cP cQ x3 y3 m1 m2 u1 v1 n1 n2 r1 r2 : Int} (q1 : 1 ≤ aQ) (q2 : 1 ≤ bQ) (q3 : 1 ≤ cQ) (q4 : 1 ≤ v1) (q5 : 1 ≤ y3) (q6 : 1 ≤ n2)
    (e3 : x3 * (bQ * cQ) = (bP * cQ + cP * bQ) * y3) (e5 : m1 * (aQ * y3) = aP * x3 * m2) (e1 : u1 * (aQ * bQ) = aP * bP * v1) (e6 : n1 * (aQ * cQ) = aP * cP * n2) (e7 : r1 * (v1 * n2) = (u1 * n2 + n1 * v1) * r2) : m1 * r2 = r1 * m2 := by
  have hk : aQ * y3 * bQ * cQ * aQ * v1 * n2 ≠ 0 := by
    have := Int.mul_pos (Int.mul_pos (Int.mul_pos (Int.mul_pos (Int.mul_pos (Int.mul_pos (show 0 < aQ by omega) (show 0 < y3 by omega)) (show 0 < bQ by omega)) (show 0 < cQ by omega)) (show 0 < aQ by omega)) (show 0 < v1 by omega)) (show 0 < n2 by omega)
    omega
  refine Int.eq_of_mul_eq_mul_right hk ?_
  have h5 := congrArg (fun t => t * (r2 * bQ * cQ * aQ * v1 * n2)) e5
  have h3 := congrArg (fun t => t * (aP * m2 * r2 * aQ * v1 * n2)) e3
  have h7 := congrArg (fun t => t * (m2 * aQ * y3 * bQ * cQ * aQ)) e7
  have h1 := congrArg (fun t => t * (n2 * r2 * m2 * y3 * cQ * aQ)) e1
  have h6 := congrArg (fun t => t * (v1 * r2 * m2 * y3 * bQ * aQ)) e6
  clear e1 e3 e5 e6 e7 q1 q2 q3 q4 q5 q6 hk
  simp only [Int.add_mul, Int.mul_add, Int.mul_assoc, Int.mul_comm, Int.mul_left_comm] at h1 h3 h5 h6 h7 ⊢
  omega
end Nm
theorem sum_both (aP aQ bP bQ : Int) (h1 : -9223372036854775808 ≤ aP) (h2 : aP ≤ 9223372036854775807) (h3 : -9223372036854775808 ≤ aQ) (h4 : aQ ≤ 9223372036854775807) (k1 : -9223372036854775808 ≤ bP) (k2 : bP ≤ 9223372036854775807) (k3 : -9223372036854775808 ≤ bQ) (k4 : bQ ≤ 9223372036854775807) :
    ∃ x y i, (∀ w, Calls Tryd.prog 46 #[.agg #[.int .i64 aP, .int .i64 aQ], .agg #[.int .i64 bP, .int .i64 bQ]] w fun e w' => e = .returned (sumV x y i) ∧ Below w.heap.size w w') ∧ (∀ w, Calls Tryd.prog 46 #[.agg #[.int .i64 bP, .int .i64 bQ], .agg #[.int .i64 aP, .int .i64 aQ]] w fun e w' => e = .returned (sumV x y i) ∧ Below w.heap.size w w')
      ∧ (-2147483647 ≤ x ∧ x ≤ 2147483647 ∧ -2147483647 ≤ y ∧ y ≤ 2147483647) ∧ (Nm.vld aP aQ = true → Nm.vld bP bQ = true → i = true → Nm.vld x y = true ∧ x * (aQ * bQ) = (aP * bQ + bP * aQ) * y) := by
  have s1 := fun w => sum_of aP aQ bP bQ _ _ _ w (fun w => add_any aP aQ bP bQ w h1 h2 h3 h4 k1 k2 k3 k4)
  have s2 := fun w => sum_of bP bQ aP aQ _ _ _ w (fun w => add_any bP bQ aP aQ w k1 k2 k3 k4 h1 h2 h3 h4)
  rw [Bool.and_comm, Int.add_comm (bP * aQ), Int.mul_comm bQ aQ] at s2
  refine ⟨_, _, _, s1, s2, res_bd _ _ _, ?_⟩
  intro ha hb hi
  rw [ha, hb, Bool.and_self] at hi ⊢
  have hq : aQ * bQ ≠ 0 := by
    have := Int.mul_pos (show 0 < aQ by have := Nm.vq ha; omega) (show 0 < bQ by have := Nm.vq hb; omega)
    omega
  unfold Nm.resP Nm.resQ
  rw [if_pos rfl, if_pos rfl]
  exact Nm.mk_spec hq (Nm.resE_yes hi)
theorem product_both (aP aQ bP bQ : Int) (h1 : -9223372036854775808 ≤ aP) (h2 : aP ≤ 9223372036854775807) (h3 : -9223372036854775808 ≤ aQ) (h4 : aQ ≤ 9223372036854775807) (k1 : -9223372036854775808 ≤ bP) (k2 : bP ≤ 9223372036854775807) (k3 : -9223372036854775808 ≤ bQ) (k4 : bQ ≤ 9223372036854775807) :
    ∃ x y i, (∀ w, Calls Tryd.prog 47 #[.agg #[.int .i64 aP, .int .i64 aQ], .agg #[.int .i64 bP, .int .i64 bQ]] w fun e w' => e = .returned (sumV x y i) ∧ Below w.heap.size w w') ∧ (∀ w, Calls Tryd.prog 47 #[.agg #[.int .i64 bP, .int .i64 bQ], .agg #[.int .i64 aP, .int .i64 aQ]] w fun e w' => e = .returned (sumV x y i) ∧ Below w.heap.size w w')
      ∧ (-2147483647 ≤ x ∧ x ≤ 2147483647 ∧ -2147483647 ≤ y ∧ y ≤ 2147483647) ∧ (Nm.vld aP aQ = true → Nm.vld bP bQ = true → i = true → Nm.vld x y = true ∧ x * (aQ * bQ) = (aP * bP) * y) := by
  have s1 := fun w => product_of aP aQ bP bQ _ _ _ w (fun w => mul_any aP aQ bP bQ w h1 h2 h3 h4 k1 k2 k3 k4)
  have s2 := fun w => product_of bP bQ aP aQ _ _ _ w (fun w => mul_any bP bQ aP aQ w k1 k2 k3 k4 h1 h2 h3 h4)
  rw [Bool.and_comm, Int.mul_comm bP aP, Int.mul_comm bQ aQ] at s2
  refine ⟨_, _, _, s1, s2, res_bd _ _ _, ?_⟩
  intro ha hb hi
  rw [ha, hb, Bool.and_self] at hi ⊢
  have hq : aQ * bQ ≠ 0 := by
    have := Int.mul_pos (show 0 < aQ by have := Nm.vq ha; omega) (show 0 < bQ by have := Nm.vq hb; omega)
    omega
  unfold Nm.resP Nm.resQ
  rw [if_pos rfl, if_pos rfl]
  exact Nm.mk_spec hq (Nm.resE_yes hi)
theorem numField_walk (aP aQ bP bQ cP cQ : Int) (w : World) (he : Env w) (h1 : -9223372036854775808 ≤ aP) (h2 : aP ≤ 9223372036854775807) (h3 : -9223372036854775808 ≤ aQ) (h4 : aQ ≤ 9223372036854775807) (k1 : -9223372036854775808 ≤ bP) (k2 : bP ≤ 9223372036854775807) (k3 : -9223372036854775808 ≤ bQ) (k4 : bQ ≤ 9223372036854775807) (l1 : -9223372036854775808 ≤ cP) (l2 : cP ≤ 9223372036854775807) (l3 : -9223372036854775808 ≤ cQ) (l4 : cQ ≤ 9223372036854775807) :
    Calls Tryd.prog 9 #[.agg #[.int .i64 aP, .int .i64 aQ], .agg #[.int .i64 bP, .int .i64 bQ], .agg #[.int .i64 cP, .int .i64 cQ]] w fun e w' => e = .returned (.bool true) ∧ Below w.heap.size w w' := by
  have v1 := fun w => rvalid_any aP aQ w h1 h2 h3 h4
  have v2 := fun w => rvalid_any bP bQ w k1 k2 k3 k4
  have v3 := fun w => rvalid_any cP cQ w l1 l2 l3 l4
  cases ha : Nm.vld aP aQ
  · rw [ha] at v1; exact numField_i1 aP aQ bP bQ cP cQ w he v1
  cases hb : Nm.vld bP bQ
  · rw [ha] at v1; rw [hb] at v2; exact numField_i2 aP aQ bP bQ cP cQ w he v1 v2
  cases hc : Nm.vld cP cQ
  · rw [ha] at v1; rw [hb] at v2; rw [hc] at v3; exact numField_i3 aP aQ bP bQ cP cQ w he v1 v2 v3
  rw [ha] at v1; rw [hb] at v2; rw [hc] at v3
  have qa := Nm.vq ha
  have qb := Nm.vq hb
  have qc := Nm.vq hc
  obtain ⟨x1, y1, i1, s1, s2, ⟨_, _, _, _⟩, f1⟩ := sum_both aP aQ bP bQ (by omega) (by omega) (by omega) (by omega) (by omega) (by omega) (by omega) (by omega)
  obtain ⟨u1, z1, j1, p1, p2, ⟨_, _, _, _⟩, g1⟩ := product_both aP aQ bP bQ (by omega) (by omega) (by omega) (by omega) (by omega) (by omega) (by omega) (by omega)
  obtain ⟨x2, y2, i2, s3, _, _, f2⟩ := sum_both x1 y1 cP cQ (by omega) (by omega) (by omega) (by omega) (by omega) (by omega) (by omega) (by omega)
  obtain ⟨x3, y3, i3, s4, _, ⟨_, _, _, _⟩, f3⟩ := sum_both bP bQ cP cQ (by omega) (by omega) (by omega) (by omega) (by omega) (by omega) (by omega) (by omega)
  obtain ⟨x4, y4, i4, s5, _, _, f4⟩ := sum_both aP aQ x3 y3 (by omega) (by omega) (by omega) (by omega) (by omega) (by omega) (by omega) (by omega)
  obtain ⟨u2, z2, j2, p3, _, _, g2⟩ := product_both u1 z1 cP cQ (by omega) (by omega) (by omega) (by omega) (by omega) (by omega) (by omega) (by omega)
  obtain ⟨u3, z3, j3, p4, _, ⟨_, _, _, _⟩, g3⟩ := product_both bP bQ cP cQ (by omega) (by omega) (by omega) (by omega) (by omega) (by omega) (by omega) (by omega)
  obtain ⟨u4, z4, j4, p5, _, _, g4⟩ := product_both aP aQ u3 z3 (by omega) (by omega) (by omega) (by omega) (by omega) (by omega) (by omega) (by omega)
  obtain ⟨m1, m2, k1', p6, _, _, g5⟩ := product_both aP aQ x3 y3 (by omega) (by omega) (by omega) (by omega) (by omega) (by omega) (by omega) (by omega)
  obtain ⟨n1, n2, k2', p7, _, ⟨_, _, _, _⟩, g6⟩ := product_both aP aQ cP cQ (by omega) (by omega) (by omega) (by omega) (by omega) (by omega) (by omega) (by omega)
  obtain ⟨r1, r2, k3', s6, _, _, f5⟩ := sum_both u1 z1 n1 n2 (by omega) (by omega) (by omega) (by omega) (by omega) (by omega) (by omega) (by omega)
  refine numField_ok aP aQ bP bQ cP cQ x1 y1 x2 y2 x3 y3 x4 y4 u1 z1 u2 z2 u3 z3 u4 z4 _ _ _ m1 m2 n1 n2 r1 r2 i1 i2 i3 i4 j1 j2 j3 j4 k1' k2' k3' w he v1 v2 v3 s1 s2 p1 p2 ?_ s3 s4 s5 (fun w => div_any u1 z1 bP bQ w (by omega) (by omega) (by omega) (by omega) (by omega) (by omega) (by omega) (by omega)) p3 p4 p5 p6 p7 s6 ?_ ?_ ?_ ?_
  · intro hi w
    obtain ⟨t1, t2⟩ := f1 ha hb hi
    have := sub_any x1 y1 bP bQ w (by omega) (by omega) (by omega) (by omega) (by omega) (by omega) (by omega) (by omega)
    rw [t1, hb, Bool.and_self, resV_ok] at this
    have hq : y1 * bQ ≠ 0 := by
      have := Int.mul_pos (show 0 < y1 by have := Nm.vq t1; omega) (show 0 < bQ by omega)
      omega
    obtain ⟨e1, e2, e3⟩ := Nm.mk_of (p := x1 * bQ - bP * y1) hq ha (by grind)
    rw [e1, e2, e3] at this
    exact this
  · intro hi1 hi2 hi3 hi4
    have t1 := f1 ha hb hi1
    have t2 := f2 t1.1 hc hi2
    have t3 := f3 hb hc hi3
    have t4 := f4 ha t3.1 hi4
    exact Nm.vld_unique t2.1 t4.1 (Nm.sum_assoc qa qb qc (Nm.vq t1.1) (Nm.vq t3.1) t1.2 t2.2 t3.2 t4.2)
  · intro hj hz
    obtain ⟨t1, t2⟩ := g1 ha hb hj
    rw [t1, hb, Bool.and_self]
    have hq : z1 * bP ≠ 0 := by
      have := Nm.vq t1
      rw [Int.mul_ne_zero_iff]; omega
    obtain ⟨e1, e2, e3⟩ := Nm.mk_of (p := u1 * bQ) hq ha (by grind)
    unfold Nm.resP Nm.resQ Nm.resE
    rw [if_pos rfl, if_pos rfl, if_pos rfl]
    exact ⟨e2, e3, e1⟩
  · intro hj1 hj2 hj3 hj4
    have t1 := g1 ha hb hj1
    have t2 := g2 t1.1 hc hj2
    have t3 := g3 hb hc hj3
    have t4 := g4 ha t3.1 hj4
    exact Nm.vld_unique t2.1 t4.1 (Nm.mul_assoc3 qa qb qc (Nm.vq t1.1) (Nm.vq t3.1) t1.2 t2.2 t3.2 t4.2)
  · intro hi3 hk1 hj1 hk2 hk3
    have t1 := g1 ha hb hj1
    have t3 := f3 hb hc hi3
    have t5 := g5 ha t3.1 hk1
    have t6 := g6 ha hc hk2
    have t7 := f5 t1.1 t6.1 hk3
    exact Nm.vld_unique t5.1 t7.1 (Nm.mul_sum qa qb qc (Nm.vq t1.1) (Nm.vq t3.1) (Nm.vq t6.1) t3.2 t5.2 t1.2 t6.2 t7.2)
end Go.Proofs.YtmcpbnkmccngpaaDoor
