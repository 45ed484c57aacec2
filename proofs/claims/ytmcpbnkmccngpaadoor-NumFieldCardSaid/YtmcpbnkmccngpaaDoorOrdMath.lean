/-
  Plain mathematics of the order of numbers.
-/
import Derived.Test.YtmcpbnkmccngpaaDoorFixMath
namespace Go.Proofs.YtmcpbnkmccngpaaDoor
namespace Nm
def cm (x y : Int) : Int := if x < y then -1 else if y < x then 1 else 0
theorem cm_anti (x y : Int) : cm y x = -cm x y := by
  unfold cm
  rcases Int.lt_trichotomy x y with h | h | h
  · rw [if_pos h, if_neg (by omega), if_pos h]; rfl
  · subst h; simp
  · simp [h, show ¬ x < y by omega]
theorem cm_bd (x y : Int) : -1 ≤ cm x y ∧ cm x y ≤ 1 := by unfold cm; split <;> (try split) <;> omega
theorem cm_zero (x y : Int) : cm x y = 0 ↔ x = y := by
  unfold cm; constructor
  · intro h; split at h
    · omega
    · split at h <;> omega
  · intro h; subst h; simp
theorem cm_le (x y : Int) : cm x y ≤ 0 ↔ x ≤ y := by
  unfold cm; constructor
  · intro h; split at h
    · omega
    · split at h <;> omega
  · intro h; split
    · omega
    · rw [if_neg (by omega)]; omega
theorem cm_ge (x y : Int) : 0 ≤ cm x y ↔ y ≤ x := by
  have := cm_le y x
  rw [cm_anti] at this
  omega
theorem cm_lt (x y : Int) : cm x y < 0 ↔ x < y := by
  have := cm_ge x y
  omega
theorem cm_gt (x y : Int) : 0 < cm x y ↔ y < x := by
  have := cm_le x y
  omega
theorem cm_scale {u v s t p q : Int} (hp : 0 < p) (hq : 0 < q) (h : (u - v) * p = (s - t) * q) : cm u v = cm s t := by
  have key : (u < v ↔ s < t) ∧ (v < u ↔ t < s) := by
    refine ⟨⟨fun a => ?_, fun a => ?_⟩, ⟨fun a => ?_, fun a => ?_⟩⟩
    · have h1 : (u - v) * p < 0 := Int.mul_neg_of_neg_of_pos (by omega) hp
      rcases Int.lt_or_le s t with b | b
      · exact b
      · have : 0 ≤ (s - t) * q := Int.mul_nonneg (by omega) (by omega)
        omega
    · have h1 : (s - t) * q < 0 := Int.mul_neg_of_neg_of_pos (by omega) hq
      rcases Int.lt_or_le u v with b | b
      · exact b
      · have : 0 ≤ (u - v) * p := Int.mul_nonneg (by omega) (by omega)
        omega
    · have h1 : 0 < (u - v) * p := Int.mul_pos (by omega) hp
      rcases Int.lt_or_le t s with b | b
      · exact b
      · have : (s - t) * q ≤ 0 := Int.mul_nonpos_of_nonpos_of_nonneg (by omega) (by omega)
        omega
    · have h1 : 0 < (s - t) * q := Int.mul_pos (by omega) hq
      rcases Int.lt_or_le v u with b | b
      · exact b
      · have : (u - v) * p ≤ 0 := Int.mul_nonpos_of_nonpos_of_nonneg (by omega) (by omega)
        omega
  unfold cm
  by_cases a : u < v
  · rw [if_pos a, if_pos (key.1.1 a)]
  · rw [if_neg a, if_neg (fun b => a (key.1.2 b))]
    by_cases c : v < u
    · rw [if_pos c, if_pos (key.2.1 c)]
    · rw [if_neg c, if_neg (fun b => c (key.2.2 b))]
theorem vq {p q : Int} (h : vld p q = true) : 1 ≤ q := by
  unfold vld at h; rw [decide_eq_true_eq] at h; exact h.1
theorem cm_eq {aP aQ bP bQ : Int} (ha : vld aP aQ = true) (hb : vld bP bQ = true) : (cm (aP * bQ) (bP * aQ) == 0) = (aP == bP && aQ == bQ) := by
  rw [Bool.eq_iff_iff]
  simp only [beq_iff_eq, Bool.and_eq_true]
  rw [cm_zero]
  constructor
  · intro h; exact vld_unique ha hb h
  · rintro ⟨rfl, rfl⟩; rfl
theorem cm_trans {aP aQ bP bQ cP cQ : Int} (ha : 1 ≤ aQ) (hb : 1 ≤ bQ) (hc : 1 ≤ cQ) (h1 : cm (aP * bQ) (bP * aQ) ≤ 0) (h2 : cm (bP * cQ) (cP * bQ) ≤ 0) : cm (aP * cQ) (cP * aQ) ≤ 0 := by
  rw [cm_le] at *
  have e1 := Int.mul_le_mul_of_nonneg_right h1 (show 0 ≤ cQ by omega)
  have e2 := Int.mul_le_mul_of_nonneg_right h2 (show 0 ≤ aQ by omega)
  have a1 : aP * cQ * bQ = aP * bQ * cQ := by rw [Int.mul_assoc, Int.mul_comm cQ, ← Int.mul_assoc]
  have a2 : bP * aQ * cQ = bP * cQ * aQ := by rw [Int.mul_assoc, Int.mul_comm aQ, ← Int.mul_assoc]
  have a3 : cP * aQ * bQ = cP * bQ * aQ := by rw [Int.mul_assoc, Int.mul_comm aQ, ← Int.mul_assoc]
  have fin : aP * cQ * bQ ≤ cP * aQ * bQ := by omega
  exact Int.le_of_mul_le_mul_right fin (by omega : 0 < bQ)
theorem cm_sum {aP aQ bP bQ cP cQ x1 y1 x2 y2 : Int} (ha : 1 ≤ aQ) (hb : 1 ≤ bQ) (hc : 1 ≤ cQ) (hy1 : 1 ≤ y1) (hy2 : 1 ≤ y2)
    (e1 : x1 * (aQ * cQ) = (aP * cQ + cP * aQ) * y1) (e2 : x2 * (bQ * cQ) = (bP * cQ + cP * bQ) * y2) : cm (x1 * y2) (x2 * y1) = cm (aP * bQ) (bP * aQ) := by
  refine cm_scale (p := aQ * cQ * (bQ * cQ)) (q := y1 * y2 * (cQ * cQ)) (Int.mul_pos (Int.mul_pos (by omega) (by omega)) (Int.mul_pos (by omega) (by omega))) (Int.mul_pos (Int.mul_pos (by omega) (by omega)) (Int.mul_pos (by omega) (by omega))) ?_
  grind
theorem floor_bd (p q : Int) (hq : 1 ≤ q) : p.fdiv q * q ≤ p ∧ p < (p.fdiv q + 1) * q := by
  have fe : p.fmod q + q * p.fdiv q = p := Int.fmod_add_mul_fdiv p q
  obtain ⟨f0, f1⟩ := (fm_bd p q).1 (by omega)
  rw [Int.add_mul, Int.mul_comm (p.fdiv q) q]
  omega
theorem mod_sign {aP aQ bP bQ r1 r2 : Int} (ha : 1 ≤ aQ) (hb : 1 ≤ bQ) (hz : bP ≠ 0) (hr : 1 ≤ r2) (e : r1 * (aQ * bQ) = (aP * bQ).fmod (aQ * bP) * r2) :
    (0 < bP ∧ 0 ≤ cm (r1 * 1) (0 * r2) ∧ cm (r1 * bQ) (bP * r2) < 0) ∨ (bP < 0 ∧ cm (r1 * 1) (0 * r2) ≤ 0 ∧ 0 < cm (r1 * bQ) (bP * r2)) := by
  have fb := fm_bd (aP * bQ) (aQ * bP)
  generalize (aP * bQ).fmod (aQ * bP) = f at *
  have hab : 0 < aQ * bQ := Int.mul_pos (by omega) (by omega)
  have e3 : (r1 * bQ - bP * r2) * aQ = (f - aQ * bP) * r2 := by grind
  rw [show r1 * 1 = r1 by omega, show 0 * r2 = 0 by omega]
  rcases Int.lt_or_gt_of_ne hz with h | h
  · right
    have hy : aQ * bP < 0 := Int.mul_neg_of_pos_of_neg (by omega) h
    obtain ⟨f0, f1⟩ := fb.2 hy
    refine ⟨h, ?_, ?_⟩
    · rw [cm_le]
      rcases Int.lt_or_le 0 r1 with b | b
      · have : 0 < r1 * (aQ * bQ) := Int.mul_pos b hab
        have : f * r2 ≤ 0 := Int.mul_nonpos_of_nonpos_of_nonneg f1 (by omega)
        omega
      · exact b
    · rw [cm_gt]
      rcases Int.lt_or_le (bP * r2) (r1 * bQ) with b | b
      · exact b
      · have h1 : (r1 * bQ - bP * r2) * aQ ≤ 0 := Int.mul_nonpos_of_nonpos_of_nonneg (by omega) (by omega)
        have h2 : 0 < (f - aQ * bP) * r2 := Int.mul_pos (by omega) (by omega)
        omega
  · left
    have hy : 0 < aQ * bP := Int.mul_pos (by omega) h
    obtain ⟨f0, f1⟩ := fb.1 hy
    refine ⟨h, ?_, ?_⟩
    · rw [cm_ge]
      rcases Int.lt_or_le r1 0 with b | b
      · have : r1 * (aQ * bQ) < 0 := Int.mul_neg_of_neg_of_pos b hab
        have : 0 ≤ f * r2 := Int.mul_nonneg f0 (by omega)
        omega
      · exact b
    · rw [cm_lt]
      rcases Int.lt_or_le (r1 * bQ) (bP * r2) with b | b
      · exact b
      · have h1 : 0 ≤ (r1 * bQ - bP * r2) * aQ := Int.mul_nonneg (by omega) (by omega)
        have h2 : (f - aQ * bP) * r2 < 0 := Int.mul_neg_of_neg_of_pos (by omega) (by omega)
        omega
end Nm
end Go.Proofs.YtmcpbnkmccngpaaDoor
