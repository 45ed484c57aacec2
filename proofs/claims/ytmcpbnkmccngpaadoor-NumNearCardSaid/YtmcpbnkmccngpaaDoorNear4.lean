/-
  Near, of the program and of the reference: one answer, at any string and numbers.
-/
-- LAW 01
import Derived.Test.YtmcpbnkmccngpaaDoorNear3
namespace Go.Proofs.YtmcpbnkmccngpaaDoor
open Go.RowKit

theorem near_op (s : ByteArray) (c : UInt8) (hop : c = 43 ∨ c = 45 ∨ c = 42 ∨ c = 47) (hs : s = ⟨#[c]⟩) (aP aQ bP bQ : Int) (ha : Nm.vld aP aQ = true) (hb : Nm.vld bP bQ = true) : ∃ x y e0, (∀ w, Calls Tryd.prog 26 #[.string s, .agg #[.int .i64 aP, .int .i64 aQ], .agg #[.int .i64 bP, .int .i64 bQ]] w fun e w' => e = .returned (numV x y e0) ∧ Below w.heap.size w w') ∧ (∀ w, Calls Tryd.prog 27 #[.string s, .agg #[.int .i64 aP, .int .i64 aQ], .agg #[.int .i64 bP, .int .i64 bQ]] w fun e w' => e = .returned (numV x y e0) ∧ Below w.heap.size w w') := by
  obtain ⟨x1, x2, x3, x4⟩ := vld_bd ha
  obtain ⟨y1, y2, y3, y4⟩ := vld_bd hb
  have hv : (Nm.vld aP aQ && Nm.vld bP bQ) = true := by rw [ha, hb]; rfl
  have m1 := mul_bd aP bQ x3 x4 (by omega) y2
  have m2 := mul_bd bP aQ y3 y4 (by omega) x2
  have m3 := mul_bd aQ bQ (by omega) x2 (by omega) y2
  have m4 := mul_bd aP bP x3 x4 y3 y4
  have m5 := mul_bd aQ bP (by omega) x2 y3 y4
  have m6 : 0 < aQ * bQ := Int.mul_pos (by omega) (by omega)
  rcases hop with rfl | rfl | rfl | rfl
  · have hy := fun w => rexact_add aP aQ bP bQ w ha hb
    exact near_both s 43 (by decide) hs aP aQ bP bQ _ _ _ _ (by omega) (by omega) (by omega) (by omega) m6 (Or.inl ⟨rfl, rfl⟩) (fun w => exact_add aP aQ bP bQ w ha hb) hy
      (fun w => result_ok _ aP aQ bP bQ _ _ w (by omega) (by omega) (by omega) (by omega) hv (Or.inl (by rw [show (ByteArray.mk #[43]).toList = [43] from ByteArray.toList_mk [43]]; decide)) hy)
  · have hy := fun w => rexact_sub aP aQ bP bQ w ha hb
    exact near_both s 45 (by decide) hs aP aQ bP bQ _ _ _ _ (by omega) (by omega) (by omega) (by omega) m6 (Or.inl ⟨rfl, rfl⟩) (fun w => exact_sub aP aQ bP bQ w ha hb) hy
      (fun w => result_ok _ aP aQ bP bQ _ _ w (by omega) (by omega) (by omega) (by omega) hv (Or.inl (by rw [show (ByteArray.mk #[45]).toList = [45] from ByteArray.toList_mk [45]]; decide)) hy)
  · have hy := fun w => rexact_mul aP aQ bP bQ w ha hb
    exact near_both s 42 (by decide) hs aP aQ bP bQ _ _ _ _ (by omega) (by omega) (by omega) (by omega) m6 (Or.inl ⟨rfl, rfl⟩) (fun w => exact_mul aP aQ bP bQ w ha hb) hy
      (fun w => result_ok _ aP aQ bP bQ _ _ w (by omega) (by omega) (by omega) (by omega) hv (Or.inl (by rw [show (ByteArray.mk #[42]).toList = [42] from ByteArray.toList_mk [42]]; decide)) hy)
  · have hx := fun w => exact_div aP aQ bP bQ w ha hb
    rcases Int.lt_trichotomy bP 0 with h0 | h0 | h0
    · have hy := fun w => rexact_div_neg aP aQ bP bQ w ha hb h0
      rw [Int.neg_mul, Int.neg_mul] at hy
      have m7 : aQ * bP < 0 := Int.mul_neg_of_pos_of_neg (by omega) h0
      have hr := fun w => result_ok ⟨#[47]⟩ aP aQ bP bQ _ _ w (by omega) (by omega) (by omega) (by omega) hv (Or.inr (by simp; omega)) hy
      rw [Nm.mkP_neg, Nm.mkQ_neg, Nm.mkE_neg] at hr
      exact near_both s 47 (by decide) hs aP aQ bP bQ _ _ _ _ (by omega) (by omega) (by omega) (by omega) (by omega) (Or.inr ⟨rfl, rfl⟩) hx hy hr
    · subst h0 hs
      rw [Int.mul_zero] at hx
      have hE : Nm.mkE (aP * bQ) 0 = 18 := by simp [Nm.mkE]
      have hn := fun w => near_make ⟨#[47]⟩ aP aQ 0 bQ _ _ w (by omega) (by omega) (by omega) (by omega) (by rw [hE]; rfl) hx
      rw [hE, show Nm.mkP (aP * bQ) 0 = 0 by simp [Nm.mkP, hE], show Nm.mkQ (aP * bQ) 0 = 0 by simp [Nm.mkQ, hE]] at hn
      exact ⟨0, 0, 18, hn, fun w => rnear_keep 47 (by decide) aP aQ 0 bQ 0 0 18 w (by decide) (fun w => result_zero aP aQ bQ w hv)⟩
    · have hy := fun w => rexact_div_pos aP aQ bP bQ w ha hb (by omega)
      have m7 : 0 < aQ * bP := Int.mul_pos (by omega) h0
      exact near_both s 47 (by decide) hs aP aQ bP bQ _ _ _ _ (by omega) (by omega) (by omega) (by omega) m7 (Or.inl ⟨rfl, rfl⟩) hx hy
        (fun w => result_ok _ aP aQ bP bQ _ _ w (by omega) (by omega) (by omega) (by omega) hv (Or.inr (by simp; omega)) hy)
theorem near_same (s : ByteArray) (aP aQ bP bQ : Int) (h1 : -9223372036854775808 ≤ aP) (h2 : aP ≤ 9223372036854775807) (h3 : -9223372036854775808 ≤ aQ) (h4 : aQ ≤ 9223372036854775807) (k1 : -9223372036854775808 ≤ bP) (k2 : bP ≤ 9223372036854775807) (k3 : -9223372036854775808 ≤ bQ) (k4 : bQ ≤ 9223372036854775807) : ∃ x y e0, (∀ w, Calls Tryd.prog 26 #[.string s, .agg #[.int .i64 aP, .int .i64 aQ], .agg #[.int .i64 bP, .int .i64 bQ]] w fun e w' => e = .returned (numV x y e0) ∧ Below w.heap.size w w') ∧ (∀ w, Calls Tryd.prog 27 #[.string s, .agg #[.int .i64 aP, .int .i64 aQ], .agg #[.int .i64 bP, .int .i64 bQ]] w fun e w' => e = .returned (numV x y e0) ∧ Below w.heap.size w w') := by
  by_cases hop : ∃ c : UInt8, (c = 43 ∨ c = 45 ∨ c = 42 ∨ c = 47) ∧ s = ⟨#[c]⟩
  · obtain ⟨c, hc, hs⟩ := hop
    cases hv : (Nm.vld aP aQ && Nm.vld bP bQ)
    · subst hs
      exact ⟨0, 0, 2, fun w => near_err _ aP aQ bP bQ w (fun w => exact_no _ aP aQ bP bQ w h1 h2 h3 h4 k1 k2 k3 k4 hv), fun w => rnear_keep c hc aP aQ bP bQ 0 0 2 w (by decide) (fun w => result_no _ aP aQ bP bQ w h1 h2 h3 h4 k1 k2 k3 k4 hv)⟩
    · obtain ⟨ha, hb⟩ := and_true' hv
      exact near_op s c hc hs aP aQ bP bQ ha hb
  · have no : ∀ c : UInt8, (c = 43 ∨ c = 45 ∨ c = 42 ∨ c = 47) → (s.toList == [c]) = false := by
      intro c hc
      rw [Bool.eq_false_iff]
      intro h
      exact hop ⟨c, hc, str_of s c (by simpa using h)⟩
    have n1 := no 43 (by decide)
    have n2 := no 45 (by decide)
    have n3 := no 42 (by decide)
    have n4 := no 47 (by decide)
    refine ⟨0, 0, 2, fun w => near_err _ aP aQ bP bQ w ?_, fun w => rnear_bad s aP aQ bP bQ w n1 n2 n3 n4⟩
    intro w
    cases hv : (Nm.vld aP aQ && Nm.vld bP bQ)
    · exact exact_no s aP aQ bP bQ w h1 h2 h3 h4 k1 k2 k3 k4 hv
    · obtain ⟨ha, hb⟩ := and_true' hv
      exact exact_bad s aP aQ bP bQ w ha hb n1 n2 n3 n4
end Go.Proofs.YtmcpbnkmccngpaaDoor
