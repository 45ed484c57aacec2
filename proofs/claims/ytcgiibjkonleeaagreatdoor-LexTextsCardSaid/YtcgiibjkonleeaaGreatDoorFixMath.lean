/-
  Plain mathematics: quotients as rational numbers; what Make gives is the quotient; fixed numbers.
-/
import Derived.Test.YtcgiibjkonleeaaGreatDoorDec
namespace Go.Proofs.YtcgiibjkonleeaaGreatDoor
namespace Nm

/-- What Make gives is the quotient, in lowest terms. -/
theorem mk_spec {p q : Int} (hq : q ≠ 0) (h : mkE p q = 0) : vld (mkP p q) (mkQ p q) = true ∧ mkP p q * q = p * mkQ p q := by
  have hf : ¬ (2147483647 < top p q ∨ 2147483647 < bot p q) := by
    intro hf; unfold mkE at h; rw [if_neg hq, if_pos hf] at h; simp at h
  have hg := gcdn_pos p q hq
  have hp1 : p.natAbs = gcdn p q * top p q := (Nat.mul_div_cancel' (Nat.gcd_dvd_left _ _)).symm
  have hq1 : q.natAbs = gcdn p q * bot p q := (Nat.mul_div_cancel' (Nat.gcd_dvd_right _ _)).symm
  have hb1 : 1 ≤ bot p q := by
    rcases Nat.eq_zero_or_pos (bot p q) with h0 | h0
    · rw [h0] at hq1; omega
    · omega
  have hc : Nat.gcd (top p q) (bot p q) = 1 := by
    have := Nat.gcd_mul_left (gcdn p q) (top p q) (bot p q)
    rw [← hp1, ← hq1] at this
    have h2 : gcdn p q * Nat.gcd (top p q) (bot p q) = gcdn p q * 1 := by rw [Nat.mul_one]; exact this.symm
    exact Nat.eq_of_mul_eq_mul_left (by omega) h2
  have hP : mkP p q = if neg p q = true then -(top p q : Int) else (top p q : Int) := by rw [mkP, if_pos h]
  have hQ : mkQ p q = (bot p q : Int) := by rw [mkQ, if_pos h]
  have hPa : (mkP p q).natAbs = top p q := by rw [hP]; split <;> omega
  refine ⟨?_, ?_⟩
  · unfold vld
    rw [decide_eq_true_eq]
    refine ⟨by rw [hQ]; omega, by rw [hQ]; omega, ?_, ?_, ?_⟩
    · rw [hP]; split <;> omega
    · rw [hP]; split <;> omega
    · unfold gcdn; rw [hPa, hQ, Int.natAbs_natCast]; exact hc
  · rw [hP, hQ] at *
    unfold neg at *
    have e1 : ((top p q : Int) * q).natAbs = top p q * q.natAbs := by rw [Int.natAbs_mul, Int.natAbs_natCast]
    have e2 : (p * (bot p q : Int)).natAbs = p.natAbs * bot p q := by rw [Int.natAbs_mul, Int.natAbs_natCast]
    have e3 : top p q * q.natAbs = p.natAbs * bot p q := by
      rw [hp1, hq1, Nat.mul_comm (gcdn p q) (bot p q), ← Nat.mul_assoc, Nat.mul_comm (gcdn p q) (top p q), Nat.mul_assoc, Nat.mul_assoc, Nat.mul_comm (bot p q)]
    by_cases hp : p < 0 <;> by_cases hq2 : q < 0
    · simp only [hp, hq2, decide_true, bne_self_eq_false]
      have a1 : (top p q : Int) * q = -((top p q * q.natAbs : Nat) : Int) := by
        rw [Int.natCast_mul, show (q.natAbs : Int) = -q by omega, Int.mul_neg, Int.neg_neg]
      have a2 : p * (bot p q : Int) = -((p.natAbs * bot p q : Nat) : Int) := by
        rw [Int.natCast_mul, show (p.natAbs : Int) = -p by omega, Int.neg_mul, Int.neg_neg]
      simp only [Bool.false_eq_true, if_false]
      rw [a1, a2, e3]
    · simp only [hp, hq2, decide_true, decide_false]
      have a1 : -(top p q : Int) * q = -((top p q * q.natAbs : Nat) : Int) := by
        rw [Int.natCast_mul, show (q.natAbs : Int) = q by omega, Int.neg_mul]
      have a2 : p * (bot p q : Int) = -((p.natAbs * bot p q : Nat) : Int) := by
        rw [Int.natCast_mul, show (p.natAbs : Int) = -p by omega, Int.neg_mul, Int.neg_neg]
      rw [if_pos (by decide), a1, a2, e3]
    · simp only [hp, hq2, decide_true, decide_false]
      have a1 : -(top p q : Int) * q = ((top p q * q.natAbs : Nat) : Int) := by
        rw [Int.natCast_mul, show (q.natAbs : Int) = -q by omega, Int.neg_mul, Int.mul_neg]
      have a2 : p * (bot p q : Int) = ((p.natAbs * bot p q : Nat) : Int) := by
        rw [Int.natCast_mul, show (p.natAbs : Int) = p by omega]
      rw [if_pos (by decide), a1, a2, e3]
    · simp only [hp, hq2, decide_false, bne_self_eq_false]
      have a1 : (top p q : Int) * q = ((top p q * q.natAbs : Nat) : Int) := by
        rw [Int.natCast_mul, show (q.natAbs : Int) = q by omega]
      have a2 : p * (bot p q : Int) = ((p.natAbs * bot p q : Nat) : Int) := by
        rw [Int.natCast_mul, show (p.natAbs : Int) = p by omega]
      simp only [Bool.false_eq_true, if_false]
      rw [a1, a2, e3]

/-- Two numbers in lowest terms that are one quotient are one. -/
theorem vld_unique {P Q P' Q' : Int} (h : vld P Q = true) (h' : vld P' Q' = true) (e : P * Q' = P' * Q) : P = P' ∧ Q = Q' := by
  unfold vld at h h'
  rw [decide_eq_true_eq] at h h'
  obtain ⟨a1, _, _, _, a5⟩ := h
  obtain ⟨b1, _, _, _, b5⟩ := h'
  unfold gcdn at a5 b5
  have en : P.natAbs * Q'.natAbs = P'.natAbs * Q.natAbs := by rw [← Int.natAbs_mul, ← Int.natAbs_mul, e]
  have d1 : Q.natAbs ∣ Q'.natAbs := by
    have : Q.natAbs ∣ P.natAbs * Q'.natAbs := by rw [en]; exact Nat.dvd_mul_left _ _
    exact Nat.Coprime.dvd_of_dvd_mul_left (by rw [Nat.coprime_comm]; exact a5) this
  have d2 : Q'.natAbs ∣ Q.natAbs := by
    have : Q'.natAbs ∣ P'.natAbs * Q.natAbs := by rw [← en]; exact Nat.dvd_mul_left _ _
    exact Nat.Coprime.dvd_of_dvd_mul_left (by rw [Nat.coprime_comm]; exact b5) this
  have hQ : Q = Q' := by have := Nat.dvd_antisymm d1 d2; omega
  subst hQ
  exact ⟨Int.eq_of_mul_eq_mul_right (by omega) e, rfl⟩

/-- Make of a quotient that is a number gives that number. -/
theorem mk_of {p q P Q : Int} (hq : q ≠ 0) (hv : vld P Q = true) (e : P * q = p * Q) : mkE p q = 0 ∧ mkP p q = P ∧ mkQ p q = Q := by
  have hE : mkE p q = 0 := by
    unfold mkE
    rw [if_neg hq]
    refine if_neg ?_
    unfold vld at hv
    rw [decide_eq_true_eq] at hv
    obtain ⟨a1, a2, a3, a4, a5⟩ := hv
    unfold gcdn at a5
    have en : P.natAbs * q.natAbs = p.natAbs * Q.natAbs := by rw [← Int.natAbs_mul, ← Int.natAbs_mul, e]
    -- |p| = k |P|, |q| = k |Q|
    have d1 : Q.natAbs ∣ q.natAbs := by
      have : Q.natAbs ∣ P.natAbs * q.natAbs := by rw [en]; exact Nat.dvd_mul_left _ _
      exact Nat.Coprime.dvd_of_dvd_mul_left (by rw [Nat.coprime_comm]; exact a5) this
    obtain ⟨k, hk⟩ := d1
    have hpk : p.natAbs = P.natAbs * k := by
      have : p.natAbs * Q.natAbs = (P.natAbs * k) * Q.natAbs := by rw [← en, hk, Nat.mul_comm Q.natAbs k, Nat.mul_assoc]
      exact Nat.eq_of_mul_eq_mul_right (by omega) this
    have hk0 : 0 < k := by
      rcases Nat.eq_zero_or_pos k with h0 | h0
      · rw [h0] at hk; omega
      · exact h0
    have hgk : gcdn p q = k := by
      unfold gcdn
      rw [hpk, hk, Nat.mul_comm P.natAbs k, Nat.mul_comm Q.natAbs k, Nat.gcd_mul_left, a5, Nat.mul_one]
    have ht : top p q = P.natAbs := by unfold top; rw [hgk, hpk]; exact Nat.mul_div_cancel _ hk0
    have hb : bot p q = Q.natAbs := by unfold bot; rw [hgk, hk]; exact Nat.mul_div_cancel _ hk0
    rw [ht, hb]
    omega
  obtain ⟨h1, h2⟩ := mk_spec hq hE
  have : mkP p q = P ∧ mkQ p q = Q := by
    refine vld_unique h1 hv ?_
    have : (mkP p q * Q) * q = (P * mkQ p q) * q := by
      rw [Int.mul_assoc, Int.mul_comm Q q, ← Int.mul_assoc, h2, Int.mul_assoc, Int.mul_comm (mkQ p q) Q, ← Int.mul_assoc, ← e, Int.mul_assoc, Int.mul_assoc, Int.mul_comm q]
    exact Int.eq_of_mul_eq_mul_right hq this
  exact ⟨hE, this.1, this.2⟩

/-- A fixed number, at once. -/
theorem fx_eq (p q : Int) (hq : 0 < q) : fx p q = (131072 * p + q) / (2 * q) := by
  have fe : p.fmod q + q * p.fdiv q = p := Int.fmod_add_mul_fdiv p q
  unfold fx un
  generalize p.fdiv q = f at *
  generalize p.fmod q = m at *
  have e : 131072 * p + q = (131072 * m + q) + (65536 * f) * (2 * q) := by
    rw [← fe]
    have : 65536 * f * (2 * q) = 131072 * (q * f) := by rw [Int.mul_comm q f, ← Int.mul_assoc, Int.mul_assoc 65536, Int.mul_comm f 2, ← Int.mul_assoc, Int.mul_assoc]; omega
    omega
  rw [e, Int.add_mul_ediv_right _ _ (by omega)]
  omega
theorem fx_bounds (p q : Int) (hq : 0 < q) : 2 * (fx p q * q - 65536 * p) ≤ q ∧ -q < 2 * (fx p q * q - 65536 * p) := by
  rw [fx_eq p q hq]
  have h1 := Int.mul_ediv_self_le (x := 131072 * p + q) (k := 2 * q) (by omega)
  have h2 := Int.lt_mul_ediv_self_add (x := 131072 * p + q) (k := 2 * q) (by omega)
  generalize (131072 * p + q) / (2 * q) = x at *
  have : 2 * q * x = 2 * (x * q) := by rw [Int.mul_assoc, Int.mul_comm q x]
  omega
/-- The fixed number of a fixed number is it. -/
theorem fx_back {n : Int} (h : mkE n 65536 = 0) : fx (mkP n 65536) (mkQ n 65536) = n := by
  obtain ⟨hv, he⟩ := mk_spec (by decide) h
  unfold vld at hv
  rw [decide_eq_true_eq] at hv
  have hq := hv.1
  rw [fx_eq _ _ (by omega)]
  generalize mkP n 65536 = P at *
  generalize mkQ n 65536 = Q at *
  have : 131072 * P + Q = Q + n * (2 * Q) := by
    have : n * (2 * Q) = 2 * (n * Q) := by rw [← Int.mul_assoc, Int.mul_comm n 2, Int.mul_assoc]
    omega
  rw [this, Int.add_mul_ediv_right _ _ (by omega), Int.ediv_eq_zero_of_lt (by omega) (by omega)]
  omega
end Nm
end Go.Proofs.YtcgiibjkonleeaaGreatDoor
