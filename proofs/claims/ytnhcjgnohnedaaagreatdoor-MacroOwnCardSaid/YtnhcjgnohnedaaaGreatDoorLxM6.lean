/-
  Plain mathematics: quotients as rational numbers; what Make gives is the quotient; fixed numbers.
  The mathematics of tokens, further: a number as it is written is read as it was.
-/
import Derived.Test.YtnhcjgnohnedaaaGreatDoorLxM2
import Derived.Test.YtnhcjgnohnedaaaGreatDoorLxM5
import Derived.Test.YtnhcjgnohnedaaaGreatDoorLxT
import Derived.Test.YtnhcjgnohnedaaaGreatDoorShelfS
namespace Go.Proofs.YtnhcjgnohnedaaaGreatDoor
namespace Nm

/-- What Make gives is the quotient, in lowest terms. -/
theorem mk_spec {p q : Int} (hq : q ≠ 0) (h : mkE p q = 0) : vld (mkP p q) (mkQ p q) = true ∧ mkP p q * q = p * mkQ p q := by
  have hf : ¬ (2147483647 < top p q ∨ 2147483647 < bot p q) := by
    intro hf; unfold mkE at h; rw [if_neg hq, if_pos hf] at h; simp at h
  have hg := gcdn_pos p q hq
  have hp1 : p.natAbs = gcdn p q * top p q := (Nat.mul_div_cancel' (Nat.gcd_dvd_left _ _)).symm
  have hq1 : q.natAbs = gcdn p q * bot p q := (Nat.mul_div_cancel' (Nat.gcd_dvd_right _ _)).symm
  have hb1 : 1 ≤ bot p q := by
    rcases Nat.eq_zero_or_pos (bot p q) with h0 | h0
    · rw [h0] at hq1; omega
    · omega
  have hc : Nat.gcd (top p q) (bot p q) = 1 := by
    have := Nat.gcd_mul_left (gcdn p q) (top p q) (bot p q)
    rw [← hp1, ← hq1] at this
    have h2 : gcdn p q * Nat.gcd (top p q) (bot p q) = gcdn p q * 1 := by rw [Nat.mul_one]; exact this.symm
    exact Nat.eq_of_mul_eq_mul_left (by omega) h2
  have hP : mkP p q = if neg p q = true then -(top p q : Int) else (top p q : Int) := by rw [mkP, if_pos h]
  have hQ : mkQ p q = (bot p q : Int) := by rw [mkQ, if_pos h]
  have hPa : (mkP p q).natAbs = top p q := by rw [hP]; split <;> omega
  refine ⟨?_, ?_⟩
  · unfold vld
    rw [decide_eq_true_eq]
    refine ⟨by rw [hQ]; omega, by rw [hQ]; omega, ?_, ?_, ?_⟩
    · rw [hP]; split <;> omega
    · rw [hP]; split <;> omega
    · unfold gcdn; rw [hPa, hQ, Int.natAbs_natCast]; exact hc
  · rw [hP, hQ] at *
    unfold neg at *
    have e1 : ((top p q : Int) * q).natAbs = top p q * q.natAbs := by rw [Int.natAbs_mul, Int.natAbs_natCast]
    have e2 : (p * (bot p q : Int)).natAbs = p.natAbs * bot p q := by rw [Int.natAbs_mul, Int.natAbs_natCast]
    have e3 : top p q * q.natAbs = p.natAbs * bot p q := by
      rw [hp1, hq1, Nat.mul_comm (gcdn p q) (bot p q), ← Nat.mul_assoc, Nat.mul_comm (gcdn p q) (top p q), Nat.mul_assoc, Nat.mul_assoc, Nat.mul_comm (bot p q)]
    by_cases hp : p < 0 <;> by_cases hq2 : q < 0
    · simp only [hp, hq2, decide_true, bne_self_eq_false]
      have a1 : (top p q : Int) * q = -((top p q * q.natAbs : Nat) : Int) := by
        rw [Int.natCast_mul, show (q.natAbs : Int) = -q by omega, Int.mul_neg, Int.neg_neg]
      have a2 : p * (bot p q : Int) = -((p.natAbs * bot p q : Nat) : Int) := by
        rw [Int.natCast_mul, show (p.natAbs : Int) = -p by omega, Int.neg_mul, Int.neg_neg]
      simp only [Bool.false_eq_true, if_false]
      rw [a1, a2, e3]
    · simp only [hp, hq2, decide_true, decide_false]
      have a1 : -(top p q : Int) * q = -((top p q * q.natAbs : Nat) : Int) := by
        rw [Int.natCast_mul, show (q.natAbs : Int) = q by omega, Int.neg_mul]
      have a2 : p * (bot p q : Int) = -((p.natAbs * bot p q : Nat) : Int) := by
        rw [Int.natCast_mul, show (p.natAbs : Int) = -p by omega, Int.neg_mul, Int.neg_neg]
      rw [if_pos (by decide), a1, a2, e3]
    · simp only [hp, hq2, decide_true, decide_false]
      have a1 : -(top p q : Int) * q = ((top p q * q.natAbs : Nat) : Int) := by
        rw [Int.natCast_mul, show (q.natAbs : Int) = -q by omega, Int.neg_mul, Int.mul_neg]
      have a2 : p * (bot p q : Int) = ((p.natAbs * bot p q : Nat) : Int) := by
        rw [Int.natCast_mul, show (p.natAbs : Int) = p by omega]
      rw [if_pos (by decide), a1, a2, e3]
    · simp only [hp, hq2, decide_false, bne_self_eq_false]
      have a1 : (top p q : Int) * q = ((top p q * q.natAbs : Nat) : Int) := by
        rw [Int.natCast_mul, show (q.natAbs : Int) = q by omega]
      have a2 : p * (bot p q : Int) = ((p.natAbs * bot p q : Nat) : Int) := by
        rw [Int.natCast_mul, show (p.natAbs : Int) = p by omega]
      simp only [Bool.false_eq_true, if_false]
      rw [a1, a2, e3]

/-- Two numbers in lowest terms that are one quotient are one. -/
theorem vld_unique {P Q P' Q' : Int} (h : vld P Q = true) (h' : vld P' Q' = true) (e : P * Q' = P' * Q) : P = P' ∧ Q = Q' := by
  unfold vld at h h'
  rw [decide_eq_true_eq] at h h'
  obtain ⟨a1, _, _, _, a5⟩ := h
  obtain ⟨b1, _, _, _, b5⟩ := h'
  unfold gcdn at a5 b5
  have en : P.natAbs * Q'.natAbs = P'.natAbs * Q.natAbs := by rw [← Int.natAbs_mul, ← Int.natAbs_mul, e]
  have d1 : Q.natAbs ∣ Q'.natAbs := by
    have : Q.natAbs ∣ P.natAbs * Q'.natAbs := by rw [en]; exact Nat.dvd_mul_left _ _
    exact Nat.Coprime.dvd_of_dvd_mul_left (by rw [Nat.coprime_comm]; exact a5) this
  have d2 : Q'.natAbs ∣ Q.natAbs := by
    have : Q'.natAbs ∣ P'.natAbs * Q.natAbs := by rw [← en]; exact Nat.dvd_mul_left _ _
    exact Nat.Coprime.dvd_of_dvd_mul_left (by rw [Nat.coprime_comm]; exact b5) this
  have hQ : Q = Q' := by have := Nat.dvd_antisymm d1 d2; omega
  subst hQ
  exact ⟨Int.eq_of_mul_eq_mul_right (by omega) e, rfl⟩

/-- Make of a quotient that is a number gives that number. -/
theorem mk_of {p q P Q : Int} (hq : q ≠ 0) (hv : vld P Q = true) (e : P * q = p * Q) : mkE p q = 0 ∧ mkP p q = P ∧ mkQ p q = Q := by
  have hE : mkE p q = 0 := by
    unfold mkE
    rw [if_neg hq]
    refine if_neg ?_
    unfold vld at hv
    rw [decide_eq_true_eq] at hv
    obtain ⟨a1, a2, a3, a4, a5⟩ := hv
    unfold gcdn at a5
    have en : P.natAbs * q.natAbs = p.natAbs * Q.natAbs := by rw [← Int.natAbs_mul, ← Int.natAbs_mul, e]
    -- |p| = k |P|, |q| = k |Q|
    have d1 : Q.natAbs ∣ q.natAbs := by
      have : Q.natAbs ∣ P.natAbs * q.natAbs := by rw [en]; exact Nat.dvd_mul_left _ _
      exact Nat.Coprime.dvd_of_dvd_mul_left (by rw [Nat.coprime_comm]; exact a5) this
    obtain ⟨k, hk⟩ := d1
    have hpk : p.natAbs = P.natAbs * k := by
      have : p.natAbs * Q.natAbs = (P.natAbs * k) * Q.natAbs := by rw [← en, hk, Nat.mul_comm Q.natAbs k, Nat.mul_assoc]
      exact Nat.eq_of_mul_eq_mul_right (by omega) this
    have hk0 : 0 < k := by
      rcases Nat.eq_zero_or_pos k with h0 | h0
      · rw [h0] at hk; omega
      · exact h0
    have hgk : gcdn p q = k := by
      unfold gcdn
      rw [hpk, hk, Nat.mul_comm P.natAbs k, Nat.mul_comm Q.natAbs k, Nat.gcd_mul_left, a5, Nat.mul_one]
    have ht : top p q = P.natAbs := by unfold top; rw [hgk, hpk]; exact Nat.mul_div_cancel _ hk0
    have hb : bot p q = Q.natAbs := by unfold bot; rw [hgk, hk]; exact Nat.mul_div_cancel _ hk0
    rw [ht, hb]
    omega
  obtain ⟨h1, h2⟩ := mk_spec hq hE
  have : mkP p q = P ∧ mkQ p q = Q := by
    refine vld_unique h1 hv ?_
    have : (mkP p q * Q) * q = (P * mkQ p q) * q := by
      rw [Int.mul_assoc, Int.mul_comm Q q, ← Int.mul_assoc, h2, Int.mul_assoc, Int.mul_comm (mkQ p q) Q, ← Int.mul_assoc, ← e, Int.mul_assoc, Int.mul_assoc, Int.mul_comm q]
    exact Int.eq_of_mul_eq_mul_right hq this
  exact ⟨hE, this.1, this.2⟩

/-- A fixed number, at once. -/
theorem fx_eq (p q : Int) (hq : 0 < q) : fx p q = (131072 * p + q) / (2 * q) := by
  have fe : p.fmod q + q * p.fdiv q = p := Int.fmod_add_mul_fdiv p q
  unfold fx un
  generalize p.fdiv q = f at *
  generalize p.fmod q = m at *
  have e : 131072 * p + q = (131072 * m + q) + (65536 * f) * (2 * q) := by
    rw [← fe]
    have : 65536 * f * (2 * q) = 131072 * (q * f) := by rw [Int.mul_comm q f, ← Int.mul_assoc, Int.mul_assoc 65536, Int.mul_comm f 2, ← Int.mul_assoc, Int.mul_assoc]; omega
    omega
  rw [e, Int.add_mul_ediv_right _ _ (by omega)]
  omega
theorem fx_bounds (p q : Int) (hq : 0 < q) : 2 * (fx p q * q - 65536 * p) ≤ q ∧ -q < 2 * (fx p q * q - 65536 * p) := by
  rw [fx_eq p q hq]
  have h1 := Int.mul_ediv_self_le (x := 131072 * p + q) (k := 2 * q) (by omega)
  have h2 := Int.lt_mul_ediv_self_add (x := 131072 * p + q) (k := 2 * q) (by omega)
  generalize (131072 * p + q) / (2 * q) = x at *
  have : 2 * q * x = 2 * (x * q) := by rw [Int.mul_assoc, Int.mul_comm q x]
  omega
/-- The fixed number of a fixed number is it. -/
theorem fx_back {n : Int} (h : mkE n 65536 = 0) : fx (mkP n 65536) (mkQ n 65536) = n := by
  obtain ⟨hv, he⟩ := mk_spec (by decide) h
  unfold vld at hv
  rw [decide_eq_true_eq] at hv
  have hq := hv.1
  rw [fx_eq _ _ (by omega)]
  generalize mkP n 65536 = P at *
  generalize mkQ n 65536 = Q at *
  have : 131072 * P + Q = Q + n * (2 * Q) := by
    have : n * (2 * Q) = 2 * (n * Q) := by rw [← Int.mul_assoc, Int.mul_comm n 2, Int.mul_assoc]
    omega
  rw [this, Int.add_mul_ediv_right _ _ (by omega), Int.ediv_eq_zero_of_lt (by omega) (by omega)]
  omega
end Nm
end Go.Proofs.YtnhcjgnohnedaaaGreatDoor

namespace Go.Proofs.YtnhcjgnohnedaaaGreatDoor

theorem dvalFrom_app3 : ∀ (b : List UInt8) (acc : Nat), dvalFrom acc b = acc * 10 ^ b.length + dval b
  | [], acc => by simp [dval, dvalFrom]
  | c :: b, acc => by
    have h1 : dvalFrom acc (c :: b) = dvalFrom (10 * acc + (c.toNat - 48)) b := rfl
    have h2 : dval (c :: b) = dvalFrom (10 * 0 + (c.toNat - 48)) b := rfl
    rw [h1, h2, dvalFrom_app3 b (10 * acc + (c.toNat - 48)), dvalFrom_app3 b (10 * 0 + (c.toNat - 48)), List.length_cons, Nat.pow_succ]
    simp only [Nat.add_mul, Nat.mul_zero, Nat.zero_add]
    rw [show 10 * acc * 10 ^ b.length = acc * (10 ^ b.length * 10) by rw [Nat.mul_comm 10 acc, Nat.mul_assoc, Nat.mul_comm 10]]
    omega
theorem dval_app3 (a b : List UInt8) : dval (a ++ b) = dval a * 10 ^ b.length + dval b := by
  rw [← dvalFrom_app3 b (dval a)]
  simp [dval, dvalFrom]
namespace Lx
theorem dval_zeros (k : Nat) : dval (List.replicate k 48) = 0 := by
  induction k with
  | zero => rfl
  | succ k ih => rw [List.replicate_succ', dval_snoc, ih]; rfl
theorem while_same (c : UInt8) (l : List UInt8) : l.takeWhile (· == c) = List.replicate (l.takeWhile (· == c)).length c := by
  induction l with
  | nil => rfl
  | cons x l ih =>
    rw [List.takeWhile_cons]
    split
    · rename_i h
      have : x = c := by simpa using h
      rw [List.length_cons, List.replicate_succ, ← ih, this]
    · rfl
theorem trim_parts (l : List UInt8) : ∃ k, l = Lib.trimRightB l 48 ++ List.replicate k 48 := by
  refine ⟨(l.reverse.takeWhile (· == 48)).length, ?_⟩
  have h := List.takeWhile_append_dropWhile (p := (· == (48 : UInt8))) (l := l.reverse)
  have h2 := while_same 48 l.reverse
  unfold Lib.trimRightB
  conv => lhs; rw [← List.reverse_reverse l, ← h, List.reverse_append, h2, List.reverse_replicate]
theorem digit_dig {l : List UInt8} (h : dig l = true) : ∀ c ∈ l, digit c = true := fun c hc => by
  have := dig_at_mem h c hc
  simp [digit]; omega
/-- Digits of a number that is small. -/
theorem dec_short : ∀ (k n : Nat), n < 10 ^ (k + 1) → (Lib.decDigits n).length ≤ k + 1
  | 0, n, h => by rw [Lib.decDigits, dif_pos (by omega)]; simp
  | k + 1, n, h => by
    rw [Lib.decDigits]
    by_cases h10 : n < 10
    · rw [dif_pos h10]; simp
    · rw [dif_neg h10, List.length_append, List.length_singleton]
      have := dec_short k (n / 10) (by rw [Nat.pow_succ] at h; omega)
      omega
theorem dec_step (n : Nat) (h : ¬ n < 10) : Lib.decDigits n = Lib.decDigits (n / 10) ++ [UInt8.ofNat (48 + n % 10)] := by
  conv => lhs; rw [Lib.decDigits]
  rw [dif_neg h]
theorem dec_six (R : Nat) (h : R < 100000) : ∃ G, Lib.decDigits (100000 + R) = 49 :: G ∧ G.length = 5 ∧ dig G = true ∧ dval G = R := by
  obtain ⟨h1, h2, -⟩ := dec_dig (100000 + R)
  have key : ∃ G, Lib.decDigits (100000 + R) = 49 :: G ∧ G.length = 5 := by
    rw [dec_step _ (by omega), dec_step ((100000 + R) / 10) (by omega), dec_step ((100000 + R) / 10 / 10) (by omega), dec_step ((100000 + R) / 10 / 10 / 10) (by omega), dec_step ((100000 + R) / 10 / 10 / 10 / 10) (by omega)]
    have e : (100000 + R) / 10 / 10 / 10 / 10 / 10 = 1 := by omega
    rw [e, Lib.decDigits_one (by decide)]
    exact ⟨_, rfl, rfl⟩
  obtain ⟨G, hG, hl⟩ := key
  refine ⟨G, hG, hl, ?_, ?_⟩
  · rw [hG, show (49 : UInt8) :: G = [49] ++ G from rfl, dig_append] at h1
    simp only [Bool.and_eq_true] at h1
    exact h1.2
  · rw [hG, show (49 : UInt8) :: G = [49] ++ G from rfl, dval_app3, hl] at h2
    have : dval [49] = 1 := rfl
    rw [this] at h2
    omega
/-- A number in decimals, in parts: digits, and digits behind the point. -/
theorem spell_parts {p q : Int} (h : decB p q = true) : ∃ W F : List UInt8, dig W = true ∧ dig F = true ∧ W ≠ [] ∧ W.length ≤ 9 ∧ F.length ≤ 5 ∧ spellN p q = W ++ (if F = [] then [] else 46 :: F) ∧ (p : Int) * ((10 ^ F.length : Nat) : Int) = ((dval (W ++ F) : Nat) : Int) * q := by
  obtain ⟨hv, p0, hpq, hdv⟩ := decB_parts h
  obtain ⟨q1, q2, -, p2⟩ := vld_pos hv
  have q3 := div_le q1 hdv
  obtain ⟨r0, r1, d0, m0, m1⟩ := rest_bd p0 q1 q3
  have hpq0 : 0 ≤ p / q := Int.ediv_nonneg p0 (by omega)
  have hsum := Int.mul_ediv_add_emod p q
  obtain ⟨a, ha⟩ : ∃ a : Nat, p / q = a := ⟨(p / q).toNat, by omega⟩
  obtain ⟨w1, w2, w3⟩ := dec_dig a
  have w4 := dec_short 8 a (by rw [ha] at hpq; omega)
  unfold spellN
  rw [ha, Lib.itoa_nonneg]
  by_cases hm : p % q = 0
  · refine ⟨Lib.decDigits a, [], w1, rfl, w3, w4, by simp, by rw [if_pos hm, if_pos rfl], ?_⟩
    rw [List.append_nil, w2, ← ha]
    rw [hm] at hsum
    simp
    rw [Int.mul_comm]; omega
  · obtain ⟨R, hR⟩ : ∃ R : Nat, p % q * (100000 / q) = R := ⟨(p % q * (100000 / q)).toNat, by omega⟩
    obtain ⟨G, hG, g1, g2, g3⟩ := dec_six R (by omega)
    obtain ⟨k, hk⟩ := trim_parts G
    have hRq : (R : Int) * q = p % q * 100000 := by
      have h5 : 100000 / q * q = 100000 := by have := Int.mul_ediv_add_emod 100000 q; rw [hdv] at this; rw [Int.mul_comm]; omega
      rw [← hR, Int.mul_assoc, h5]
    obtain ⟨F, hF⟩ : ∃ F, F = Lib.trimRightB G 48 := ⟨_, rfl⟩
    rw [← hF] at hk
    have f1 : dig F = true := by rw [hk, dig_append] at g2; simp only [Bool.and_eq_true] at g2; exact g2.1
    have f2 : dval G = dval F * 10 ^ k := by rw [hk, dval_app3, dval_zeros, List.length_replicate]; rfl
    have f3 : F.length + k = 5 := by rw [← g1, hk]; simp
    have f4 : F ≠ [] := by
      rintro rfl
      rw [g3] at f2
      have : dval ([] : List UInt8) = 0 := rfl
      rw [this, Nat.zero_mul] at f2
      rw [f2] at hRq
      have h0 : p % q * 100000 = 0 := by rw [← hRq]; simp
      omega
    refine ⟨Lib.decDigits a, F, w1, f1, w3, w4, by omega, ?_, ?_⟩
    · rw [if_neg hm, if_neg f4, hR, show (100000 : Int) + (R : Int) = ((100000 + R : Nat) : Int) by omega, Lib.itoa_nonneg, hG, List.drop_one, List.tail_cons, ← hF]
    · rw [dval_app3, w2]
      have hfq : ((dval F : Nat) : Int) * q = p % q * ((10 ^ F.length : Nat) : Int) := by
        have hk0 : ((10 ^ k : Nat) : Int) ≠ 0 := by have := Nat.pow_pos (n := k) (show 0 < 10 by decide); omega
        apply Int.eq_of_mul_eq_mul_right hk0
        have e5 : ((10 ^ F.length : Nat) : Int) * ((10 ^ k : Nat) : Int) = 100000 := by
          rw [← Int.natCast_mul, ← Nat.pow_add, f3]; rfl
        rw [Int.mul_assoc (p % q), e5, ← hRq, ← g3, f2, Int.natCast_mul, Int.mul_assoc, Int.mul_comm q, ← Int.mul_assoc]
      rw [Int.natCast_add, Int.natCast_mul, Int.add_mul, hfq, ← ha]
      conv => lhs; rw [← hsum]
      rw [Int.add_mul]
      congr 1
      rw [Int.mul_assoc, Int.mul_comm (q : Int), Int.mul_assoc]
theorem runN_dig (W r : List UInt8) (c : UInt8) (h : dig W = true) (hc : digit c = false) : runN digit (W ++ c :: r) = W.length := by
  rw [runN_app digit W _ (digit_dig h), runN, if_neg (by simp [hc])]; omega
theorem runN_all (W : List UInt8) (h : dig W = true) : runN digit W = W.length := (runN_eq_length digit W).2 (digit_dig h)
theorem first_num {p q : Int} (h : decB p q = true) : first (spellN p q) = ⟨⟨2, [], p, q⟩, (spellN p q).length, 0⟩ ∧ spellN p q ≠ [] := by
  obtain ⟨W, F, w1, f1, w3, w4, f5, hS, he⟩ := spell_parts h
  have hv := (decB_parts h).1
  have hT : ((10 ^ F.length : Nat) : Int) ≠ 0 := by have := Nat.pow_pos (n := F.length) (show 0 < 10 by decide); omega
  obtain ⟨m1, m2, m3⟩ := Nm.mk_of hT hv he
  have hnum : numeral (spellN p q) = (spellN p q).length ∧ runN digit (spellN p q) = W.length ∧ (spellN p q).drop (W.length + 1) = F ∧ (spellN p q).take W.length = W := by
    rw [hS]
    by_cases hF : F = []
    · subst hF
      rw [if_pos rfl, List.append_nil]
      have hr := runN_all W w1
      refine ⟨?_, hr, by simp, by simp⟩
      unfold numeral; rw [hr, List.drop_length]
    · rw [if_neg hF]
      have hr := runN_dig W F 46 w1 (by decide)
      refine ⟨?_, hr, by simp [List.drop_append], by simp⟩
      unfold numeral
      rw [hr, List.drop_left]
      have hf := runN_all F f1
      have : F.length ≠ 0 := by simpa using hF
      simp only [hf, List.length_append, List.length_cons]
      rw [if_neg this]; omega
  obtain ⟨n1, n2, n3, n4⟩ := hnum
  have hne : spellN p q ≠ [] := by rw [hS]; simp [w3]
  refine ⟨?_, hne⟩
  have hlet : runN letter (spellN p q) = 0 := by
    rw [hS]
    cases W with
    | nil => exact absurd rfl w3
    | cons c W =>
      have hc := digit_dig w1 c (by simp)
      rw [List.cons_append, runN, if_neg]
      have : letter c = false := by
        simp [digit] at hc
        simp [letter]
        refine ⟨⟨fun _ => by omega, fun _ => by omega⟩, fun e => ?_⟩
        subst e; revert hc; decide
      simp [this]
  have hpos : 0 < numeral (spellN p q) := by rw [n1]; exact List.length_pos_iff.2 hne
  unfold first
  rw [hlet, if_neg (by omega), if_pos hpos, n1, List.take_length]
  unfold numOf
  simp only [n2, n3, n4]
  rw [if_neg (by omega), m1, if_pos rfl, m2, m3]
end Lx
end Go.Proofs.YtnhcjgnohnedaaaGreatDoor
