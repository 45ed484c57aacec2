/-
  The mathematics of tokens, further: a number as it is written is read as it was.
-/
import Derived.Test.YtcgiibjkonleeaaGreatDoorLxM5
import Derived.Test.YtcgiibjkonleeaaGreatDoorLxR
import Derived.Test.YtcgiibjkonleeaaGreatDoorNTxt
import Derived.Test.YtcgiibjkonleeaaGreatDoorFixMath
namespace Go.Proofs.YtcgiibjkonleeaaGreatDoor

theorem dvalFrom_app3 : ∀ (b : List UInt8) (acc : Nat), dvalFrom acc b = acc * 10 ^ b.length + dval b
  | [], acc => by simp [dval, dvalFrom]
  | c :: b, acc => by
    have h1 : dvalFrom acc (c :: b) = dvalFrom (10 * acc + (c.toNat - 48)) b := rfl
    have h2 : dval (c :: b) = dvalFrom (10 * 0 + (c.toNat - 48)) b := rfl
    rw [h1, h2, dvalFrom_app3 b (10 * acc + (c.toNat - 48)), dvalFrom_app3 b (10 * 0 + (c.toNat - 48)), List.length_cons, Nat.pow_succ]
    simp only [Nat.add_mul, Nat.mul_zero, Nat.zero_add]
    rw [show 10 * acc * 10 ^ b.length = acc * (10 ^ b.length * 10) by rw [Nat.mul_comm 10 acc, Nat.mul_assoc, Nat.mul_comm 10]]
    omega
theorem dval_app3 (a b : List UInt8) : dval (a ++ b) = dval a * 10 ^ b.length + dval b := by
  rw [← dvalFrom_app3 b (dval a)]
  simp [dval, dvalFrom]
namespace Lx
theorem dval_zeros (k : Nat) : dval (List.replicate k 48) = 0 := by
  induction k with
  | zero => rfl
  | succ k ih => rw [List.replicate_succ', dval_snoc, ih]; rfl
theorem while_same (c : UInt8) (l : List UInt8) : l.takeWhile (· == c) = List.replicate (l.takeWhile (· == c)).length c := by
  induction l with
  | nil => rfl
  | cons x l ih =>
    rw [List.takeWhile_cons]
    split
    · rename_i h
      have : x = c := by simpa using h
      rw [List.length_cons, List.replicate_succ, ← ih, this]
    · rfl
theorem trim_parts (l : List UInt8) : ∃ k, l = Lib.trimRightB l 48 ++ List.replicate k 48 := by
  refine ⟨(l.reverse.takeWhile (· == 48)).length, ?_⟩
  have h := List.takeWhile_append_dropWhile (p := (· == (48 : UInt8))) (l := l.reverse)
  have h2 := while_same 48 l.reverse
  unfold Lib.trimRightB
  conv => lhs; rw [← List.reverse_reverse l, ← h, List.reverse_append, h2, List.reverse_replicate]
theorem digit_dig {l : List UInt8} (h : dig l = true) : ∀ c ∈ l, digit c = true := fun c hc => by
  have := dig_at_mem h c hc
  simp [digit]; omega
/-- Digits of a number that is small. -/
theorem dec_short : ∀ (k n : Nat), n < 10 ^ (k + 1) → (Lib.decDigits n).length ≤ k + 1
  | 0, n, h => by rw [Lib.decDigits, dif_pos (by omega)]; simp
  | k + 1, n, h => by
    rw [Lib.decDigits]
    by_cases h10 : n < 10
    · rw [dif_pos h10]; simp
    · rw [dif_neg h10, List.length_append, List.length_singleton]
      have := dec_short k (n / 10) (by rw [Nat.pow_succ] at h; omega)
      omega
theorem dec_step (n : Nat) (h : ¬ n < 10) : Lib.decDigits n = Lib.decDigits (n / 10) ++ [UInt8.ofNat (48 + n % 10)] := by
  conv => lhs; rw [Lib.decDigits]
  rw [dif_neg h]
theorem dec_six (R : Nat) (h : R < 100000) : ∃ G, Lib.decDigits (100000 + R) = 49 :: G ∧ G.length = 5 ∧ dig G = true ∧ dval G = R := by
  obtain ⟨h1, h2, -⟩ := dec_dig (100000 + R)
  have key : ∃ G, Lib.decDigits (100000 + R) = 49 :: G ∧ G.length = 5 := by
    rw [dec_step _ (by omega), dec_step ((100000 + R) / 10) (by omega), dec_step ((100000 + R) / 10 / 10) (by omega), dec_step ((100000 + R) / 10 / 10 / 10) (by omega), dec_step ((100000 + R) / 10 / 10 / 10 / 10) (by omega)]
    have e : (100000 + R) / 10 / 10 / 10 / 10 / 10 = 1 := by omega
    rw [e, Lib.decDigits_one (by decide)]
    exact ⟨_, rfl, rfl⟩
  obtain ⟨G, hG, hl⟩ := key
  refine ⟨G, hG, hl, ?_, ?_⟩
  · rw [hG, show (49 : UInt8) :: G = [49] ++ G from rfl, dig_append] at h1
    simp only [Bool.and_eq_true] at h1
    exact h1.2
  · rw [hG, show (49 : UInt8) :: G = [49] ++ G from rfl, dval_app3, hl] at h2
    have : dval [49] = 1 := rfl
    rw [this] at h2
    omega
/-- A number in decimals, in parts: digits, and digits behind the point. -/
theorem spell_parts {p q : Int} (h : decB p q = true) : ∃ W F : List UInt8, dig W = true ∧ dig F = true ∧ W ≠ [] ∧ W.length ≤ 9 ∧ F.length ≤ 5 ∧ spellN p q = W ++ (if F = [] then [] else 46 :: F) ∧ (p : Int) * ((10 ^ F.length : Nat) : Int) = ((dval (W ++ F) : Nat) : Int) * q := by
  obtain ⟨hv, p0, hpq, hdv⟩ := decB_parts h
  obtain ⟨q1, q2, -, p2⟩ := vld_pos hv
  have q3 := div_le q1 hdv
  obtain ⟨r0, r1, d0, m0, m1⟩ := rest_bd p0 q1 q3
  have hpq0 : 0 ≤ p / q := Int.ediv_nonneg p0 (by omega)
  have hsum := Int.mul_ediv_add_emod p q
  obtain ⟨a, ha⟩ : ∃ a : Nat, p / q = a := ⟨(p / q).toNat, by omega⟩
  obtain ⟨w1, w2, w3⟩ := dec_dig a
  have w4 := dec_short 8 a (by rw [ha] at hpq; omega)
  unfold spellN
  rw [ha, Lib.itoa_nonneg]
  by_cases hm : p % q = 0
  · refine ⟨Lib.decDigits a, [], w1, rfl, w3, w4, by simp, by rw [if_pos hm, if_pos rfl], ?_⟩
    rw [List.append_nil, w2, ← ha]
    rw [hm] at hsum
    simp
    rw [Int.mul_comm]; omega
  · obtain ⟨R, hR⟩ : ∃ R : Nat, p % q * (100000 / q) = R := ⟨(p % q * (100000 / q)).toNat, by omega⟩
    obtain ⟨G, hG, g1, g2, g3⟩ := dec_six R (by omega)
    obtain ⟨k, hk⟩ := trim_parts G
    have hRq : (R : Int) * q = p % q * 100000 := by
      have h5 : 100000 / q * q = 100000 := by have := Int.mul_ediv_add_emod 100000 q; rw [hdv] at this; rw [Int.mul_comm]; omega
      rw [← hR, Int.mul_assoc, h5]
    obtain ⟨F, hF⟩ : ∃ F, F = Lib.trimRightB G 48 := ⟨_, rfl⟩
    rw [← hF] at hk
    have f1 : dig F = true := by rw [hk, dig_append] at g2; simp only [Bool.and_eq_true] at g2; exact g2.1
    have f2 : dval G = dval F * 10 ^ k := by rw [hk, dval_app3, dval_zeros, List.length_replicate]; rfl
    have f3 : F.length + k = 5 := by rw [← g1, hk]; simp
    have f4 : F ≠ [] := by
      rintro rfl
      rw [g3] at f2
      have : dval ([] : List UInt8) = 0 := rfl
      rw [this, Nat.zero_mul] at f2
      rw [f2] at hRq
      have h0 : p % q * 100000 = 0 := by rw [← hRq]; simp
      omega
    refine ⟨Lib.decDigits a, F, w1, f1, w3, w4, by omega, ?_, ?_⟩
    · rw [if_neg hm, if_neg f4, hR, show (100000 : Int) + (R : Int) = ((100000 + R : Nat) : Int) by omega, Lib.itoa_nonneg, hG, List.drop_one, List.tail_cons, ← hF]
    · rw [dval_app3, w2]
      have hfq : ((dval F : Nat) : Int) * q = p % q * ((10 ^ F.length : Nat) : Int) := by
        have hk0 : ((10 ^ k : Nat) : Int) ≠ 0 := by have := Nat.pow_pos (n := k) (show 0 < 10 by decide); omega
        apply Int.eq_of_mul_eq_mul_right hk0
        have e5 : ((10 ^ F.length : Nat) : Int) * ((10 ^ k : Nat) : Int) = 100000 := by
          rw [← Int.natCast_mul, ← Nat.pow_add, f3]; rfl
        rw [Int.mul_assoc (p % q), e5, ← hRq, ← g3, f2, Int.natCast_mul, Int.mul_assoc, Int.mul_comm q, ← Int.mul_assoc]
      rw [Int.natCast_add, Int.natCast_mul, Int.add_mul, hfq, ← ha]
      conv => lhs; rw [← hsum]
      rw [Int.add_mul]
      congr 1
      rw [Int.mul_assoc, Int.mul_comm (q : Int), Int.mul_assoc]
theorem runN_dig (W r : List UInt8) (c : UInt8) (h : dig W = true) (hc : digit c = false) : runN digit (W ++ c :: r) = W.length := by
  rw [runN_app digit W _ (digit_dig h), runN, if_neg (by simp [hc])]; omega
theorem runN_all (W : List UInt8) (h : dig W = true) : runN digit W = W.length := (runN_eq_length digit W).2 (digit_dig h)
theorem first_num {p q : Int} (h : decB p q = true) : first (spellN p q) = ⟨⟨2, [], p, q⟩, (spellN p q).length, 0⟩ ∧ spellN p q ≠ [] := by
  obtain ⟨W, F, w1, f1, w3, w4, f5, hS, he⟩ := spell_parts h
  have hv := (decB_parts h).1
  have hT : ((10 ^ F.length : Nat) : Int) ≠ 0 := by have := Nat.pow_pos (n := F.length) (show 0 < 10 by decide); omega
  obtain ⟨m1, m2, m3⟩ := Nm.mk_of hT hv he
  have hnum : numeral (spellN p q) = (spellN p q).length ∧ runN digit (spellN p q) = W.length ∧ (spellN p q).drop (W.length + 1) = F ∧ (spellN p q).take W.length = W := by
    rw [hS]
    by_cases hF : F = []
    · subst hF
      rw [if_pos rfl, List.append_nil]
      have hr := runN_all W w1
      refine ⟨?_, hr, by simp, by simp⟩
      unfold numeral; rw [hr, List.drop_length]
    · rw [if_neg hF]
      have hr := runN_dig W F 46 w1 (by decide)
      refine ⟨?_, hr, by simp [List.drop_append], by simp⟩
      unfold numeral
      rw [hr, List.drop_left]
      have hf := runN_all F f1
      have : F.length ≠ 0 := by simpa using hF
      simp only [hf, List.length_append, List.length_cons]
      rw [if_neg this]; omega
  obtain ⟨n1, n2, n3, n4⟩ := hnum
  have hne : spellN p q ≠ [] := by rw [hS]; simp [w3]
  refine ⟨?_, hne⟩
  have hlet : runN letter (spellN p q) = 0 := by
    rw [hS]
    cases W with
    | nil => exact absurd rfl w3
    | cons c W =>
      have hc := digit_dig w1 c (by simp)
      rw [List.cons_append, runN, if_neg]
      have : letter c = false := by
        simp [digit] at hc
        simp [letter]
        refine ⟨⟨fun _ => by omega, fun _ => by omega⟩, fun e => ?_⟩
        subst e; revert hc; decide
      simp [this]
  have hpos : 0 < numeral (spellN p q) := by rw [n1]; exact List.length_pos_iff.2 hne
  unfold first
  rw [hlet, if_neg (by omega), if_pos hpos, n1, List.take_length]
  unfold numOf
  simp only [n2, n3, n4]
  rw [if_neg (by omega), m1, if_pos rfl, m2, m3]
end Lx
end Go.Proofs.YtcgiibjkonleeaaGreatDoor
