/-
  The reference of layer 3: digits of a number in decimals, their mathematics.
-/
import Derived.Test.YtcgiibjkonleeaaGreatDoorLxM6
import Derived.Test.YtcgiibjkonleeaaGreatDoorLrA
import Derived.Test.YtcgiibjkonleeaaGreatDoorNRef2
namespace Go.Proofs.YtcgiibjkonleeaaGreatDoor
namespace Lx

theorem dval_inj : ∀ (a b : List UInt8), dig a = true → dig b = true → a.length = b.length → dval a = dval b → a = b
  | [], [], _, _, _, _ => rfl
  | [], _ :: _, _, _, h, _ => by simp at h
  | _ :: _, [], _, _, h, _ => by simp at h
  | x :: a, y :: b, h1, h2, hl, hd => by
    have e1 := dval_app3 [x] a
    have e2 := dval_app3 [y] b
    have hl' : a.length = b.length := by simpa using hl
    have k1 : dig a = true := by rw [show x :: a = [x] ++ a from rfl, dig_append] at h1; simp only [Bool.and_eq_true] at h1; exact h1.2
    have k2 : dig b = true := by rw [show y :: b = [y] ++ b from rfl, dig_append] at h2; simp only [Bool.and_eq_true] at h2; exact h2.2
    have b1 := dval_lt a k1
    have b2 := dval_lt b k2
    rw [← hl'] at b2 e2
    have hT : 0 < 10 ^ a.length := Nat.pow_pos (by decide)
    rw [List.singleton_append] at e1 e2
    rw [e1, e2] at hd
    have q1 : (dval [x] * 10 ^ a.length + dval a) / 10 ^ a.length = dval [x] := by rw [Nat.mul_comm, Nat.mul_add_div hT, Nat.div_eq_of_lt b1]; omega
    have q2 : (dval [y] * 10 ^ a.length + dval b) / 10 ^ a.length = dval [y] := by rw [Nat.mul_comm, Nat.mul_add_div hT, Nat.div_eq_of_lt b2]; omega
    have hxy : dval [x] = dval [y] := by rw [← q1, ← q2, hd]
    rw [hxy] at hd
    have hab : dval a = dval b := by omega
    have m1 := dig_at_mem h1 x (by simp)
    have m2 := dig_at_mem h2 y (by simp)
    have d1 : dval [x] = x.toNat - 48 := by simp [dval, dvalFrom]
    have d2 : dval [y] = y.toNat - 48 := by simp [dval, dvalFrom]
    rw [show x = y from UInt8.toNat_inj.1 (by omega), dval_inj a b k1 k2 hl' hab]
theorem trim_last (G : List UInt8) (c : UInt8) (hc : c ≠ 48) (k : Nat) : Lib.trimRightB (G ++ [c] ++ List.replicate k 48) 48 = G ++ [c] := by
  unfold Lib.trimRightB
  rw [List.reverse_append, List.reverse_replicate]
  have key : ∀ k, (List.replicate k (48 : UInt8) ++ (G ++ [c]).reverse).dropWhile (· == 48) = (G ++ [c]).reverse := by
    intro k
    induction k with
    | zero =>
      rw [List.replicate_zero, List.nil_append, List.reverse_append, List.reverse_singleton, List.singleton_append, List.dropWhile_cons_of_neg (by simpa using hc)]
    | succ k ih => rw [List.replicate_succ, List.cons_append, List.dropWhile_cons_of_pos (by simp), ih]
  rw [key, List.reverse_reverse]
theorem dvd_of {p q : Int} (hv : Nm.vld p q = true) (p0 : 0 ≤ p) (D i : Nat) (hi : i ≤ 5) (h : ((D : Nat) : Int) * q = p % q * ((10 ^ i : Nat) : Int)) : 100000 % q = 0 := by
  obtain ⟨q1, q2, -, p2⟩ := vld_pos hv
  have hg : Nat.gcd p.natAbs q.natAbs = 1 := by unfold Nm.vld at hv; simp only [decide_eq_true_eq] at hv; exact hv.2.2.2.2
  obtain ⟨P, rfl⟩ : ∃ P : Nat, p = P := ⟨p.toNat, by omega⟩
  obtain ⟨Q, rfl⟩ : ∃ Q : Nat, q = Q := ⟨q.toNat, by omega⟩
  rw [Int.natAbs_natCast, Int.natAbs_natCast, Nat.gcd_comm, Nat.gcd_rec] at hg
  have h2 : D * Q = P % Q * 10 ^ i := by
    have : ((D * Q : Nat) : Int) = ((P % Q * 10 ^ i : Nat) : Int) := by rw [Int.natCast_mul, Int.natCast_mul, Int.natCast_emod]; exact h
    omega
  have d1 : Q ∣ P % Q * 10 ^ i := ⟨D, by rw [← h2, Nat.mul_comm]⟩
  have d2 : Q ∣ 10 ^ i := Nat.Coprime.dvd_of_dvd_mul_left (by rw [Nat.coprime_comm]; exact hg) d1
  have d3 : Q ∣ 10 ^ 5 := Nat.dvd_trans d2 (Nat.pow_dvd_pow 10 hi)
  exact Int.emod_eq_zero_of_dvd (show ((Q : Nat) : Int) ∣ ((10 ^ 5 : Nat) : Int) from Int.natCast_dvd_natCast.2 d3)
/-- Digits that end as they should are those that are written. -/
theorem digs_spell {p q : Int} (hv : Nm.vld p q = true) (p0 : 0 ≤ p) (hpq : p / q < 1000000000) (G : List UInt8) (c : UInt8) (hg : dig (G ++ [c]) = true) (hc : c ≠ 48) (hl : (G ++ [c]).length ≤ 5)
    (h : ((dval (G ++ [c]) : Nat) : Int) * q = p % q * ((10 ^ (G ++ [c]).length : Nat) : Int)) : decB p q = true ∧ spellN p q = Lib.itoa (p / q) ++ 46 :: (G ++ [c]) := by
  obtain ⟨q1, q2, -, p2⟩ := vld_pos hv
  have hdv := dvd_of hv p0 _ _ hl h
  have hd : decB p q = true := by unfold decB; simp [hv, p0, hpq, hdv]
  refine ⟨hd, ?_⟩
  have q3 := div_le q1 hdv
  obtain ⟨r0, r1, d0, m0, m1⟩ := rest_bd p0 q1 q3
  have hc2 := dig_at_mem hg c (by simp)
  have hc3 : c.toNat ≠ 48 := fun e => hc (UInt8.toNat_inj.1 e)
  have hpos : 0 < dval (G ++ [c]) := by rw [dval_snoc]; omega
  have hm : p % q ≠ 0 := by
    intro e
    rw [e, Int.zero_mul] at h
    rcases Int.mul_eq_zero.1 h with h | h <;> omega
  unfold spellN
  rw [if_neg hm]
  obtain ⟨R, hR⟩ : ∃ R : Nat, p % q * (100000 / q) = R := ⟨(p % q * (100000 / q)).toNat, by omega⟩
  obtain ⟨G5, hG5, g1, g2, g3⟩ := dec_six R (by omega)
  obtain ⟨k, hk⟩ : ∃ k, (G ++ [c]).length + k = 5 := ⟨5 - (G ++ [c]).length, by omega⟩
  have hRq : (R : Int) * q = p % q * 100000 := by
    have h5 : 100000 / q * q = 100000 := by have := Int.mul_ediv_add_emod 100000 q; rw [hdv] at this; rw [Int.mul_comm]; omega
    rw [← hR, Int.mul_assoc, h5]
  have e5 : ((10 ^ (G ++ [c]).length : Nat) : Int) * ((10 ^ k : Nat) : Int) = 100000 := by
    rw [← Int.natCast_mul, ← Nat.pow_add, hk]; rfl
  have hRD : (R : Int) = ((dval (G ++ [c]) * 10 ^ k : Nat) : Int) := by
    apply Int.eq_of_mul_eq_mul_right (show q ≠ 0 by omega)
    rw [hRq, ← e5, ← Int.mul_assoc, ← h, Int.natCast_mul, Int.mul_assoc, Int.mul_comm q, ← Int.mul_assoc]
  have e : G5 = G ++ [c] ++ List.replicate k 48 := by
    apply dval_inj _ _ g2
    · rw [dig_append, hg, Bool.true_and]
      simp [dig]
    · rw [g1, List.length_append, List.length_replicate]; omega
    · rw [g3, dval_app3, dval_zeros, List.length_replicate]; omega
  rw [hR, show (100000 : Int) + (R : Int) = ((100000 + R : Nat) : Int) by omega, Lib.itoa_nonneg, hG5, List.drop_one, List.tail_cons, e, trim_last _ _ hc]
theorem digs_whole {p q : Int} (hv : Nm.vld p q = true) (p0 : 0 ≤ p) (hpq : p / q < 1000000000) (hm : p % q = 0) : decB p q = true ∧ spellN p q = Lib.itoa (p / q) := by
  have hdv := dvd_of hv p0 0 0 (by omega) (by rw [hm]; simp)
  exact ⟨by unfold decB; simp [hv, p0, hpq, hdv], by unfold spellN; rw [if_pos hm, List.append_nil]⟩
theorem digs_no {p q r : Int} (_hv : Nm.vld p q = true) (D : Nat) (h : ((D : Nat) : Int) * q + r = p % q * 100000) (r0 : 0 < r) (r1 : r < q) : decB p q = false := by
  have : 100000 % q ≠ 0 := by
    intro e
    have d1 : q ∣ 100000 := Int.dvd_of_emod_eq_zero e
    have d2 : q ∣ p % q * 100000 := Int.dvd_trans d1 (Int.dvd_mul_left _ _)
    rw [← h] at d2
    have d3 : q ∣ r := (Int.dvd_add_right (Int.dvd_mul_left _ _)).1 d2
    have := Int.le_of_dvd r0 d3
    omega
  unfold decB; simp [this]
theorem dec_long (k n : Nat) (h : 10 ^ k ≤ n) : k + 1 ≤ (Lib.decDigits n).length := by
  obtain ⟨h1, h2, -⟩ := dec_dig n
  have := dval_lt _ h1
  rw [h2] at this
  refine Nat.lt_of_not_le fun hle => ?_
  have := Nat.pow_le_pow_right (n := 10) (by decide) hle
  omega
/-- One digit more. -/
theorem digs_step {p q r : Int} {G : List UInt8} {i : Nat} (hq : 1 ≤ q) (r0 : 0 < r) (r1 : r < q) (_hl : G.length = i) (hg : dig G = true) (h : ((dval G : Nat) : Int) * q + r = p % q * ((10 ^ i : Nat) : Int)) :
    ∃ d : Nat, r * 10 / q = d ∧ d < 10 ∧ 0 ≤ r * 10 % q ∧ r * 10 % q < q ∧ (r * 10 % q = 0 → 0 < d) ∧ dig (G ++ [UInt8.ofNat (48 + d)]) = true ∧ ((dval (G ++ [UInt8.ofNat (48 + d)]) : Nat) : Int) * q + r * 10 % q = p % q * ((10 ^ (i + 1) : Nat) : Int) := by
  have m0 := Int.emod_nonneg (r * 10) (show q ≠ 0 by omega)
  have m1 := Int.emod_lt_of_pos (r * 10) (show 0 < q by omega)
  have hs := Int.mul_ediv_add_emod (r * 10) q
  have hd0 : 0 ≤ r * 10 / q := Int.ediv_nonneg (by omega) (by omega)
  have hd1 : r * 10 / q < 10 := Int.ediv_lt_of_lt_mul (by omega) (by omega)
  obtain ⟨d, hd⟩ : ∃ d : Nat, r * 10 / q = d := ⟨(r * 10 / q).toNat, by omega⟩
  rw [hd] at hs hd1
  have hdt : d < 10 := by omega
  have hc : (UInt8.ofNat (48 + d)).toNat = 48 + d := by rw [UInt8.toNat_ofNat']; omega
  refine ⟨d, hd, hdt, m0, m1, fun e => ?_, ?_, ?_⟩
  · rcases Nat.eq_zero_or_pos d with h0 | h0
    · rw [h0, e] at hs; simp at hs; omega
    · exact h0
  · rw [dig_snoc, hg, hc]; simp; omega
  · rw [dval_snoc, hc, show 48 + d - 48 = d by omega, Nat.pow_succ, Int.natCast_mul, ← Int.mul_assoc, ← h, Int.natCast_add, Int.natCast_mul, Int.add_mul, Int.add_mul]
    have h3 : ((10 : Nat) : Int) * (dval G : Int) * q = (dval G : Int) * q * ((10 : Nat) : Int) := by rw [Int.mul_comm ((10 : Nat) : Int), Int.mul_assoc, Int.mul_comm ((10 : Nat) : Int), ← Int.mul_assoc]
    rw [h3, Int.mul_comm (d : Int) q]
    omega
end Lx
end Go.Proofs.YtcgiibjkonleeaaGreatDoor
