/-
  The reference of layer 3: digits of a number in decimals, their mathematics.
  Contracts of the reference of layer 3: numbers in decimals.
  Contracts of the reference of layer 3: tokens that are valid.
-/
import Derived.Test.YtnhcjgnohnedaaaGreatDoorLxM6
import Derived.Test.YtnhcjgnohnedaaaGreatDoorLrH
import Derived.Test.YtnhcjgnohnedaaaGreatDoorNRef2
namespace Go.Proofs.YtnhcjgnohnedaaaGreatDoor
namespace Lx

theorem dval_inj : ∀ (a b : List UInt8), dig a = true → dig b = true → a.length = b.length → dval a = dval b → a = b
  | [], [], _, _, _, _ => rfl
  | [], _ :: _, _, _, h, _ => by simp at h
  | _ :: _, [], _, _, h, _ => by simp at h
  | x :: a, y :: b, h1, h2, hl, hd => by
    have e1 := dval_app3 [x] a
    have e2 := dval_app3 [y] b
    have hl' : a.length = b.length := by simpa using hl
    have k1 : dig a = true := by rw [show x :: a = [x] ++ a from rfl, dig_append] at h1; simp only [Bool.and_eq_true] at h1; exact h1.2
    have k2 : dig b = true := by rw [show y :: b = [y] ++ b from rfl, dig_append] at h2; simp only [Bool.and_eq_true] at h2; exact h2.2
    have b1 := dval_lt a k1
    have b2 := dval_lt b k2
    rw [← hl'] at b2 e2
    have hT : 0 < 10 ^ a.length := Nat.pow_pos (by decide)
    rw [List.singleton_append] at e1 e2
    rw [e1, e2] at hd
    have q1 : (dval [x] * 10 ^ a.length + dval a) / 10 ^ a.length = dval [x] := by rw [Nat.mul_comm, Nat.mul_add_div hT, Nat.div_eq_of_lt b1]; omega
    have q2 : (dval [y] * 10 ^ a.length + dval b) / 10 ^ a.length = dval [y] := by rw [Nat.mul_comm, Nat.mul_add_div hT, Nat.div_eq_of_lt b2]; omega
    have hxy : dval [x] = dval [y] := by rw [← q1, ← q2, hd]
    rw [hxy] at hd
    have hab : dval a = dval b := by omega
    have m1 := dig_at_mem h1 x (by simp)
    have m2 := dig_at_mem h2 y (by simp)
    have d1 : dval [x] = x.toNat - 48 := by simp [dval, dvalFrom]
    have d2 : dval [y] = y.toNat - 48 := by simp [dval, dvalFrom]
    rw [show x = y from UInt8.toNat_inj.1 (by omega), dval_inj a b k1 k2 hl' hab]
theorem trim_last (G : List UInt8) (c : UInt8) (hc : c ≠ 48) (k : Nat) : Lib.trimRightB (G ++ [c] ++ List.replicate k 48) 48 = G ++ [c] := by
  unfold Lib.trimRightB
  rw [List.reverse_append, List.reverse_replicate]
  have key : ∀ k, (List.replicate k (48 : UInt8) ++ (G ++ [c]).reverse).dropWhile (· == 48) = (G ++ [c]).reverse := by
    intro k
    induction k with
    | zero =>
      rw [List.replicate_zero, List.nil_append, List.reverse_append, List.reverse_singleton, List.singleton_append, List.dropWhile_cons_of_neg (by simpa using hc)]
    | succ k ih => rw [List.replicate_succ, List.cons_append, List.dropWhile_cons_of_pos (by simp), ih]
  rw [key, List.reverse_reverse]
theorem dvd_of {p q : Int} (hv : Nm.vld p q = true) (p0 : 0 ≤ p) (D i : Nat) (hi : i ≤ 5) (h : ((D : Nat) : Int) * q = p % q * ((10 ^ i : Nat) : Int)) : 100000 % q = 0 := by
  obtain ⟨q1, q2, -, p2⟩ := vld_pos hv
  have hg : Nat.gcd p.natAbs q.natAbs = 1 := by unfold Nm.vld at hv; simp only [decide_eq_true_eq] at hv; exact hv.2.2.2.2
  obtain ⟨P, rfl⟩ : ∃ P : Nat, p = P := ⟨p.toNat, by omega⟩
  obtain ⟨Q, rfl⟩ : ∃ Q : Nat, q = Q := ⟨q.toNat, by omega⟩
  rw [Int.natAbs_natCast, Int.natAbs_natCast, Nat.gcd_comm, Nat.gcd_rec] at hg
  have h2 : D * Q = P % Q * 10 ^ i := by
    have : ((D * Q : Nat) : Int) = ((P % Q * 10 ^ i : Nat) : Int) := by rw [Int.natCast_mul, Int.natCast_mul, Int.natCast_emod]; exact h
    omega
  have d1 : Q ∣ P % Q * 10 ^ i := ⟨D, by rw [← h2, Nat.mul_comm]⟩
  have d2 : Q ∣ 10 ^ i := Nat.Coprime.dvd_of_dvd_mul_left (by rw [Nat.coprime_comm]; exact hg) d1
  have d3 : Q ∣ 10 ^ 5 := Nat.dvd_trans d2 (Nat.pow_dvd_pow 10 hi)
  exact Int.emod_eq_zero_of_dvd (show ((Q : Nat) : Int) ∣ ((10 ^ 5 : Nat) : Int) from Int.natCast_dvd_natCast.2 d3)
/-- Digits that end as they should are those that are written. -/
theorem digs_spell {p q : Int} (hv : Nm.vld p q = true) (p0 : 0 ≤ p) (hpq : p / q < 1000000000) (G : List UInt8) (c : UInt8) (hg : dig (G ++ [c]) = true) (hc : c ≠ 48) (hl : (G ++ [c]).length ≤ 5)
    (h : ((dval (G ++ [c]) : Nat) : Int) * q = p % q * ((10 ^ (G ++ [c]).length : Nat) : Int)) : decB p q = true ∧ spellN p q = Lib.itoa (p / q) ++ 46 :: (G ++ [c]) := by
  obtain ⟨q1, q2, -, p2⟩ := vld_pos hv
  have hdv := dvd_of hv p0 _ _ hl h
  have hd : decB p q = true := by unfold decB; simp [hv, p0, hpq, hdv]
  refine ⟨hd, ?_⟩
  have q3 := div_le q1 hdv
  obtain ⟨r0, r1, d0, m0, m1⟩ := rest_bd p0 q1 q3
  have hc2 := dig_at_mem hg c (by simp)
  have hc3 : c.toNat ≠ 48 := fun e => hc (UInt8.toNat_inj.1 e)
  have hpos : 0 < dval (G ++ [c]) := by rw [dval_snoc]; omega
  have hm : p % q ≠ 0 := by
    intro e
    rw [e, Int.zero_mul] at h
    rcases Int.mul_eq_zero.1 h with h | h <;> omega
  unfold spellN
  rw [if_neg hm]
  obtain ⟨R, hR⟩ : ∃ R : Nat, p % q * (100000 / q) = R := ⟨(p % q * (100000 / q)).toNat, by omega⟩
  obtain ⟨G5, hG5, g1, g2, g3⟩ := dec_six R (by omega)
  obtain ⟨k, hk⟩ : ∃ k, (G ++ [c]).length + k = 5 := ⟨5 - (G ++ [c]).length, by omega⟩
  have hRq : (R : Int) * q = p % q * 100000 := by
    have h5 : 100000 / q * q = 100000 := by have := Int.mul_ediv_add_emod 100000 q; rw [hdv] at this; rw [Int.mul_comm]; omega
    rw [← hR, Int.mul_assoc, h5]
  have e5 : ((10 ^ (G ++ [c]).length : Nat) : Int) * ((10 ^ k : Nat) : Int) = 100000 := by
    rw [← Int.natCast_mul, ← Nat.pow_add, hk]; rfl
  have hRD : (R : Int) = ((dval (G ++ [c]) * 10 ^ k : Nat) : Int) := by
    apply Int.eq_of_mul_eq_mul_right (show q ≠ 0 by omega)
    rw [hRq, ← e5, ← Int.mul_assoc, ← h, Int.natCast_mul, Int.mul_assoc, Int.mul_comm q, ← Int.mul_assoc]
  have e : G5 = G ++ [c] ++ List.replicate k 48 := by
    apply dval_inj _ _ g2
    · rw [dig_append, hg, Bool.true_and]
      simp [dig]
    · rw [g1, List.length_append, List.length_replicate]; omega
    · rw [g3, dval_app3, dval_zeros, List.length_replicate]; omega
  rw [hR, show (100000 : Int) + (R : Int) = ((100000 + R : Nat) : Int) by omega, Lib.itoa_nonneg, hG5, List.drop_one, List.tail_cons, e, trim_last _ _ hc]
theorem digs_whole {p q : Int} (hv : Nm.vld p q = true) (p0 : 0 ≤ p) (hpq : p / q < 1000000000) (hm : p % q = 0) : decB p q = true ∧ spellN p q = Lib.itoa (p / q) := by
  have hdv := dvd_of hv p0 0 0 (by omega) (by rw [hm]; simp)
  exact ⟨by unfold decB; simp [hv, p0, hpq, hdv], by unfold spellN; rw [if_pos hm, List.append_nil]⟩
theorem digs_no {p q r : Int} (_hv : Nm.vld p q = true) (D : Nat) (h : ((D : Nat) : Int) * q + r = p % q * 100000) (r0 : 0 < r) (r1 : r < q) : decB p q = false := by
  have : 100000 % q ≠ 0 := by
    intro e
    have d1 : q ∣ 100000 := Int.dvd_of_emod_eq_zero e
    have d2 : q ∣ p % q * 100000 := Int.dvd_trans d1 (Int.dvd_mul_left _ _)
    rw [← h] at d2
    have d3 : q ∣ r := (Int.dvd_add_right (Int.dvd_mul_left _ _)).1 d2
    have := Int.le_of_dvd r0 d3
    omega
  unfold decB; simp [this]
theorem dec_long (k n : Nat) (h : 10 ^ k ≤ n) : k + 1 ≤ (Lib.decDigits n).length := by
  obtain ⟨h1, h2, -⟩ := dec_dig n
  have := dval_lt _ h1
  rw [h2] at this
  refine Nat.lt_of_not_le fun hle => ?_
  have := Nat.pow_le_pow_right (n := 10) (by decide) hle
  omega
/-- One digit more. -/
theorem digs_step {p q r : Int} {G : List UInt8} {i : Nat} (hq : 1 ≤ q) (r0 : 0 < r) (r1 : r < q) (_hl : G.length = i) (hg : dig G = true) (h : ((dval G : Nat) : Int) * q + r = p % q * ((10 ^ i : Nat) : Int)) :
    ∃ d : Nat, r * 10 / q = d ∧ d < 10 ∧ 0 ≤ r * 10 % q ∧ r * 10 % q < q ∧ (r * 10 % q = 0 → 0 < d) ∧ dig (G ++ [UInt8.ofNat (48 + d)]) = true ∧ ((dval (G ++ [UInt8.ofNat (48 + d)]) : Nat) : Int) * q + r * 10 % q = p % q * ((10 ^ (i + 1) : Nat) : Int) := by
  have m0 := Int.emod_nonneg (r * 10) (show q ≠ 0 by omega)
  have m1 := Int.emod_lt_of_pos (r * 10) (show 0 < q by omega)
  have hs := Int.mul_ediv_add_emod (r * 10) q
  have hd0 : 0 ≤ r * 10 / q := Int.ediv_nonneg (by omega) (by omega)
  have hd1 : r * 10 / q < 10 := Int.ediv_lt_of_lt_mul (by omega) (by omega)
  obtain ⟨d, hd⟩ : ∃ d : Nat, r * 10 / q = d := ⟨(r * 10 / q).toNat, by omega⟩
  rw [hd] at hs hd1
  have hdt : d < 10 := by omega
  have hc : (UInt8.ofNat (48 + d)).toNat = 48 + d := by rw [UInt8.toNat_ofNat']; omega
  refine ⟨d, hd, hdt, m0, m1, fun e => ?_, ?_, ?_⟩
  · rcases Nat.eq_zero_or_pos d with h0 | h0
    · rw [h0, e] at hs; simp at hs; omega
    · exact h0
  · rw [dig_snoc, hg, hc]; simp; omega
  · rw [dval_snoc, hc, show 48 + d - 48 = d by omega, Nat.pow_succ, Int.natCast_mul, ← Int.mul_assoc, ← h, Int.natCast_add, Int.natCast_mul, Int.add_mul, Int.add_mul]
    have h3 : ((10 : Nat) : Int) * (dval G : Int) * q = (dval G : Int) * q * ((10 : Nat) : Int) := by rw [Int.mul_comm ((10 : Nat) : Int), Int.mul_assoc, Int.mul_comm ((10 : Nat) : Int), ← Int.mul_assoc]
    rw [h3, Int.mul_comm (d : Int) q]
    omega
end Lx
end Go.Proofs.YtnhcjgnohnedaaaGreatDoor

namespace Go.Proofs.YtnhcjgnohnedaaaGreatDoor
open Go.RowKit

def digV (b : Bool) (s : List UInt8) : Value := .tuple #[.string ⟨s.toArray⟩, .bool b]
theorem ret_dig {a : ByteArray} {s : List UInt8} {b c : Bool} (h : a = ⟨s.toArray⟩) (h2 : b = c) : Ending.returned (.tuple #[.string a, .bool b]) = .returned (digV c s) := by rw [h, h2]; rfl
theorem vld_one {x : Int} (h0 : 0 ≤ x) (h1 : x ≤ 2147483647) : Nm.vld x 1 = true := by
  unfold Nm.vld
  rw [decide_eq_true_eq]
  exact ⟨by omega, by omega, by omega, by omega, by simp [Nm.gcdn]⟩
theorem txt_one {x : Int} (h : 0 ≤ x) : txt x 1 = Lib.decDigits x.toNat := by
  obtain ⟨n, rfl⟩ : ∃ n : Nat, x = n := ⟨x.toNat, by omega⟩
  rw [txt, if_pos rfl, Lib.itoa_nonneg]; rfl
set_option maxHeartbeats 4000000 in
theorem rdig_inv (p q : Int) (w : World) (h1 : -9223372036854775808 ≤ p) (h2 : p ≤ 9223372036854775807) (h3 : -9223372036854775808 ≤ q) (h4 : q ≤ 9223372036854775807) (hv : Nm.vld p q = false) :
    Calls Tryz.prog 46 #[.agg #[.int .i64 p, .int .i64 q]] w fun e w' => e = .returned (digV false []) ∧ Below w.heap.size w w' := by
  have HV := Lib.hid (fun W => rvalid_any p q W h1 h2 h3 h4)
  rw [hv] at HV
  clear hv
  go_enter Tryz.func46, Tryz.ntmps46
  go_wp2_with fail
  refine (HV.out _).mono ?_; rintro e w1 ⟨rfl, hb⟩; have hz1 := hb.size; simp at hz1; have h2 := (hb.block w.heap.size (by simp)).trans (heap_alloc_new w _); have B1 := Lib.hid (((Below.refl w.heap.size w).alloc (Nat.le_refl _) (.cells #[.int .i64 p, .int .i64 q] 39)).trans (hb.mono (by simp))); have K1 := Lib.hid h2; obtain ⟨⟨z0, z1⟩, hlt⟩ := blk2 h2; clear hb h2
  clear z0 z1
  go_wp2_with fail
  go_ret2
  exact ⟨rfl, B1.out⟩
set_option maxHeartbeats 4000000 in
theorem rdig_neg (p q : Int) (w : World) (hv : Nm.vld p q = true) (hp : p < 0) :
    Calls Tryz.prog 46 #[.agg #[.int .i64 p, .int .i64 q]] w fun e w' => e = .returned (digV false []) ∧ Below w.heap.size w w' := by
  obtain ⟨q1, q2, p1, p2⟩ := vld_pos hv
  have HV := Lib.hid (fun W => rvalid_any p q W (by omega) (by omega) (by omega) (by omega))
  rw [hv] at HV
  clear hv
  go_enter Tryz.func46, Tryz.ntmps46
  go_wp2_with fail
  refine (HV.out _).mono ?_; rintro e w1 ⟨rfl, hb⟩; have hz1 := hb.size; simp at hz1; have h2 := (hb.block w.heap.size (by simp)).trans (heap_alloc_new w _); have B1 := Lib.hid (((Below.refl w.heap.size w).alloc (Nat.le_refl _) (.cells #[.int .i64 p, .int .i64 q] 39)).trans (hb.mono (by simp))); have K1 := Lib.hid h2; obtain ⟨⟨z0, z1⟩, hlt⟩ := blk2 h2; clear hb h2
  go_wp2_with fail
  go_ret2
  exact ⟨rfl, B1.out⟩
set_option maxHeartbeats 4000000 in
theorem rdig_big (p q : Int) (w : World) (hv : Nm.vld p q = true) (hp : 0 ≤ p) (hb9 : 1000000000 ≤ p / q) :
    Calls Tryz.prog 46 #[.agg #[.int .i64 p, .int .i64 q]] w fun e w' => e = .returned (digV false []) ∧ Below w.heap.size w w' := by
  obtain ⟨q1, q2, p1, p2⟩ := vld_pos hv; have HV := Lib.hid (fun W => rvalid_any p q W (by omega) (by omega) (by omega) (by omega)); have hW0 : 0 ≤ p / q := Int.ediv_nonneg hp (by omega); have hW1 : p / q ≤ p := Int.ediv_le_self q hp; have HT := Lib.hid (fun W => rtext_ok (p / q) 1 W (vld_one hW0 (by omega))); have hm0 := Int.emod_nonneg p (show q ≠ 0 by omega); have hm1 := Int.emod_lt_of_pos p (show 0 < q by omega); have htx := txt_one hW0; rw [htx] at HT
  have hlen : 9 < (⟨(Lib.decDigits (p / q).toNat).toArray⟩ : ByteArray).size := by rw [ba_size]; exact Lx.dec_long 9 _ (by omega)
  have hlen2 : (⟨(Lib.decDigits (p / q).toNat).toArray⟩ : ByteArray).size ≤ 21 := by rw [ba_size]; exact dec_lenN _ (by omega)
  rw [hv] at HV
  generalize hW : p / q = W0 at *
  generalize (⟨(Lib.decDigits W0.toNat).toArray⟩ : ByteArray) = S at HT hlen hlen2
  clear hv htx
  go_enter Tryz.func46, Tryz.ntmps46
  go_wp2_with fail
  refine (HV.out _).mono ?_; rintro e w1 ⟨rfl, hb⟩; have hz1 := hb.size; simp at hz1; have h2 := (hb.block w.heap.size (by simp)).trans (heap_alloc_new w _); have B1 := Lib.hid (((Below.refl w.heap.size w).alloc (Nat.le_refl _) (.cells #[.int .i64 p, .int .i64 q] 39)).trans (hb.mono (by simp))); have K1 := Lib.hid h2; obtain ⟨⟨z0, z1⟩, hlt⟩ := blk2 h2; clear hb h2
  go_wp2_with fail
  refine (HT.out _).mono ?_; rintro e w2 ⟨rfl, hb⟩; have h2 := (hb.block w.heap.size (by omega)).trans K1.out; have B2 := Lib.hid (B1.out.trans (hb.mono B1.out.size)); obtain ⟨⟨z0, z1⟩, hlt⟩ := blk2 h2; clear hb h2 K1
  go_wp2_with fail
  go_ret2
  exact ⟨rfl, B2.out⟩
set_option maxHeartbeats 4000000 in
theorem rdig_whole (p q : Int) (w : World) (hv : Nm.vld p q = true) (hp : 0 ≤ p) (hb9 : p / q < 1000000000) (hm : p % q = 0) :
    Calls Tryz.prog 46 #[.agg #[.int .i64 p, .int .i64 q]] w fun e w' => e = .returned (digV true (Lx.spellN p q)) ∧ Below w.heap.size w w' := by
  have HS := Lib.hid (Lx.digs_whole hv hp hb9 hm).2
  obtain ⟨q1, q2, p1, p2⟩ := vld_pos hv; have HV := Lib.hid (fun W => rvalid_any p q W (by omega) (by omega) (by omega) (by omega)); have hW0 : 0 ≤ p / q := Int.ediv_nonneg hp (by omega); have hW1 : p / q ≤ p := Int.ediv_le_self q hp; have HT := Lib.hid (fun W => rtext_ok (p / q) 1 W (vld_one hW0 (by omega))); have hm0 := Int.emod_nonneg p (show q ≠ 0 by omega); have hm1 := Int.emod_lt_of_pos p (show 0 < q by omega); have htx := txt_one hW0; rw [htx] at HT
  have hlen2 : (⟨(Lib.decDigits (p / q).toNat).toArray⟩ : ByteArray).size ≤ 9 := by rw [ba_size]; exact Lx.dec_short 8 _ (by omega)
  have HE : Hid ((⟨(Lib.decDigits (p / q).toNat).toArray⟩ : ByteArray) = ⟨(Lx.spellN p q).toArray⟩) := by
    show _ = _
    rw [HS.out, ← htx, txt, if_pos rfl]
  rw [hv] at HV
  generalize hW : p / q = W0 at *
  generalize (⟨(Lib.decDigits W0.toNat).toArray⟩ : ByteArray) = S at HT hlen2 HE
  have e1 : (p % q == 0) = true := by simpa using hm
  generalize hM : p % q = M at *
  clear hv htx HS
  go_enter Tryz.func46, Tryz.ntmps46
  go_wp2_with fail
  refine (HV.out _).mono ?_; rintro e w1 ⟨rfl, hb⟩; have hz1 := hb.size; simp at hz1; have h2 := (hb.block w.heap.size (by simp)).trans (heap_alloc_new w _); have B1 := Lib.hid (((Below.refl w.heap.size w).alloc (Nat.le_refl _) (.cells #[.int .i64 p, .int .i64 q] 39)).trans (hb.mono (by simp))); have K1 := Lib.hid h2; obtain ⟨⟨z0, z1⟩, hlt⟩ := blk2 h2; clear hb h2
  go_wp2_with fail
  refine (HT.out _).mono ?_; rintro e w2 ⟨rfl, hb⟩; have h2 := (hb.block w.heap.size (by omega)).trans K1.out; have B2 := Lib.hid (B1.out.trans (hb.mono B1.out.size)); obtain ⟨⟨z0, z1⟩, hlt⟩ := blk2 h2; clear hb h2 K1
  go_wp2_with fail
  go_ret2
  exact ⟨ret_dig HE.out rfl, B2.out⟩
/-- What holds at each round of Digits' loop. -/
structure DRnd (p q : Int) (W : List UInt8) (i : Nat) (r : Int) (S : ByteArray) (G : List UInt8) : Prop where
  r0 : 0 < r
  r1 : r < q
  len : G.length = i
  dg : dig G = true
  val : ((dval G : Nat) : Int) * q + r = p % q * ((10 ^ i : Nat) : Int)
  str : S = ⟨(W ++ 46 :: G).toArray⟩
set_option maxRecDepth 100000 in
set_option maxHeartbeats 8000000 in
theorem rdig_loop (p q : Int) (w : World) (hv : Nm.vld p q = true) (hp : 0 ≤ p) (hb9 : p / q < 1000000000) (hm : p % q ≠ 0) :
    Calls Tryz.prog 46 #[.agg #[.int .i64 p, .int .i64 q]] w fun e w' => e = .returned (digV (Lx.decB p q) (if Lx.decB p q = true then Lx.spellN p q else [])) ∧ Below w.heap.size w w' := by
  obtain ⟨q1, q2, p1, p2⟩ := vld_pos hv; have HV := Lib.hid (fun W => rvalid_any p q W (by omega) (by omega) (by omega) (by omega)); have hW0 : 0 ≤ p / q := Int.ediv_nonneg hp (by omega); have hW1 : p / q ≤ p := Int.ediv_le_self q hp; have HT := Lib.hid (fun W => rtext_ok (p / q) 1 W (vld_one hW0 (by omega))); have hm0 := Int.emod_nonneg p (show q ≠ 0 by omega); have hm1 := Int.emod_lt_of_pos p (show 0 < q by omega); have htx := txt_one hW0; rw [htx] at HT
  have hlen2 : (Lib.decDigits (p / q).toNat).length ≤ 9 := Lx.dec_short 8 _ (by omega)
  have HIT : Hid (Lib.itoa (p / q) = Lib.decDigits (p / q).toNat) := by rw [← htx, txt, if_pos rfl]; rfl
  have HSP := Lib.hid (fun G c => Lx.digs_spell hv hp hb9 G c)
  have HNO := Lib.hid (fun r D => Lx.digs_no (r := r) hv D)
  obtain ⟨WL, hWL⟩ : ∃ WL, WL = Lib.decDigits (p / q).toNat := ⟨_, rfl⟩
  rw [← hWL] at HT hlen2 HIT
  have R0 : Hid (DRnd p q WL 0 (p % q) ((⟨WL.toArray⟩ : ByteArray) ++ ⟨#[46]⟩) []) := ⟨by omega, hm1, rfl, rfl, by simp [dval, dvalFrom], by apply ByteArray.ext; simp⟩
  have hs1 : (⟨WL.toArray⟩ : ByteArray).size ≤ 9 := hlen2
  rw [hv] at HV
  have e1 : (p % q == 0) = false := by simpa using hm
  obtain ⟨T, hT⟩ : ∃ T, T = (if Lx.decB p q = true then Lx.spellN p q else []) := ⟨_, rfl⟩
  rw [← hT]
  generalize hSP : Lx.spellN p q = SP at *
  generalize hDB : Lx.decB p q = DB at *
  generalize hW : p / q = W0 at *
  have HTT := Lib.hid hT
  clear hv htx hWL hm hT hSP hDB
  go_enter Tryz.func46, Tryz.ntmps46
  go_wp2_with fail
  refine (HV.out _).mono ?_; rintro e w1 ⟨rfl, hb⟩; have hz1 := hb.size; simp at hz1; have h2 := (hb.block w.heap.size (by simp)).trans (heap_alloc_new w _); have B1 := Lib.hid (((Below.refl w.heap.size w).alloc (Nat.le_refl _) (.cells #[.int .i64 p, .int .i64 q] 39)).trans (hb.mono (by simp))); have K1 := Lib.hid h2; obtain ⟨⟨z0, z1⟩, hlt⟩ := blk2 h2; clear hb h2
  go_wp2_with fail
  refine (HT.out _).mono ?_; rintro e w2 ⟨rfl, hb⟩; have h2 := (hb.block w.heap.size (by omega)).trans K1.out; have B2 := Lib.hid (B1.out.trans (hb.mono B1.out.size)); obtain ⟨⟨z0, z1⟩, hlt⟩ := blk2 h2; clear hb h2 K1
  go_wp2_with fail
  go_loop [6, 4, 7] (fun vr vs vi => ∃ (i : Nat) (r : Int) (S : ByteArray) (G : List UInt8), vi = .int .i64 i ∧ vr = .int .i64 r ∧ vs = .string S ∧ i ≤ 5 ∧ S.size ≤ 10 + i ∧ Hid (DRnd p q WL i r S G)) (fun _ _ vi => 5 - (intOf vi).toNat)
  case atStart => exact ⟨0, _, _, _, rfl, rfl, rfl, by omega, by rw [ByteArray.size_append]; show (⟨WL.toArray⟩ : ByteArray).size + 1 ≤ 10; omega, R0.out⟩
  case round =>
    obtain ⟨i, r, S, G, rfl, rfl, rfl, hi, hsz, hrd⟩ := hrel
    have H := hrd
    clear hrd R0
    have r0 := H.out.r0
    have r1 := H.out.r1
    by_cases hi5 : i < 5
    · obtain ⟨d, hd, hd10, m0, m1, hdp, hdig, hval⟩ := Lx.digs_step (by omega) r0 r1 H.out.len H.out.dg H.out.val
      have HDP := Lib.hid hdp
      have HDG := Lib.hid hdig
      have HVL := Lib.hid hval
      have hen0 := encN ⟨d, hd10⟩
      obtain ⟨dgt, hdg⟩ : ∃ b : ByteArray, b = ⟨#[UInt8.ofNat (48 + d)]⟩ := ⟨_, rfl⟩
      have hen : Utf8.encode (48 + (d : Int)) = dgt := by rw [hdg]; exact hen0
      have hsd : dgt.size = 1 := by rw [hdg]; rfl
      obtain ⟨z, hz⟩ : ∃ z : Int, (d : Int) = z := ⟨_, rfl⟩
      have z0 : 0 ≤ z := by omega
      have z1 : z < 10 := by omega
      rw [hz] at hen hd
      clear hz
      have HST : Hid (S ++ dgt = ⟨(WL ++ 46 :: (G ++ [UInt8.ofNat (48 + d)])).toArray⟩) := by
        show _ = _
        rw [H.out.str, hdg]; apply ByteArray.ext; simp
      have hss : (S ++ dgt).size ≤ 10 + (i + 1) := by rw [ByteArray.size_append]; omega
      obtain ⟨X, hX⟩ : ∃ X, r * 10 % q = X := ⟨_, rfl⟩
      rw [hX] at m0 m1 HDP HVL
      have HD10 := Lib.hid hd10
      clear hdp hdig hval hen0 hdg hd10
      by_cases hx0 : X = 0
      · have ex : (X == 0) = true := by simpa using hx0
        have RES : Hid (DB = true ∧ SP = WL ++ 46 :: (G ++ [UInt8.ofNat (48 + d)])) := by
          have hd0 := HDP.out hx0
          have hd10 := HD10.out
          have hl := H.out.len
          have hv2 := HVL.out
          have := HSP.out G (UInt8.ofNat (48 + d)) HDG.out (by intro e; have := congrArg UInt8.toNat e; rw [UInt8.toNat_ofNat'] at this; have h48 : (48 : UInt8).toNat = 48 := rfl; omega) (by rw [List.length_append]; simp; omega) (by rw [hx0, Int.add_zero] at hv2; rw [hv2, List.length_append, hl]; rfl)
          rw [HIT.out] at this
          exact this
        go_wp2_with fail
        go_ret2
        refine ⟨ret_dig ?_ RES.out.1.symm, B2.out⟩
        rw [HTT.out, RES.out.1, if_pos rfl, RES.out.2]
        exact HST.out
      · have ex : (X == 0) = false := by simpa using hx0
        have NX : Hid (DRnd p q WL (i + 1) X (S ++ dgt) (G ++ [UInt8.ofNat (48 + d)])) := ⟨by omega, m1, by rw [List.length_append, H.out.len]; rfl, HDG.out, HVL.out, HST.out⟩
        go_wp2_with fail
        go_round
        case rel => exact ⟨i + 1, _, _, G ++ [UInt8.ofNat (48 + d)], by go_num, rfl, rfl, by omega, hss, by rw [hX]; exact NX.out⟩
        case measure => simp [intOf]; omega
    · have hdb : Hid (DB = false) := by
        have hv2 := H.out.val
        have : i = 5 := by omega
        rw [this] at hv2
        exact HNO.out r (dval G) hv2 r0 r1
      go_wp2_with fail
      go_ret2
      exact ⟨ret_dig (by rw [HTT.out, hdb.out]; rfl) hdb.out.symm, B2.out⟩
/-- Digits of a number. -/
theorem rdig_any (p q : Int) (w : World) (h1 : -9223372036854775808 ≤ p) (h2 : p ≤ 9223372036854775807) (h3 : -9223372036854775808 ≤ q) (h4 : q ≤ 9223372036854775807) :
    Calls Tryz.prog 46 #[.agg #[.int .i64 p, .int .i64 q]] w fun e w' => e = .returned (digV (Lx.decB p q) (if Lx.decB p q = true then Lx.spellN p q else [])) ∧ Below w.heap.size w w' := by
  cases hv : Nm.vld p q
  · have hd : Lx.decB p q = false := by unfold Lx.decB; rw [hv]; rfl
    rw [hd]; exact rdig_inv p q w h1 h2 h3 h4 hv
  by_cases hp : 0 ≤ p
  · by_cases h9 : p / q < 1000000000
    · by_cases hm : p % q = 0
      · have hd := (Lx.digs_whole hv hp h9 hm).1
        rw [hd, if_pos rfl]; exact rdig_whole p q w hv hp h9 hm
      · exact rdig_loop p q w hv hp h9 hm
    · have hd : Lx.decB p q = false := by unfold Lx.decB; simp [h9]
      rw [hd]; exact rdig_big p q w hv hp (by omega)
  · have hd : Lx.decB p q = false := by unfold Lx.decB; simp [hp]
    rw [hd]; exact rdig_neg p q w hv (by omega)
end Go.Proofs.YtnhcjgnohnedaaaGreatDoor

namespace Go.Proofs.YtnhcjgnohnedaaaGreatDoor
open Go.RowKit

set_option maxHeartbeats 2000000 in
theorem rv_nz (k p q a c : Int) (t : ByteArray) (w : World) (hk : k ≠ 2) (h0 : ¬ (p = 0 ∧ q = 0)) :
    Calls Tryz.prog 31 #[.agg #[.int .i64 k, .string t, .int .i64 p, .int .i64 q, .int .i64 a, .int .i64 c]] w fun e w' => e = .returned (.bool false) ∧ Below w.heap.size w w' := by
  have k2 : (k == 2) = false := by simpa using hk
  have f2 : (k != 2) = true := by simpa using hk
  clear hk
  by_cases hp : p = 0
  · have hq : (q == 0) = false := by simp; exact fun e => h0 ⟨hp, e⟩
    subst hp
    clear h0
    go_enter Tryz.func31, Tryz.ntmps31
    go_wp2_with fail
    go_ret
    exact ⟨rfl, ((Below.refl _ _).alloc (Nat.le_refl _) _)⟩
  · have hp2 : (p == 0) = false := by simpa using hp
    clear h0 hp
    go_enter Tryz.func31, Tryz.ntmps31
    go_wp2_with fail
    go_ret
    exact ⟨rfl, ((Below.refl _ _).alloc (Nat.le_refl _) _)⟩
set_option maxHeartbeats 2000000 in
theorem rv_num_no (p q a c : Int) (t : ByteArray) (w : World) (h1 : -9223372036854775808 ≤ p) (h2 : p ≤ 9223372036854775807) (h3 : -9223372036854775808 ≤ q) (h4 : q ≤ 9223372036854775807) (hd : Lx.decB p q = false) :
    Calls Tryz.prog 31 #[.agg #[.int .i64 2, .string t, .int .i64 p, .int .i64 q, .int .i64 a, .int .i64 c]] w fun e w' => e = .returned (.bool false) ∧ Below w.heap.size w w' := by
  have HA := Lib.hid (fun W => rdig_any p q W h1 h2 h3 h4)
  rw [hd] at HA
  clear hd
  unfold digV at HA
  simp only [Bool.false_eq_true, if_false] at HA
  go_enter Tryz.func31, Tryz.ntmps31
  go_wp2_with fail
  refine (HA.out _).mono ?_; rintro e w' ⟨rfl, hb⟩; have h2 := (hb.block w.heap.size (by simp)).trans (heap_alloc_new w _); have BB := Lib.hid (((Below.refl w.heap.size w).alloc (Nat.le_refl _) (.cells #[.int .i64 2, .string t, .int .i64 p, .int .i64 q, .int .i64 a, .int .i64 c] 41)).trans (hb.mono (by simp))); obtain ⟨⟨z0, z1, z2, z3, z4, z5⟩, -, hlt⟩ := blk6 h2; clear hb h2
  go_wp2_with fail
  go_ret
  exact ⟨rfl, BB.out⟩
set_option maxHeartbeats 2000000 in
theorem rv_num_yes (p q a c : Int) (t : ByteArray) (w : World) (h1 : -9223372036854775808 ≤ p) (h2 : p ≤ 9223372036854775807) (h3 : -9223372036854775808 ≤ q) (h4 : q ≤ 9223372036854775807) (hd : Lx.decB p q = true) (ht : t.toList.isEmpty = true) :
    Calls Tryz.prog 31 #[.agg #[.int .i64 2, .string t, .int .i64 p, .int .i64 q, .int .i64 a, .int .i64 c]] w fun e w' => e = .returned (.bool true) ∧ Below w.heap.size w w' := by
  have HA := Lib.hid (fun W => rdig_any p q W h1 h2 h3 h4)
  rw [hd, if_pos rfl] at HA
  clear hd
  unfold digV at HA
  generalize Lx.spellN p q = S at HA
  go_enter Tryz.func31, Tryz.ntmps31
  go_wp2_with fail
  refine (HA.out _).mono ?_; rintro e w' ⟨rfl, hb⟩; have h2 := (hb.block w.heap.size (by simp)).trans (heap_alloc_new w _); have BB := Lib.hid (((Below.refl w.heap.size w).alloc (Nat.le_refl _) (.cells #[.int .i64 2, .string t, .int .i64 p, .int .i64 q, .int .i64 a, .int .i64 c] 41)).trans (hb.mono (by simp))); obtain ⟨⟨z0, z1, z2, z3, z4, z5⟩, -, hlt⟩ := blk6 h2; clear hb h2
  go_wp2_with fail
  go_ret
  exact ⟨rfl, BB.out⟩
set_option maxHeartbeats 2000000 in
theorem rv_num_full (p q a c : Int) (t : ByteArray) (w : World) (h1 : -9223372036854775808 ≤ p) (h2 : p ≤ 9223372036854775807) (h3 : -9223372036854775808 ≤ q) (h4 : q ≤ 9223372036854775807) (hd : Lx.decB p q = true) (ht : t.toList.isEmpty = false) :
    Calls Tryz.prog 31 #[.agg #[.int .i64 2, .string t, .int .i64 p, .int .i64 q, .int .i64 a, .int .i64 c]] w fun e w' => e = .returned (.bool false) ∧ Below w.heap.size w w' := by
  have HA := Lib.hid (fun W => rdig_any p q W h1 h2 h3 h4)
  rw [hd, if_pos rfl] at HA
  clear hd
  unfold digV at HA
  generalize Lx.spellN p q = S at HA
  go_enter Tryz.func31, Tryz.ntmps31
  go_wp2_with fail
  refine (HA.out _).mono ?_; rintro e w' ⟨rfl, hb⟩; have h2 := (hb.block w.heap.size (by simp)).trans (heap_alloc_new w _); have BB := Lib.hid (((Below.refl w.heap.size w).alloc (Nat.le_refl _) (.cells #[.int .i64 2, .string t, .int .i64 p, .int .i64 q, .int .i64 a, .int .i64 c] 41)).trans (hb.mono (by simp))); obtain ⟨⟨z0, z1, z2, z3, z4, z5⟩, -, hlt⟩ := blk6 h2; clear hb h2
  go_wp2_with fail
  go_ret
  exact ⟨rfl, BB.out⟩
set_option maxHeartbeats 2000000 in
theorem rv_name (a c : Int) (t : ByteArray) (w : World) (ht : t.size ≤ maxLen) :
    Calls Tryz.prog 31 #[.agg #[.int .i64 0, .string t, .int .i64 0, .int .i64 0, .int .i64 a, .int .i64 c]] w fun e w' => e = .returned (.bool (Lx.nameB t.data.toList)) ∧ Below w.heap.size w w' := by
  have HA := Lib.hid (fun W => rname_any t W ht)
  generalize Lx.nameB t.data.toList = b at *
  go_enter Tryz.func31, Tryz.ntmps31
  go_wp2_with fail
  refine (HA.out _).mono ?_; rintro e w' ⟨rfl, rfl⟩
  go_wp2_with fail
  go_ret
  exact ⟨rfl, ((Below.refl _ _).alloc (Nat.le_refl _) _)⟩
set_option maxHeartbeats 2000000 in
theorem rv_word (a c : Int) (t : ByteArray) (w : World) :
    Calls Tryz.prog 31 #[.agg #[.int .i64 1, .string t, .int .i64 0, .int .i64 0, .int .i64 a, .int .i64 c]] w fun e w' => e = .returned (.bool (decide (t.data.toList ∈ Lx.wds))) ∧ Below w.heap.size w w' := by
  have HA := Lib.hid (fun W => rword_any t W)
  generalize decide (t.data.toList ∈ Lx.wds) = b at *
  go_enter Tryz.func31, Tryz.ntmps31
  go_wp2_with fail
  refine (HA.out _).mono ?_; rintro e w' ⟨rfl, hb⟩; have h2 := (hb.block w.heap.size (by simp)).trans (heap_alloc_new w _); have BB := Lib.hid (((Below.refl w.heap.size w).alloc (Nat.le_refl _) (.cells #[.int .i64 1, .string t, .int .i64 0, .int .i64 0, .int .i64 a, .int .i64 c] 41)).trans (hb.mono (by simp))); obtain ⟨⟨z0, z1, z2, z3, z4, z5⟩, -, hlt⟩ := blk6 h2; clear hb h2
  clear z0 z1 z2 z3 z4 z5
  go_wp2_with fail
  go_ret
  exact ⟨rfl, BB.out⟩
set_option maxHeartbeats 2000000 in
theorem rv_sign (a c : Int) (t : ByteArray) (w : World) :
    Calls Tryz.prog 31 #[.agg #[.int .i64 4, .string t, .int .i64 0, .int .i64 0, .int .i64 a, .int .i64 c]] w fun e w' => e = .returned (.bool (decide (t.data.toList ∈ Lx.sgs))) ∧ Below w.heap.size w w' := by
  have HA := Lib.hid (fun W => rsign_any t W)
  generalize decide (t.data.toList ∈ Lx.sgs) = b at *
  go_enter Tryz.func31, Tryz.ntmps31
  go_wp2_with fail
  refine (HA.out _).mono ?_; rintro e w' ⟨rfl, hb⟩; have h2 := (hb.block w.heap.size (by simp)).trans (heap_alloc_new w _); have BB := Lib.hid (((Below.refl w.heap.size w).alloc (Nat.le_refl _) (.cells #[.int .i64 4, .string t, .int .i64 0, .int .i64 0, .int .i64 a, .int .i64 c] 41)).trans (hb.mono (by simp))); obtain ⟨⟨z0, z1, z2, z3, z4, z5⟩, -, hlt⟩ := blk6 h2; clear hb h2
  clear z0 z1 z2 z3 z4 z5
  go_wp2_with fail
  go_ret
  exact ⟨rfl, BB.out⟩
set_option maxHeartbeats 2000000 in
theorem rv_text (a c : Int) (t : ByteArray) (w : World) (hl : t.size ≤ 100) :
    Calls Tryz.prog 31 #[.agg #[.int .i64 3, .string t, .int .i64 0, .int .i64 0, .int .i64 a, .int .i64 c]] w fun e w' => e = .returned (.bool (Lx.allB Lx.quot t.data.toList)) ∧ Below w.heap.size w w' := by
  have HA := Lib.hid (fun W => rplain_any t W (by unfold maxLen; omega))
  generalize Lx.allB Lx.quot t.data.toList = b at *
  go_enter Tryz.func31, Tryz.ntmps31
  go_wp2_with fail
  refine (HA.out _).mono ?_; rintro e w' ⟨rfl, rfl⟩
  go_wp2_with fail
  go_ret
  exact ⟨rfl, ((Below.refl _ _).alloc (Nat.le_refl _) _)⟩
set_option maxHeartbeats 2000000 in
theorem rv_text_l (a c : Int) (t : ByteArray) (w : World) (hl : 100 < t.size) :
    Calls Tryz.prog 31 #[.agg #[.int .i64 3, .string t, .int .i64 0, .int .i64 0, .int .i64 a, .int .i64 c]] w fun e w' => e = .returned (.bool false) ∧ Below w.heap.size w w' := by
  go_enter Tryz.func31, Tryz.ntmps31
  go_wp2_with fail
  go_ret
  exact ⟨rfl, ((Below.refl _ _).alloc (Nat.le_refl _) _)⟩
set_option maxHeartbeats 2000000 in
theorem rv_none (k a c : Int) (t : ByteArray) (w : World) (hk : k ≠ 0 ∧ k ≠ 1 ∧ k ≠ 2 ∧ k ≠ 3 ∧ k ≠ 4) :
    Calls Tryz.prog 31 #[.agg #[.int .i64 k, .string t, .int .i64 0, .int .i64 0, .int .i64 a, .int .i64 c]] w fun e w' => e = .returned (.bool false) ∧ Below w.heap.size w w' := by
  have k0 : (k == 0) = false := by simp; omega
  have k1 : (k == 1) = false := by simp; omega
  have k2 : (k == 2) = false := by simp; omega
  have f2 : (k != 2) = true := by simp; omega
  have k3 : (k == 3) = false := by simp; omega
  have k4 : (k == 4) = false := by simp; omega
  clear hk
  go_enter Tryz.func31, Tryz.ntmps31
  go_wp2_with fail
  go_ret
  exact ⟨rfl, ((Below.refl _ _).alloc (Nat.le_refl _) _)⟩
/-- The reference's Valid says the same. -/
theorem rvalidT_any (k p q a c : Int) (t : ByteArray) (w : World) (h1 : -9223372036854775808 ≤ p) (h2 : p ≤ 9223372036854775807) (h3 : -9223372036854775808 ≤ q) (h4 : q ≤ 9223372036854775807) (ht : t.size ≤ maxLen) :
    Calls Tryz.prog 31 #[.agg #[.int .i64 k, .string t, .int .i64 p, .int .i64 q, .int .i64 a, .int .i64 c]] w fun e w' => e = .returned (.bool (Lx.vldT k t.data.toList p q)) ∧ Below w.heap.size w w' := by
  have hsz : t.data.toList.length = t.size := Lib.size_eq t
  unfold Lx.vldT
  by_cases k2 : k = 2
  · subst k2; rw [if_pos rfl]
    cases hd : Lx.decB p q
    · rw [Bool.and_false]; exact rv_num_no p q a c t w h1 h2 h3 h4 hd
    · rw [Bool.and_true]
      cases hx : t.data.toList.isEmpty
      · exact rv_num_full p q a c t w h1 h2 h3 h4 hd (by rw [isEmpty_list]; exact hx)
      · exact rv_num_yes p q a c t w h1 h2 h3 h4 hd (by rw [isEmpty_list]; exact hx)
  rw [if_neg k2]
  by_cases h0 : p = 0 ∧ q = 0
  case neg => rw [if_pos h0]; exact rv_nz k p q a c t w k2 h0
  rw [if_neg (fun h => h h0)]
  obtain ⟨rfl, rfl⟩ := h0
  by_cases k0 : k = 0
  · subst k0; rw [if_pos rfl]; exact rv_name a c t w ht
  rw [if_neg k0]
  by_cases k1 : k = 1
  · subst k1; rw [if_pos rfl]; exact rv_word a c t w
  rw [if_neg k1]
  by_cases k3 : k = 3
  · subst k3; rw [if_pos rfl, hsz]
    by_cases hl : t.size ≤ 100
    · rw [decide_eq_true hl, Bool.true_and]; exact rv_text a c t w hl
    · rw [decide_eq_false hl, Bool.false_and]; exact rv_text_l a c t w (by omega)
  rw [if_neg k3]
  by_cases k4 : k = 4
  · subst k4; rw [if_pos rfl]; exact rv_sign a c t w
  rw [if_neg k4]
  exact rv_none k a c t w ⟨k0, k1, k2, k3, k4⟩
end Go.Proofs.YtnhcjgnohnedaaaGreatDoor
