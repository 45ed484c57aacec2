/-
  Plain mathematics of a number's string: it is cut, and read, as it was written.
-/
import Derived.Test.YtmfbnlaohlnljaaGreatDoorDec
import Derived.Lib.ParseIntBTie
import Derived.Lib.IndexMore
namespace Go.Proofs.YtmfbnlaohlnljaaGreatDoor

theorem indexB_cons (x b : UInt8) (l : List UInt8) : Lib.index (b :: l) [x] = if b = x then 0 else if Lib.index l [x] = -1 then -1 else Lib.index l [x] + 1 := by
  by_cases h : b = x
  · subst h
    rw [if_pos rfl, Lib.index, if_pos (by simp [List.isPrefixOf])]
  · rw [if_neg h, Lib.index, if_neg (by simp [List.isPrefixOf]; exact fun e => h e.symm)]
    by_cases h2 : Lib.index l [x] = -1
    · rw [if_pos h2, if_pos (by simp [h2])]
    · rw [if_neg h2, if_neg (by simpa using h2)]
theorem indexB_app (x : UInt8) : ∀ (wh pt : List UInt8), (∀ c ∈ wh, c ≠ x) → Lib.index (wh ++ x :: pt) [x] = wh.length
  | [], pt, _ => by rw [List.nil_append, indexB_cons, if_pos rfl]; rfl
  | b :: wh, pt, h => by
    have ih := indexB_app x wh pt (fun c hc => h c (List.mem_cons_of_mem _ hc))
    rw [List.cons_append, indexB_cons, if_neg (h b (List.mem_cons_self ..)), ih, if_neg (by omega)]
    simp
theorem indexB_no (x : UInt8) : ∀ (wh : List UInt8), (∀ c ∈ wh, c ≠ x) → Lib.index wh [x] = -1
  | [], _ => rfl
  | b :: wh, h => by
    have ih := indexB_no x wh (fun c hc => h c (List.mem_cons_of_mem _ hc))
    rw [indexB_cons, if_neg (h b (List.mem_cons_self ..)), if_pos ih]
theorem cutB_app (x : UInt8) (wh pt : List UInt8) (h : ∀ c ∈ wh, c ≠ x) : Lib.cut (wh ++ x :: pt) [x] = (wh, pt, true) := by
  unfold Lib.cut
  rw [indexB_app x wh pt h, if_pos (by omega)]
  simp
theorem cutB_no (x : UInt8) (wh : List UInt8) (h : ∀ c ∈ wh, c ≠ x) : Lib.cut wh [x] = (wh, [], false) := by
  unfold Lib.cut
  rw [indexB_no x wh h, if_neg (by omega)]

theorem dec_dig (n : Nat) : dig (Lib.decDigits n) = true ∧ dval (Lib.decDigits n) = n ∧ Lib.decDigits n ≠ [] := by
  induction n using Nat.strongRecOn with
  | _ n ih =>
    rw [Lib.decDigits]
    by_cases h : n < 10
    · rw [dif_pos h]
      have e : (UInt8.ofNat (48 + n)).toNat = 48 + n := by rw [UInt8.toNat_ofNat']; omega
      refine ⟨?_, ?_, by simp⟩
      · simp [dig]; omega
      · simp [dval, dvalFrom]; omega
    · rw [dif_neg h]
      obtain ⟨a, b, c⟩ := ih (n / 10) (by omega)
      have e : (UInt8.ofNat (48 + n % 10)).toNat = 48 + n % 10 := by rw [UInt8.toNat_ofNat']; omega
      refine ⟨?_, ?_, by simp⟩
      · rw [dig_snoc, a, e]; simp; omega
      · rw [dval_snoc, b, e]; omega
theorem dig_at_mem {l : List UInt8} (h : dig l = true) : ∀ c ∈ l, 48 ≤ c.toNat ∧ c.toNat ≤ 57 := by
  unfold dig at h
  rw [List.all_eq_true] at h
  intro c hc
  have := h c hc
  simpa using this
theorem dvalFrom_ge : ∀ (l : List UInt8) (acc : Nat), acc ≤ dvalFrom acc l
  | [], acc => Nat.le_refl _
  | c :: r, acc => by
    have := dvalFrom_ge r (10 * acc + (c.toNat - 48))
    show acc ≤ dvalFrom (10 * acc + (c.toNat - 48)) r
    omega
theorem parseM_ok : ∀ (l : List UInt8) (acc : Nat), dig l = true → dvalFrom acc l ≤ 1000000000000 → Lib.parseUintM 18446744073709551615 acc l = .ok (dvalFrom acc l)
  | [], acc, _, _ => rfl
  | c :: r, acc, h, hb => by
    have hc := dig_at_mem h c (List.mem_cons_self ..)
    have hr : dig r = true := by
      unfold dig at h ⊢
      rw [List.all_cons, Bool.and_eq_true] at h
      exact h.2
    have e : dvalFrom acc (c :: r) = dvalFrom (10 * acc + (c.toNat - 48)) r := rfl
    rw [e] at hb ⊢
    have hge := dvalFrom_ge r (10 * acc + (c.toNat - 48))
    have ih := parseM_ok r (10 * acc + (c.toNat - 48)) hr hb
    rw [Lib.parseUintM, if_pos hc, if_neg (by omega), if_neg (by omega), Nat.mul_comm acc 10]
    exact ih
theorem parseU_dec (n : Nat) (h : n ≤ 1000000000000) : Lib.parseUintB 64 (Lib.decDigits n) = .ok n := by
  obtain ⟨a, b, c⟩ := dec_dig n
  unfold Lib.parseUintB
  rw [if_neg c, show 2 ^ 64 - 1 = 18446744073709551615 by decide, parseM_ok _ 0 a (by show dval _ ≤ _; omega)]
  show Lib.NumEnd.ok (dval _) = _
  rw [b]
theorem parse_itoa (p : Int) (h0 : -1000000000000 ≤ p) (h1 : p ≤ 1000000000000) : Lib.parseIntB 64 (Lib.itoa p) = .ok p := by
  unfold Lib.itoa
  have e63 : (2 : Nat) ^ (64 - 1) = 9223372036854775808 := by decide
  by_cases h : p < 0
  · rw [if_pos h, Lib.parseIntB_minus, parseU_dec _ (by omega), Lib.signedC, e63, if_neg (by omega)]
    congr 1
    omega
  · rw [if_neg h]
    obtain ⟨a, b, c⟩ := dec_dig p.toNat
    have hu := parseU_dec p.toNat (by omega)
    cases hd : Lib.decDigits p.toNat with
    | nil => exact absurd hd c
    | cons x r =>
      rw [hd] at a hu
      have hx := dig_at_mem a x (List.mem_cons_self ..)
      rw [Lib.parseIntB_plain 64 x r (by omega) (by omega), hu, Lib.signlessC, e63, if_neg (by omega)]
      congr 1
      omega
theorem itoa_no47 (p : Int) : ∀ c ∈ Lib.itoa p, c ≠ 47 := by
  have key : ∀ n, ∀ c ∈ Lib.decDigits n, c ≠ 47 := by
    intro n c hc e
    have := dig_at_mem (dec_dig n).1 c hc
    subst e
    have h47 : (47 : UInt8).toNat = 47 := rfl
    omega
  unfold Lib.itoa
  split
  · intro c hc
    rcases List.mem_cons.1 hc with rfl | hc
    · decide
    · exact key _ c hc
  · exact key _
/-- A number's string is cut as it was put together. -/
theorem cut_txt (p q : Int) : Lib.cut (txt p q) [47] = if q = 1 then (Lib.itoa p, [], false) else (Lib.itoa p, Lib.itoa q, true) := by
  unfold txt
  by_cases h : q = 1
  · rw [if_pos h, if_pos h]; exact cutB_no 47 _ (itoa_no47 p)
  · rw [if_neg h, if_neg h]; exact cutB_app 47 _ _ (itoa_no47 p)
theorem itoa_inj {p q : Int} (hp0 : -1000000000000 ≤ p) (hp1 : p ≤ 1000000000000) (hq0 : -1000000000000 ≤ q) (hq1 : q ≤ 1000000000000) (h : Lib.itoa p = Lib.itoa q) : p = q := by
  have h1 := parse_itoa p hp0 hp1
  rw [h, parse_itoa q hq0 hq1] at h1
  injection h1 with h1
  exact h1.symm
/-- Different numbers have different strings. -/
theorem txt_inj {p q p' q' : Int} (hv : Nm.vld p q = true) (hv' : Nm.vld p' q' = true) (h : txt p q = txt p' q') : p = p' ∧ q = q' := by
  obtain ⟨a1, a2, a3, a4⟩ := vld_bd hv
  obtain ⟨b1, b2, b3, b4⟩ := vld_bd hv'
  have hc := cut_txt p q
  rw [h, cut_txt p' q'] at hc
  by_cases h1 : q = 1
  · by_cases h2 : q' = 1
    · rw [if_pos h1, if_pos h2] at hc
      simp only [Prod.mk.injEq] at hc
      exact ⟨(itoa_inj (by omega) (by omega) (by omega) (by omega) hc.1).symm, by omega⟩
    · rw [if_pos h1, if_neg h2] at hc
      simp at hc
  · by_cases h2 : q' = 1
    · rw [if_neg h1, if_pos h2] at hc
      simp at hc
    · rw [if_neg h1, if_neg h2] at hc
      simp only [Prod.mk.injEq] at hc
      exact ⟨(itoa_inj (by omega) (by omega) (by omega) (by omega) hc.1).symm, (itoa_inj (by omega) (by omega) (by omega) (by omega) hc.2.1).symm⟩
end Go.Proofs.YtmfbnlaohlnljaaGreatDoor
