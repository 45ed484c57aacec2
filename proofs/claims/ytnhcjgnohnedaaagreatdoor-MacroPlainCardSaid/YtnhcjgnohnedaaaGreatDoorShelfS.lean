/-
  Plain mathematics of a number's string: it is cut, and read, as it was written.
  The mathematics of tokens, further: numerals are decimals; signs.
  The words of the language, rising.
  Contracts of package lex: the longest sign ahead; names, numerals, strings.
  A contract of sort.Search laid at this dump, by the library's theorem.
-/
import Derived.Test.YtnhcjgnohnedaaaGreatDoorLxM2
import Derived.Lib.ParseIntBTie
import Derived.Lib.IndexMore
import Derived.Test.YtnhcjgnohnedaaaGreatDoorLxD
import Derived.Shelf.SlSorted.Search
import Derived.Test.YtnhcjgnohnedaaaGreatDoorProg
namespace Go.Proofs.YtnhcjgnohnedaaaGreatDoor

theorem indexB_cons (x b : UInt8) (l : List UInt8) : Lib.index (b :: l) [x] = if b = x then 0 else if Lib.index l [x] = -1 then -1 else Lib.index l [x] + 1 := by
  by_cases h : b = x
  · subst h
    rw [if_pos rfl, Lib.index, if_pos (by simp [List.isPrefixOf])]
  · rw [if_neg h, Lib.index, if_neg (by simp [List.isPrefixOf]; exact fun e => h e.symm)]
    by_cases h2 : Lib.index l [x] = -1
    · rw [if_pos h2, if_pos (by simp [h2])]
    · rw [if_neg h2, if_neg (by simpa using h2)]
theorem indexB_app (x : UInt8) : ∀ (wh pt : List UInt8), (∀ c ∈ wh, c ≠ x) → Lib.index (wh ++ x :: pt) [x] = wh.length
  | [], pt, _ => by rw [List.nil_append, indexB_cons, if_pos rfl]; rfl
  | b :: wh, pt, h => by
    have ih := indexB_app x wh pt (fun c hc => h c (List.mem_cons_of_mem _ hc))
    rw [List.cons_append, indexB_cons, if_neg (h b (List.mem_cons_self ..)), ih, if_neg (by omega)]
    simp
theorem indexB_no (x : UInt8) : ∀ (wh : List UInt8), (∀ c ∈ wh, c ≠ x) → Lib.index wh [x] = -1
  | [], _ => rfl
  | b :: wh, h => by
    have ih := indexB_no x wh (fun c hc => h c (List.mem_cons_of_mem _ hc))
    rw [indexB_cons, if_neg (h b (List.mem_cons_self ..)), if_pos ih]
theorem cutB_app (x : UInt8) (wh pt : List UInt8) (h : ∀ c ∈ wh, c ≠ x) : Lib.cut (wh ++ x :: pt) [x] = (wh, pt, true) := by
  unfold Lib.cut
  rw [indexB_app x wh pt h, if_pos (by omega)]
  simp
theorem cutB_no (x : UInt8) (wh : List UInt8) (h : ∀ c ∈ wh, c ≠ x) : Lib.cut wh [x] = (wh, [], false) := by
  unfold Lib.cut
  rw [indexB_no x wh h, if_neg (by omega)]

theorem dec_dig (n : Nat) : dig (Lib.decDigits n) = true ∧ dval (Lib.decDigits n) = n ∧ Lib.decDigits n ≠ [] := by
  induction n using Nat.strongRecOn with
  | _ n ih =>
    rw [Lib.decDigits]
    by_cases h : n < 10
    · rw [dif_pos h]
      have e : (UInt8.ofNat (48 + n)).toNat = 48 + n := by rw [UInt8.toNat_ofNat']; omega
      refine ⟨?_, ?_, by simp⟩
      · simp [dig]; omega
      · simp [dval, dvalFrom]; omega
    · rw [dif_neg h]
      obtain ⟨a, b, c⟩ := ih (n / 10) (by omega)
      have e : (UInt8.ofNat (48 + n % 10)).toNat = 48 + n % 10 := by rw [UInt8.toNat_ofNat']; omega
      refine ⟨?_, ?_, by simp⟩
      · rw [dig_snoc, a, e]; simp; omega
      · rw [dval_snoc, b, e]; omega
theorem dig_at_mem {l : List UInt8} (h : dig l = true) : ∀ c ∈ l, 48 ≤ c.toNat ∧ c.toNat ≤ 57 := by
  unfold dig at h
  rw [List.all_eq_true] at h
  intro c hc
  have := h c hc
  simpa using this
theorem dvalFrom_ge : ∀ (l : List UInt8) (acc : Nat), acc ≤ dvalFrom acc l
  | [], acc => Nat.le_refl _
  | c :: r, acc => by
    have := dvalFrom_ge r (10 * acc + (c.toNat - 48))
    show acc ≤ dvalFrom (10 * acc + (c.toNat - 48)) r
    omega
theorem parseM_ok : ∀ (l : List UInt8) (acc : Nat), dig l = true → dvalFrom acc l ≤ 1000000000000 → Lib.parseUintM 18446744073709551615 acc l = .ok (dvalFrom acc l)
  | [], acc, _, _ => rfl
  | c :: r, acc, h, hb => by
    have hc := dig_at_mem h c (List.mem_cons_self ..)
    have hr : dig r = true := by
      unfold dig at h ⊢
      rw [List.all_cons, Bool.and_eq_true] at h
      exact h.2
    have e : dvalFrom acc (c :: r) = dvalFrom (10 * acc + (c.toNat - 48)) r := rfl
    rw [e] at hb ⊢
    have hge := dvalFrom_ge r (10 * acc + (c.toNat - 48))
    have ih := parseM_ok r (10 * acc + (c.toNat - 48)) hr hb
    rw [Lib.parseUintM, if_pos hc, if_neg (by omega), if_neg (by omega), Nat.mul_comm acc 10]
    exact ih
theorem parseU_dec (n : Nat) (h : n ≤ 1000000000000) : Lib.parseUintB 64 (Lib.decDigits n) = .ok n := by
  obtain ⟨a, b, c⟩ := dec_dig n
  unfold Lib.parseUintB
  rw [if_neg c, show 2 ^ 64 - 1 = 18446744073709551615 by decide, parseM_ok _ 0 a (by show dval _ ≤ _; omega)]
  show Lib.NumEnd.ok (dval _) = _
  rw [b]
theorem parse_itoa (p : Int) (h0 : -1000000000000 ≤ p) (h1 : p ≤ 1000000000000) : Lib.parseIntB 64 (Lib.itoa p) = .ok p := by
  unfold Lib.itoa
  have e63 : (2 : Nat) ^ (64 - 1) = 9223372036854775808 := by decide
  by_cases h : p < 0
  · rw [if_pos h, Lib.parseIntB_minus, parseU_dec _ (by omega), Lib.signedC, e63, if_neg (by omega)]
    congr 1
    omega
  · rw [if_neg h]
    obtain ⟨a, b, c⟩ := dec_dig p.toNat
    have hu := parseU_dec p.toNat (by omega)
    cases hd : Lib.decDigits p.toNat with
    | nil => exact absurd hd c
    | cons x r =>
      rw [hd] at a hu
      have hx := dig_at_mem a x (List.mem_cons_self ..)
      rw [Lib.parseIntB_plain 64 x r (by omega) (by omega), hu, Lib.signlessC, e63, if_neg (by omega)]
      congr 1
      omega
theorem itoa_no47 (p : Int) : ∀ c ∈ Lib.itoa p, c ≠ 47 := by
  have key : ∀ n, ∀ c ∈ Lib.decDigits n, c ≠ 47 := by
    intro n c hc e
    have := dig_at_mem (dec_dig n).1 c hc
    subst e
    have h47 : (47 : UInt8).toNat = 47 := rfl
    omega
  unfold Lib.itoa
  split
  · intro c hc
    rcases List.mem_cons.1 hc with rfl | hc
    · decide
    · exact key _ c hc
  · exact key _
/-- A number's string is cut as it was put together. -/
theorem cut_txt (p q : Int) : Lib.cut (txt p q) [47] = if q = 1 then (Lib.itoa p, [], false) else (Lib.itoa p, Lib.itoa q, true) := by
  unfold txt
  by_cases h : q = 1
  · rw [if_pos h, if_pos h]; exact cutB_no 47 _ (itoa_no47 p)
  · rw [if_neg h, if_neg h]; exact cutB_app 47 _ _ (itoa_no47 p)
theorem itoa_inj {p q : Int} (hp0 : -1000000000000 ≤ p) (hp1 : p ≤ 1000000000000) (hq0 : -1000000000000 ≤ q) (hq1 : q ≤ 1000000000000) (h : Lib.itoa p = Lib.itoa q) : p = q := by
  have h1 := parse_itoa p hp0 hp1
  rw [h, parse_itoa q hq0 hq1] at h1
  injection h1 with h1
  exact h1.symm
/-- Different numbers have different strings. -/
theorem txt_inj {p q p' q' : Int} (hv : Nm.vld p q = true) (hv' : Nm.vld p' q' = true) (h : txt p q = txt p' q') : p = p' ∧ q = q' := by
  obtain ⟨a1, a2, a3, a4⟩ := vld_bd hv
  obtain ⟨b1, b2, b3, b4⟩ := vld_bd hv'
  have hc := cut_txt p q
  rw [h, cut_txt p' q'] at hc
  by_cases h1 : q = 1
  · by_cases h2 : q' = 1
    · rw [if_pos h1, if_pos h2] at hc
      simp only [Prod.mk.injEq] at hc
      exact ⟨(itoa_inj (by omega) (by omega) (by omega) (by omega) hc.1).symm, by omega⟩
    · rw [if_pos h1, if_neg h2] at hc
      simp at hc
  · by_cases h2 : q' = 1
    · rw [if_neg h1, if_pos h2] at hc
      simp at hc
    · rw [if_neg h1, if_neg h2] at hc
      simp only [Prod.mk.injEq] at hc
      exact ⟨(itoa_inj (by omega) (by omega) (by omega) (by omega) hc.1).symm, (itoa_inj (by omega) (by omega) (by omega) (by omega) hc.2.1).symm⟩
end Go.Proofs.YtnhcjgnohnedaaaGreatDoor

namespace Go.Proofs.YtnhcjgnohnedaaaGreatDoor
namespace Lx

/-- A string is cut at the first byte x. -/
theorem cut_run (x : UInt8) (p : UInt8 → Bool) (hp : ∀ c, p c = true ↔ c ≠ x) (l : List UInt8) :
    Lib.cut l [x] = if runN p l = l.length then (l, [], false) else (l.take (runN p l), l.drop (runN p l + 1), true) := by
  by_cases h : runN p l = l.length
  · rw [if_pos h]
    exact cutB_no x l (fun c hc => (hp c).1 ((runN_eq_length p l).1 h c hc))
  · rw [if_neg h]
    have hlt : runN p l < l.length := by have := runN_le p l; omega
    have hs := runN_stop p l hlt
    have hx : l[runN p l] = x := by
      have e : l.getD (runN p l) 0 = l[runN p l] := by simp [List.getD, List.getElem?_eq_getElem hlt]
      rw [e] at hs
      by_cases hne : l[runN p l] = x
      · exact hne
      · rw [(hp _).2 hne] at hs; cases hs
    have hl : l = l.take (runN p l) ++ x :: l.drop (runN p l + 1) := by
      have := List.take_append_drop (runN p l) l
      rw [List.drop_eq_getElem_cons hlt, hx] at this
      exact this.symm
    have := cutB_app x (l.take (runN p l)) (l.drop (runN p l + 1)) (fun c hc => (hp c).1 (runN_take_all p l c hc))
    rw [← hl] at this
    exact this
theorem dig_of {l : List UInt8} (h : ∀ c ∈ l, digit c = true) : dig l = true := by
  unfold dig; rw [List.all_eq_true]; exact h
theorem digit_ne {c : UInt8} (h : digit c = true) : c ≠ 46 := by rintro rfl; revert h; decide
/-- The parts of a numeral: it is wh, or wh and a point and pt. -/
theorem numeral_parts (l : List UInt8) (h0 : 0 < numeral l) : ∃ wh pt : List UInt8, ∃ pd : Bool, (∀ c ∈ wh, digit c = true) ∧ (∀ c ∈ pt, digit c = true) ∧ l.take (numeral l) = (if pd = true then wh ++ 46 :: pt else wh) ∧
    (pd = true → pt ≠ []) ∧ (pd = false → wh ≠ [] ∧ pt = []) ∧ wh = l.take (runN digit l) ∧ (pd = true → numeral l = wh.length + 1 + pt.length) ∧ (pd = false → numeral l = wh.length) := by
  have hr := runN_le digit l
  rcases numeral_cases l with ⟨t, h, hne, e⟩ | e
  · refine ⟨l.take (runN digit l), t.take (runN digit t), true, runN_take_all _ _, runN_take_all _ _, ?_, ?_, by simp, rfl, ?_, by simp⟩
    · have hl : l = l.take (runN digit l) ++ 46 :: t := by rw [← h, List.take_append_drop]
      rw [e]
      generalize hn : runN digit l = n at *
      conv => lhs; rw [hl]
      rw [List.take_append]
      have e1 : n + 1 + runN digit t - (l.take n).length = runN digit t + 1 := by rw [List.length_take]; omega
      rw [e1, List.take_succ_cons, List.take_take, Nat.min_eq_right (by omega)]
      rfl
    · intro _ hn
      have := congrArg List.length hn
      have a := runN_le digit t
      rw [List.length_take] at this
      simp only [List.length_nil] at this
      omega
    · intro _
      have a := runN_le digit t
      rw [e, List.length_take, List.length_take]; omega
  · refine ⟨l.take (runN digit l), [], false, runN_take_all _ _, by simp, by rw [e]; rfl, by simp, ?_, rfl, by simp, ?_⟩
    · intro _
      refine ⟨fun hn => ?_, rfl⟩
      have := congrArg List.length hn
      rw [List.length_take] at this
      simp only [List.length_nil] at this
      omega
    · intro _; rw [e, List.length_take]; omega
theorem mkE_pow (p : Int) (k : Nat) : Nm.mkE p ((10 ^ k : Nat) : Int) = 0 ∨ (Nm.mkE p ((10 ^ k : Nat) : Int) = 17 ∧ Nm.mkP p ((10 ^ k : Nat) : Int) = 0 ∧ Nm.mkQ p ((10 ^ k : Nat) : Int) = 0) := by
  have h1 : 0 < 10 ^ k := Nat.pow_pos (by omega)
  have h2 : ¬ ((10 ^ k : Nat) : Int) = 0 := by omega
  have h3 : Nm.mkE p ((10 ^ k : Nat) : Int) = 0 ∨ Nm.mkE p ((10 ^ k : Nat) : Int) = 17 := by
    rw [Nm.mkE, if_neg h2]; split <;> simp
  rcases h3 with h | h
  · left; exact h
  · right; exact ⟨h, by rw [Nm.mkP, h]; rfl, by rw [Nm.mkQ, h]; rfl⟩
/-- What numOf says of a numeral's parts. -/
theorem numOf_parts (m wh pt : List UInt8) (pd : Bool) (h1 : ∀ c ∈ wh, digit c = true) (hm : m = if pd = true then wh ++ 46 :: pt else wh) (h2 : pd = false → pt = []) :
    m.take (runN digit m) = wh ∧ m.drop (runN digit m + 1) = pt := by
  cases pd
  · simp only [Bool.false_eq_true, if_false] at hm
    subst hm
    have e : runN digit m = m.length := (runN_eq_length _ _).2 h1
    rw [e, h2 rfl, List.take_length, List.drop_eq_nil_of_le (by omega)]
    exact ⟨rfl, rfl⟩
  · simp only [if_true] at hm
    have e : runN digit m = wh.length := by rw [hm, runN_app _ _ _ h1]; simp [runN, digit]
    rw [e, hm]
    simp
/-- Decimal of a numeral is its number. -/
theorem decV_numeral (l : List UInt8) (h0 : 0 < numeral l) :
    decV (l.take (numeral l)) = if (numOf (l.take (numeral l))).e = 3 then numV 0 0 30 else numV (numOf (l.take (numeral l))).t.p (numOf (l.take (numeral l))).t.q (numOf (l.take (numeral l))).e := by
  obtain ⟨wh, pt, pd, a1, a2, hm, b1, b2, -, -, -⟩ := numeral_parts l h0
  generalize l.take (numeral l) = m at hm
  have hcut : Lib.cut m [46] = (wh, pt, pd) := by
    cases pd
    · simp only [Bool.false_eq_true, if_false] at hm
      rw [hm, (b2 rfl).2]; exact cutB_no 46 wh (fun c hc => digit_ne (a1 c hc))
    · simp only [if_true] at hm
      rw [hm]; exact cutB_app 46 wh pt (fun c hc => digit_ne (a1 c hc))
  have hp := numOf_parts m wh pt pd a1 hm (fun h => (b2 h).2)
  rw [decV_of hcut]
  simp only [numOf, hp.1, hp.2]
  have hbad : decBad wh pt pd = decide (9 < wh.length ∨ 5 < pt.length) := by
    unfold decBad
    rw [dig_of a1, dig_of a2]
    cases pd
    · have := (b2 rfl).1
      have hw : wh.isEmpty = false := by simpa using this
      rw [hw]; rw [Bool.eq_iff_iff]; simp
    · have := b1 rfl
      have hw : pt.isEmpty = false := by simpa using this
      rw [hw]; rw [Bool.eq_iff_iff]; simp
  unfold decV3
  rw [hbad]
  by_cases hb : 9 < wh.length ∨ 5 < pt.length
  · rw [if_pos (by simpa using hb), if_pos hb]; rfl
  · rw [if_neg (by simpa using hb), if_neg hb]
    rcases mkE_pow (dval (wh ++ pt)) pt.length with h | ⟨h, hP, hQ⟩
    · simp only [h]; rfl
    · simp only [h, hP, hQ]; rfl
theorem numOf_bad (l : List UInt8) (h : (numOf l).e ≠ 0) : (numOf l).t.p = 0 ∧ (numOf l).t.q = 0 := by
  simp only [numOf] at h ⊢; split
  · exact ⟨rfl, rfl⟩
  · split
    · rename_i h1 h2; rw [if_neg h1, if_pos h2] at h; exact absurd rfl h
    · exact ⟨rfl, rfl⟩

theorem sgs_len : sgs.length = 31 := rfl
theorem sgn_hit (l : List UInt8) (k : Nat) (hk : k < 31) (h0 : ∀ i, i < k → (sgs.getD i []).isPrefixOf l = false) (h1 : (sgs.getD k []).isPrefixOf l = true) : sgn l = sgs.getD k [] := by
  have e : sgs = sgs.take k ++ sgs.getD k [] :: sgs.drop (k + 1) := by
    have := List.take_append_drop k sgs
    rw [List.drop_eq_getElem_cons (by rw [sgs_len]; exact hk)] at this
    rw [List.getD, List.getElem?_eq_getElem (by rw [sgs_len]; exact hk)]
    exact this.symm
  have hnone : (sgs.take k).find? (fun s => s.isPrefixOf l) = none := by
    rw [List.find?_eq_none]
    intro x hx
    obtain ⟨i, hi, rfl⟩ := List.getElem_of_mem hx
    rw [List.length_take] at hi
    have := h0 i (by omega)
    rw [List.getElem_take, Bool.not_eq_true]
    rwa [List.getD, List.getElem?_eq_getElem (by rw [sgs_len]; omega)] at this
  unfold sgn
  conv => lhs; rw [e]
  rw [List.find?_append, hnone]
  simp only [Option.none_or]
  rw [List.find?_cons]; simp only [h1]; rfl
theorem sgn_none (l : List UInt8) (h0 : ∀ i, i < 31 → (sgs.getD i []).isPrefixOf l = false) : sgn l = [] := by
  have hnone : sgs.find? (fun s => s.isPrefixOf l) = none := by
    rw [List.find?_eq_none]
    intro x hx
    obtain ⟨i, hi, rfl⟩ := List.getElem_of_mem hx
    rw [sgs_len] at hi
    have := h0 i hi
    rw [Bool.not_eq_true]
    rwa [List.getD, List.getElem?_eq_getElem (by rw [sgs_len]; omega)] at this
  unfold sgn; rw [hnone]; rfl
end Lx
end Go.Proofs.YtnhcjgnohnedaaaGreatDoor

namespace Go.Proofs.YtnhcjgnohnedaaaGreatDoor
namespace Lx
def wds : List (List UInt8) := [[97, 98, 115],
  [97, 108, 115, 111],
  [97, 110, 100],
  [97, 110, 103, 108, 101],
  [98, 101, 103, 105, 110, 99, 104, 97, 114],
  [98, 101, 103, 105, 110, 103, 114, 111, 117, 112],
  [98, 111, 111, 108, 101, 97, 110],
  [99, 104, 97, 114],
  [99, 108, 105, 112],
  [99, 111, 100, 101],
  [99, 111, 110, 116, 114, 111, 108, 115],
  [99, 111, 115, 100],
  [99, 117, 114, 108],
  [99, 121, 99, 108, 101],
  [100, 101, 99, 105, 109, 97, 108],
  [100, 101, 102],
  [100, 105, 114],
  [100, 105, 114, 101, 99, 116, 105, 111, 110],
  [100, 111, 116, 112, 114, 111, 100],
  [100, 114, 97, 119],
  [101, 108, 115, 101],
  [101, 108, 115, 101, 105, 102],
  [101, 110, 100, 99, 104, 97, 114],
  [101, 110, 100, 100, 101, 102],
  [101, 110, 100, 102, 111, 114],
  [101, 110, 100, 103, 114, 111, 117, 112],
  [101, 118, 101, 110, 99, 108, 105, 112],
  [101, 118, 101, 110, 102, 105, 108, 108],
  [101, 120, 105, 116, 105, 102],
  [102, 97, 108, 115, 101],
  [102, 105],
  [102, 105, 108, 108],
  [102, 108, 111, 111, 114],
  [102, 111, 114],
  [102, 111, 114, 101, 118, 101, 114],
  [105, 100, 101, 110, 116, 105, 116, 121],
  [105, 102],
  [105, 110, 118, 101, 114, 115, 101],
  [107, 101, 114, 110],
  [107, 110, 111, 119, 110],
  [108, 101, 110, 103, 116, 104],
  [108, 101, 116],
  [108, 105, 103, 116, 97, 98, 108, 101],
  [109, 101, 115, 115, 97, 103, 101],
  [109, 111, 100],
  [110, 111, 116],
  [110, 117, 109, 101, 114, 105, 99],
  [111, 100, 100],
  [111, 102],
  [111, 114],
  [112, 97, 105, 114],
  [112, 97, 116, 104],
  [112, 101, 110],
  [112, 101, 110, 99, 105, 114, 99, 108, 101],
  [112, 101, 110, 115, 113, 117, 97, 114, 101],
  [112, 105, 99, 107, 117, 112],
  [112, 111, 105, 110, 116],
  [112, 111, 115, 116, 99, 111, 110, 116, 114, 111, 108],
  [112, 114, 101, 99, 111, 110, 116, 114, 111, 108],
  [114, 101, 118, 101, 114, 115, 101],
  [114, 111, 116, 97, 116, 101, 100],
  [115, 97, 118, 101],
  [115, 99, 97, 108, 101, 100],
  [115, 104, 105, 102, 116, 101, 100],
  [115, 104, 111, 119],
  [115, 105, 110, 100],
  [115, 108, 97, 110, 116, 101, 100],
  [115, 113, 114, 116],
  [115, 116, 101, 112],
  [115, 116, 114, 105, 110, 103],
  [115, 117, 98, 112, 97, 116, 104],
  [116, 101, 110, 115, 105, 111, 110],
  [116, 114, 97, 110, 115, 102, 111, 114, 109],
  [116, 114, 97, 110, 115, 102, 111, 114, 109, 101, 100],
  [116, 114, 117, 101],
  [117, 110, 99, 108, 105, 112],
  [117, 110, 107, 110, 111, 119, 110],
  [117, 110, 116, 105, 108],
  [119, 105, 116, 104, 105, 110, 107],
  [120, 112, 97, 114, 116],
  [120, 115, 99, 97, 108, 101, 100],
  [120, 120, 112, 97, 114, 116],
  [120, 121, 112, 97, 114, 116],
  [121, 112, 97, 114, 116],
  [121, 115, 99, 97, 108, 101, 100],
  [121, 120, 112, 97, 114, 116],
  [121, 121, 112, 97, 114, 116]]
theorem wds_len : wds.length = 87 := rfl
end Lx
end Go.Proofs.YtnhcjgnohnedaaaGreatDoor

namespace Go.Proofs.YtnhcjgnohnedaaaGreatDoor
open Go.RowKit

def strsV (l : List (List UInt8)) : Array Value := (l.map fun s => Value.string ⟨s.toArray⟩).toArray
theorem strsV_size (l : List (List UInt8)) : (strsV l).size = l.length := by simp [strsV]
theorem strsV_get (l : List (List UInt8)) (k : Nat) (h : k < l.length) : (strsV l)[k]? = some (.string ⟨(l.getD k []).toArray⟩) := by
  simp [strsV, List.getD, List.getElem?_eq_getElem h]
/-- What the world keeps: the library's table, the signs, the words. -/
structure EnvL (w : World) : Prop extends Env w where
  sg : ∃ t fr, w.heap[1]? = some (.cells (strsV Lx.sgs) t fr)
  wd : ∃ t fr, w.heap[0]? = some (.cells (strsV Lx.wds) t fr)
theorem EnvL.below {w w' : World} (h : EnvL w) (hb : Below w.heap.size w w') : EnvL w' := by
  refine ⟨h.toEnv.below hb, ?_, ?_⟩
  · obtain ⟨t, fr, ht⟩ := h.sg
    exact ⟨t, fr, (hb.block _ (Array.getElem?_eq_some_iff.1 ht).1).trans ht⟩
  · obtain ⟨t, fr, ht⟩ := h.wd
    exact ⟨t, fr, (hb.block _ (Array.getElem?_eq_some_iff.1 ht).1).trans ht⟩

theorem run_index_strs {P : Program} (t e : TypeId) (n : Nat) (A : Array Value) (v : Value) (k : Nat) (h : P.underlying t = some (.array n e)) (ha : ∀ w, (isAgg e).run P w = .ok false w) (hz : ∀ w, (sizeOf e).run P w = .ok 1 w)
    (hk : k < n) (hv : A[k]? = some v) (w : World) : (Instr.index t (.agg A) (.int .i64 (k : Int))).run P w = .ok v w := by
  have h2 : ((0 : Int) ≤ (k : Int) ∧ (k : Int) < n) := by omega
  simp [Instr.index, asIntOf, run_underlying h, h2, hz, part, ha, hv]
  omega

set_option maxRecDepth 100000 in
set_option maxHeartbeats 1000000 in
theorem signAhead_any (s : ByteArray) (w : World) (he : EnvL w) :
    Calls Tryz.prog 114 #[.string s] w fun e w' => e = .returned (.string ⟨(Lx.sgn s.data.toList).toArray⟩) ∧ w = w' := by
  obtain ⟨tt, fr, hg⟩ := he.sg
  obtain ⟨A, hA⟩ : ∃ A, A = strsV Lx.sgs := ⟨_, rfl⟩
  rw [← hA] at hg
  have hsz : A.size = 31 := by rw [hA]; rfl
  have HI : Hid (∀ k : Nat, k < 31 → ∀ w, (Instr.index 185 (.agg A) (.int .i64 (k : Int))).run Tryz.prog w = .ok (.string ⟨(Lx.sgs.getD k []).toArray⟩) w) := fun k hk w =>
    run_index_strs _ 9 31 A _ k Tryz.underlying185 Tryz.isAgg9 Tryz.sizeOf9 hk (by rw [hA]; exact strsV_get Lx.sgs k hk) w
  clear hA he
  have H1 : Hid (∀ k : Nat, k < 31 → (∀ i, i < k → (Lx.sgs.getD i []).isPrefixOf s.data.toList = false) → (Lx.sgs.getD k []).isPrefixOf s.data.toList = true → Lx.sgn s.data.toList = Lx.sgs.getD k []) := fun k => Lx.sgn_hit s.data.toList k
  have H2 : Hid ((∀ i, i < 31 → (Lx.sgs.getD i []).isPrefixOf s.data.toList = false) → Lx.sgn s.data.toList = []) := Lx.sgn_none s.data.toList
  obtain ⟨G, hG⟩ : ∃ G : Nat → List UInt8, G = fun k => Lx.sgs.getD k [] := ⟨_, rfl⟩
  have hGk : ∀ k, Lx.sgs.getD k [] = G k := fun k => by rw [hG]
  simp only [hGk] at HI H1 H2
  clear hG hGk
  obtain ⟨R, hR⟩ : ∃ R, R = Lx.sgn s.data.toList := ⟨_, rfl⟩
  rw [← hR] at H1 H2 ⊢
  clear hR
  have hin : (Tryz.prog.info? 185).map (·.size) = some 31 := by kernel_rfl
  rw [← hsz] at hin
  have HZ := Lib.hid hsz
  have HG := Lib.hid hg
  have HN := Lib.hid hin
  clear hsz hg hin
  go_enter Tryz.func114, Tryz.ntmps114
  go_wp2_with (refine wpList_load_row rfl 185 _ rfl 1 rfl tt _ fr _ HG.out Tryz.underlying185 rfl HN.out ?_)
  go_loop [6] (fun vi => ∃ k : Nat, vi = .int .i64 k ∧ k ≤ 31 ∧ Hid (∀ i, i < k → (G i).isPrefixOf s.data.toList = false)) (fun vi => 31 - (intOf vi).toNat)
  case atStart => exact ⟨0, rfl, by omega, fun i h => by omega⟩
  case round =>
    obtain ⟨k, rfl, hk, hall⟩ := hrel
    by_cases hlt : k < 31
    · have hix := HI.out k hlt
      cases hp : (G k).isPrefixOf s.data.toList
      · have HP := Lib.hid hp
        clear hp
        go_wp2_with fail
        refine (hasPrefix_any _ _ _).mono ?_; rintro e w' ⟨rfl, rfl⟩
        have hb : Lib.hasPrefix s.data.toList (⟨(G k).toArray⟩ : ByteArray).data.toList = false := by simpa [Lib.hasPrefix] using HP.out
        simp only [hb]
        clear hb
        go_wp2_with fail
        go_round
        case rel =>
          refine ⟨k + 1, by go_num, by omega, fun i hi => ?_⟩
          by_cases e : i = k
          · rw [e]; exact HP.out
          · exact hall.out i (by omega)
        case measure => simp [intOf]; omega
      · have HS := Lib.hid (H1.out k hlt hall.out hp)
        have HP := Lib.hid hp
        clear hp
        go_wp2_with fail
        refine (hasPrefix_any _ _ _).mono ?_; rintro e w' ⟨rfl, rfl⟩
        have hb : Lib.hasPrefix s.data.toList (⟨(G k).toArray⟩ : ByteArray).data.toList = true := by simpa [Lib.hasPrefix] using HP.out
        simp only [hb]
        clear hb
        go_wp2_with fail
        go_ret
        exact ⟨by rw [HS.out]; rfl, rfl⟩
    · obtain rfl : k = 31 := by omega
      have HS := Lib.hid (H2.out hall.out)
      go_wp2_with fail
      go_ret
      exact ⟨by rw [HS.out]; rfl, rfl⟩
end Go.Proofs.YtnhcjgnohnedaaaGreatDoor

namespace Go.Proofs
open Go.Shelf
def Tryz.search16_ren : Go.Shelf.Ren := ⟨fun | 16 => 112 | n => n, fun | 3 => 3 | 35 => 150 | 4 => 4 | 38 => 81 | n => n, fun | n => n⟩
theorem Tryz.search16 : Go.Proofs.SlLaysO.n16 Tryz.prog Tryz.search16_ren := {
  mixed := by kernel_rfl
  f16 := Tryz.func112.trans (congrArg some (by kernel_rfl))
  t3 := Tryz.underlying3
  a3 := Tryz.isAgg3
  z3 := Tryz.sizeOf3
  v3 := Tryz.zeroValue3
  t4 := Tryz.underlying4
  a4 := Tryz.isAgg4
  z4 := Tryz.sizeOf4
  v4 := Tryz.zeroValue4
  t35 := Tryz.underlying150
  a35 := Tryz.isAgg150
  z35 := Tryz.sizeOf150
  v35 := Tryz.zeroValue150
  t38 := Tryz.underlying81
  a38 := Tryz.isAgg81
  z38 := Tryz.sizeOf81
  v38 := Tryz.zeroValue81 }
end Go.Proofs
