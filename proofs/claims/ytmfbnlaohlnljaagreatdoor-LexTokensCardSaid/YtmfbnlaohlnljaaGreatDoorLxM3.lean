/-
  The mathematics of tokens, further: numerals are decimals; signs.
-/
import Derived.Test.YtmfbnlaohlnljaaGreatDoorNTxt
import Derived.Test.YtmfbnlaohlnljaaGreatDoorDec3
import Derived.Test.YtmfbnlaohlnljaaGreatDoorLxM2
namespace Go.Proofs.YtmfbnlaohlnljaaGreatDoor
namespace Lx

/-- A string is cut at the first byte x. -/
theorem cut_run (x : UInt8) (p : UInt8 → Bool) (hp : ∀ c, p c = true ↔ c ≠ x) (l : List UInt8) :
    Lib.cut l [x] = if runN p l = l.length then (l, [], false) else (l.take (runN p l), l.drop (runN p l + 1), true) := by
  by_cases h : runN p l = l.length
  · rw [if_pos h]
    exact cutB_no x l (fun c hc => (hp c).1 ((runN_eq_length p l).1 h c hc))
  · rw [if_neg h]
    have hlt : runN p l < l.length := by have := runN_le p l; omega
    have hs := runN_stop p l hlt
    have hx : l[runN p l] = x := by
      have e : l.getD (runN p l) 0 = l[runN p l] := by simp [List.getD, List.getElem?_eq_getElem hlt]
      rw [e] at hs
      by_cases hne : l[runN p l] = x
      · exact hne
      · rw [(hp _).2 hne] at hs; cases hs
    have hl : l = l.take (runN p l) ++ x :: l.drop (runN p l + 1) := by
      have := List.take_append_drop (runN p l) l
      rw [List.drop_eq_getElem_cons hlt, hx] at this
      exact this.symm
    have := cutB_app x (l.take (runN p l)) (l.drop (runN p l + 1)) (fun c hc => (hp c).1 (runN_take_all p l c hc))
    rw [← hl] at this
    exact this
theorem dig_of {l : List UInt8} (h : ∀ c ∈ l, digit c = true) : dig l = true := by
  unfold dig; rw [List.all_eq_true]; exact h
theorem digit_ne {c : UInt8} (h : digit c = true) : c ≠ 46 := by rintro rfl; revert h; decide
/-- The parts of a numeral: it is wh, or wh and a point and pt. -/
theorem numeral_parts (l : List UInt8) (h0 : 0 < numeral l) : ∃ wh pt : List UInt8, ∃ pd : Bool, (∀ c ∈ wh, digit c = true) ∧ (∀ c ∈ pt, digit c = true) ∧ l.take (numeral l) = (if pd = true then wh ++ 46 :: pt else wh) ∧
    (pd = true → pt ≠ []) ∧ (pd = false → wh ≠ [] ∧ pt = []) ∧ wh = l.take (runN digit l) ∧ (pd = true → numeral l = wh.length + 1 + pt.length) ∧ (pd = false → numeral l = wh.length) := by
  have hr := runN_le digit l
  rcases numeral_cases l with ⟨t, h, hne, e⟩ | e
  · refine ⟨l.take (runN digit l), t.take (runN digit t), true, runN_take_all _ _, runN_take_all _ _, ?_, ?_, by simp, rfl, ?_, by simp⟩
    · have hl : l = l.take (runN digit l) ++ 46 :: t := by rw [← h, List.take_append_drop]
      rw [e]
      generalize hn : runN digit l = n at *
      conv => lhs; rw [hl]
      rw [List.take_append]
      have e1 : n + 1 + runN digit t - (l.take n).length = runN digit t + 1 := by rw [List.length_take]; omega
      rw [e1, List.take_succ_cons, List.take_take, Nat.min_eq_right (by omega)]
      rfl
    · intro _ hn
      have := congrArg List.length hn
      have a := runN_le digit t
      rw [List.length_take] at this
      simp only [List.length_nil] at this
      omega
    · intro _
      have a := runN_le digit t
      rw [e, List.length_take, List.length_take]; omega
  · refine ⟨l.take (runN digit l), [], false, runN_take_all _ _, by simp, by rw [e]; rfl, by simp, ?_, rfl, by simp, ?_⟩
    · intro _
      refine ⟨fun hn => ?_, rfl⟩
      have := congrArg List.length hn
      rw [List.length_take] at this
      simp only [List.length_nil] at this
      omega
    · intro _; rw [e, List.length_take]; omega
theorem mkE_pow (p : Int) (k : Nat) : Nm.mkE p ((10 ^ k : Nat) : Int) = 0 ∨ (Nm.mkE p ((10 ^ k : Nat) : Int) = 17 ∧ Nm.mkP p ((10 ^ k : Nat) : Int) = 0 ∧ Nm.mkQ p ((10 ^ k : Nat) : Int) = 0) := by
  have h1 : 0 < 10 ^ k := Nat.pow_pos (by omega)
  have h2 : ¬ ((10 ^ k : Nat) : Int) = 0 := by omega
  have h3 : Nm.mkE p ((10 ^ k : Nat) : Int) = 0 ∨ Nm.mkE p ((10 ^ k : Nat) : Int) = 17 := by
    rw [Nm.mkE, if_neg h2]; split <;> simp
  rcases h3 with h | h
  · left; exact h
  · right; exact ⟨h, by rw [Nm.mkP, h]; rfl, by rw [Nm.mkQ, h]; rfl⟩
/-- What numOf says of a numeral's parts. -/
theorem numOf_parts (m wh pt : List UInt8) (pd : Bool) (h1 : ∀ c ∈ wh, digit c = true) (hm : m = if pd = true then wh ++ 46 :: pt else wh) (h2 : pd = false → pt = []) :
    m.take (runN digit m) = wh ∧ m.drop (runN digit m + 1) = pt := by
  cases pd
  · simp only [Bool.false_eq_true, if_false] at hm
    subst hm
    have e : runN digit m = m.length := (runN_eq_length _ _).2 h1
    rw [e, h2 rfl, List.take_length, List.drop_eq_nil_of_le (by omega)]
    exact ⟨rfl, rfl⟩
  · simp only [if_true] at hm
    have e : runN digit m = wh.length := by rw [hm, runN_app _ _ _ h1]; simp [runN, digit]
    rw [e, hm]
    simp
/-- Decimal of a numeral is its number. -/
theorem decV_numeral (l : List UInt8) (h0 : 0 < numeral l) :
    decV (l.take (numeral l)) = if (numOf (l.take (numeral l))).e = 3 then numV 0 0 30 else numV (numOf (l.take (numeral l))).t.p (numOf (l.take (numeral l))).t.q (numOf (l.take (numeral l))).e := by
  obtain ⟨wh, pt, pd, a1, a2, hm, b1, b2, -, -, -⟩ := numeral_parts l h0
  generalize l.take (numeral l) = m at hm
  have hcut : Lib.cut m [46] = (wh, pt, pd) := by
    cases pd
    · simp only [Bool.false_eq_true, if_false] at hm
      rw [hm, (b2 rfl).2]; exact cutB_no 46 wh (fun c hc => digit_ne (a1 c hc))
    · simp only [if_true] at hm
      rw [hm]; exact cutB_app 46 wh pt (fun c hc => digit_ne (a1 c hc))
  have hp := numOf_parts m wh pt pd a1 hm (fun h => (b2 h).2)
  rw [decV_of hcut]
  simp only [numOf, hp.1, hp.2]
  have hbad : decBad wh pt pd = decide (9 < wh.length ∨ 5 < pt.length) := by
    unfold decBad
    rw [dig_of a1, dig_of a2]
    cases pd
    · have := (b2 rfl).1
      have hw : wh.isEmpty = false := by simpa using this
      rw [hw]; rw [Bool.eq_iff_iff]; simp
    · have := b1 rfl
      have hw : pt.isEmpty = false := by simpa using this
      rw [hw]; rw [Bool.eq_iff_iff]; simp
  unfold decV3
  rw [hbad]
  by_cases hb : 9 < wh.length ∨ 5 < pt.length
  · rw [if_pos (by simpa using hb), if_pos hb]; rfl
  · rw [if_neg (by simpa using hb), if_neg hb]
    rcases mkE_pow (dval (wh ++ pt)) pt.length with h | ⟨h, hP, hQ⟩
    · simp only [h]; rfl
    · simp only [h, hP, hQ]; rfl
theorem numOf_bad (l : List UInt8) (h : (numOf l).e ≠ 0) : (numOf l).t.p = 0 ∧ (numOf l).t.q = 0 := by
  simp only [numOf] at h ⊢; split
  · exact ⟨rfl, rfl⟩
  · split
    · rename_i h1 h2; rw [if_neg h1, if_pos h2] at h; exact absurd rfl h
    · exact ⟨rfl, rfl⟩

theorem sgs_len : sgs.length = 31 := rfl
theorem sgn_hit (l : List UInt8) (k : Nat) (hk : k < 31) (h0 : ∀ i, i < k → (sgs.getD i []).isPrefixOf l = false) (h1 : (sgs.getD k []).isPrefixOf l = true) : sgn l = sgs.getD k [] := by
  have e : sgs = sgs.take k ++ sgs.getD k [] :: sgs.drop (k + 1) := by
    have := List.take_append_drop k sgs
    rw [List.drop_eq_getElem_cons (by rw [sgs_len]; exact hk)] at this
    rw [List.getD, List.getElem?_eq_getElem (by rw [sgs_len]; exact hk)]
    exact this.symm
  have hnone : (sgs.take k).find? (fun s => s.isPrefixOf l) = none := by
    rw [List.find?_eq_none]
    intro x hx
    obtain ⟨i, hi, rfl⟩ := List.getElem_of_mem hx
    rw [List.length_take] at hi
    have := h0 i (by omega)
    rw [List.getElem_take, Bool.not_eq_true]
    rwa [List.getD, List.getElem?_eq_getElem (by rw [sgs_len]; omega)] at this
  unfold sgn
  conv => lhs; rw [e]
  rw [List.find?_append, hnone]
  simp only [Option.none_or]
  rw [List.find?_cons]; simp only [h1]; rfl
theorem sgn_none (l : List UInt8) (h0 : ∀ i, i < 31 → (sgs.getD i []).isPrefixOf l = false) : sgn l = [] := by
  have hnone : sgs.find? (fun s => s.isPrefixOf l) = none := by
    rw [List.find?_eq_none]
    intro x hx
    obtain ⟨i, hi, rfl⟩ := List.getElem_of_mem hx
    rw [sgs_len] at hi
    have := h0 i hi
    rw [Bool.not_eq_true]
    rwa [List.getD, List.getElem?_eq_getElem (by rw [sgs_len]; omega)] at this
  unfold sgn; rw [hnone]; rfl
end Lx
end Go.Proofs.YtmfbnlaohlnljaaGreatDoor
