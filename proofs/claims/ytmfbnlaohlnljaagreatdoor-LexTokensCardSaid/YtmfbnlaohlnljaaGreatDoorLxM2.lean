/-
  The mathematics of tokens, further: steps of the scan; what a token leaves.
-/
import Derived.Test.YtmfbnlaohlnljaaGreatDoorLxM
namespace Go.Proofs.YtmfbnlaohlnljaaGreatDoor
namespace Lx

theorem numeral_cases (l : List UInt8) : (∃ t, l.drop (runN digit l) = 46 :: t ∧ runN digit t ≠ 0 ∧ numeral l = runN digit l + 1 + runN digit t) ∨ numeral l = runN digit l := by
  unfold numeral
  split
  · rename_i t h
    by_cases h0 : runN digit t = 0
    · right; simp [h0]
    · left; exact ⟨t, h, h0, by simp [h0]⟩
  · right; rfl
theorem numeral_le (l : List UInt8) : numeral l ≤ l.length := by
  rcases numeral_cases l with ⟨t, h, h0, e⟩ | e
  · have a := runN_le digit t
    have b := congrArg List.length h
    simp only [List.length_drop, List.length_cons] at b
    omega
  · rw [e]; exact runN_le _ _
theorem sgn_mem (l : List UInt8) : sgn l = [] ∨ (sgn l ∈ sgs ∧ (sgn l).isPrefixOf l = true) := by
  unfold sgn
  cases h : sgs.find? fun s => s.isPrefixOf l with
  | none => left; rfl
  | some s => right; exact ⟨List.mem_of_find?_eq_some h, by simpa using List.find?_some h⟩
theorem sgs_small : ∀ s ∈ sgs, 1 ≤ s.length ∧ s.length ≤ 4 ∧ ∀ c ∈ s, c ≠ 10 ∧ c ≠ 32 ∧ c ≠ 37 ∧ letter c = false ∧ digit c = false ∧ blank c = false ∧ c ≠ 34 := by decide
theorem prefix_take {s l : List UInt8} (h : s.isPrefixOf l = true) : s.length ≤ l.length ∧ l.take s.length = s := by
  rw [List.isPrefixOf_iff_prefix] at h
  obtain ⟨t, rfl⟩ := h
  exact ⟨by simp, by simp⟩
theorem numOf_n (l : List UInt8) : (numOf l).n = l.length ∧ (numOf l).e ∈ [0, 3, 17] := by
  simp only [numOf]; split
  · simp [One.bad]
  · split <;> simp [One.bad]
theorem strOf_n (l : List UInt8) : 1 ≤ (strOf l).n ∧ (strOf l).n ≤ l.length + 1 ∧ (strOf l).e ∈ [0, 3, 10] := by
  have := runN_le notQ l
  simp only [strOf]; split
  · simp [One.bad]
  · rename_i h
    have h' : ¬ runN notQ l = l.length := fun e => h (Or.inl e)
    split <;> simp [One.bad] <;> omega
/-- What is read is not empty, and lies in the string. -/
theorem first_n (l : List UInt8) (hl : l ≠ []) : 1 ≤ (first l).n ∧ (first l).n ≤ l.length := by
  have h0 : 1 ≤ l.length := by cases l <;> simp_all
  have a := runN_le letter l
  have b := numeral_le l
  simp only [first]
  split
  · split <;> simp [One.bad] <;> omega
  · split
    · rw [(numOf_n _).1, List.length_take]; omega
    · split
      · have := strOf_n (l.drop 1); rw [List.length_drop] at this; omega
      · split
        · simp [One.bad]; omega
        · rcases sgn_mem l with h | ⟨h, hp⟩
          · contradiction
          · have := sgs_small _ h; have := (prefix_take hp).1; simp; omega

theorem notNl_not {p : UInt8 → Bool} (hp : p 10 = false) {c : UInt8} (h : p c = true) : c ≠ 10 := by rintro rfl; rw [hp] at h; cases h
theorem numeral_take (l : List UInt8) : ∀ c ∈ l.take (numeral l), digit c = true ∨ c = 46 := by
  intro c hc
  rcases numeral_cases l with ⟨t, h, h0, e⟩ | e
  · have hl : l = l.take (runN digit l) ++ 46 :: t := by rw [← h, List.take_append_drop]
    rw [e] at hc
    rw [hl, List.take_append] at hc
    have hr := runN_le digit l
    rw [← hl] at hc
    have e1 : runN digit l + 1 + runN digit t - (l.take (runN digit l)).length = runN digit t + 1 := by rw [List.length_take]; omega
    rw [e1, List.take_succ_cons, List.take_take] at hc
    simp only [List.mem_append, List.mem_cons] at hc
    rcases hc with hc | rfl | hc
    · left; exact runN_take_all digit l c (by rwa [Nat.min_eq_right (by omega)] at hc)
    · right; rfl
    · left; exact runN_take_all digit t c hc
  · rw [e] at hc; left; exact runN_take_all digit l c hc
/-- No token spans two lines. -/
theorem first_line (l : List UInt8) (he : (first l).e = 0) : ∀ c ∈ l.take (first l).n, c ≠ 10 := by
  intro c hc
  simp only [first] at he hc
  split at he
  · rw [if_pos (by assumption)] at hc
    split at he
    · simp [One.bad] at he
    · rw [if_neg (by assumption)] at hc
      exact notNl_not (by decide) (runN_take_all letter l c hc)
  · rw [if_neg (by assumption)] at hc
    split at he
    · rw [if_pos (by assumption), (numOf_n _).1, List.length_take, Nat.min_eq_left (numeral_le l)] at hc
      rcases numeral_take l c hc with h | rfl
      · exact notNl_not (by decide) h
      · decide
    · rw [if_neg (by assumption)] at hc
      split at he
      · rename_i hq
        rw [if_pos hq] at hc
        simp only [strOf] at he hc
        split at he
        · simp [One.bad] at he
        · rename_i hbad
          rw [if_neg hbad] at hc
          split at he
          · simp [One.bad] at he
          · rw [if_neg (by assumption)] at hc
            have hm := runN_le notQ (l.drop 1)
            have hne : runN notQ (l.drop 1) < (l.drop 1).length := by
              have : ¬ runN notQ (l.drop 1) = (l.drop 1).length := fun e => hbad (Or.inl e)
              omega
            have hall : allB quot ((l.drop 1).take (runN notQ (l.drop 1))) = true := by
              cases h : allB quot ((l.drop 1).take (runN notQ (l.drop 1)))
              · exact absurd (Or.inr h) hbad
              · rfl
            rw [allB_iff] at hall
            have hst := runN_stop notQ (l.drop 1) hne
            have hend : (l.drop 1).getD (runN notQ (l.drop 1)) 0 = 34 := by simpa [notQ] using hst
            cases l with
            | nil => simp at hc
            | cons d l =>
              simp only [List.drop_succ_cons, List.drop_zero] at *
              simp only [List.getD_cons_zero] at hq
              subst hq
              simp only [List.take_succ_cons, List.mem_cons] at hc
              rcases hc with rfl | hc
              · decide
              · rw [List.take_succ_eq_append_getElem hne] at hc
                simp only [List.mem_append, List.mem_singleton] at hc
                rcases hc with hc | rfl
                · exact notNl_not (by decide) (hall c hc)
                · have e : l.getD (runN notQ l) 0 = l[runN notQ l] := by simp [List.getD, List.getElem?_eq_getElem hne]
                  rw [← e, hend]; decide
      · rw [if_neg (by assumption)] at hc
        split at he
        · simp [One.bad] at he
        · rw [if_neg (by assumption)] at hc
          rcases sgn_mem l with h | ⟨h, hp⟩
          · contradiction
          · simp only [(prefix_take hp).2] at hc
            exact ((sgs_small _ h).2.2 c hc).1

/-- More steps change nothing, where there are enough. -/
theorem scan_fuel (f : Nat) : ∀ (g : Nat) (l : List UInt8) (p : Int × Int), l.length < f → l.length < g → scan f l p = scan g l p := by
  induction f with
  | zero => intro g l p h; omega
  | succ f ih =>
    intro g l p hf hg
    cases g with
    | zero => omega
    | succ g =>
      cases l with
      | nil => rfl
      | cons c l =>
        simp only [List.length_cons] at hf hg
        simp only [scan]
        by_cases hb : blank c = true
        · rw [if_pos hb, if_pos hb]; exact ih g l _ (by omega) (by omega)
        · rw [if_neg hb, if_neg hb]
          by_cases h37 : c = 37
          · rw [if_pos h37, if_pos h37]
            have : 0 < runN notNl (c :: l) := by simp [runN, notNl, h37]
            refine ih g _ _ ?_ ?_ <;> rw [List.length_drop, List.length_cons] <;> omega
          · rw [if_neg h37, if_neg h37]
            have := first_n (c :: l) (by simp)
            by_cases he : (first (c :: l)).e = 0
            · rw [if_pos he, if_pos he, ih g _ _ (by rw [List.length_drop, List.length_cons]; omega) (by rw [List.length_drop, List.length_cons]; omega)]
            · rw [if_neg he, if_neg he]
/-- The tokens of a string from a place on. -/
def toks (l : List UInt8) (p : Int × Int) : Res := scan (l.length + 1) l p
theorem toks_nil (p : Int × Int) : toks [] p = .ok [] := rfl
theorem toks_blank (c : UInt8) (l : List UInt8) (p : Int × Int) (h : blank c = true) : toks (c :: l) p = toks l (advC c p) := by
  unfold toks; rw [List.length_cons, scan, if_pos h]
theorem toks_comment (l : List UInt8) (p : Int × Int) : toks (37 :: l) p = toks ((37 :: l).drop (runN notNl (37 :: l))) (p.1, p.2 + runN notNl (37 :: l)) := by
  have : 0 < runN notNl (37 :: l) := by simp [runN, notNl]
  unfold toks
  rw [List.length_cons, scan, if_neg (by decide), if_pos rfl]
  exact scan_fuel _ _ _ _ (by rw [List.length_drop, List.length_cons]; omega) (by omega)
theorem toks_tok (c : UInt8) (l : List UInt8) (p : Int × Int) (hb : blank c = false) (h37 : c ≠ 37) (he : (first (c :: l)).e = 0) :
    toks (c :: l) p = (toks ((c :: l).drop (first (c :: l)).n) (p.1, p.2 + (first (c :: l)).n)).cons ⟨(first (c :: l)).t, p.1, p.2⟩ := by
  have := first_n (c :: l) (by simp)
  unfold toks
  rw [List.length_cons, scan, if_neg (by simp [hb]), if_neg h37, if_pos he]
  congr 1
  exact scan_fuel _ _ _ _ (by rw [List.length_drop, List.length_cons]; omega) (by omega)
theorem toks_bad (c : UInt8) (l : List UInt8) (p : Int × Int) (hb : blank c = false) (h37 : c ≠ 37) (he : (first (c :: l)).e ≠ 0) :
    toks (c :: l) p = .bad (first (c :: l)).e ((c :: l).take (min (first (c :: l)).n 40)) p.1 p.2 := by
  unfold toks
  rw [List.length_cons, scan, if_neg (by simp [hb]), if_neg h37, if_neg he]
/-- Blanks in front. -/
theorem toks_blanks (l : List UInt8) : ∀ p, toks l p = toks (l.drop (runN blank l)) (adv (l.take (runN blank l)) p) := by
  induction l with
  | nil => intro p; rfl
  | cons c l ih =>
    intro p
    by_cases h : blank c = true
    · rw [toks_blank c l p h, ih]; simp [runN, h, adv_cons]
    · simp [runN, h, adv_nil]
/-- A comment in front. -/
theorem toks_comment' (l : List UInt8) (p : Int × Int) (h : l.getD 0 0 = 37) : toks l p = toks (l.drop (runN notNl l)) (adv (l.take (runN notNl l)) p) := by
  cases l with
  | nil => simp at h
  | cons c l =>
    simp only [List.getD_cons_zero] at h
    subst h
    rw [toks_comment, adv_plain _ _ (fun c hc => notNl_not (by decide) (runN_take_all notNl _ c hc)), List.length_take, Nat.min_eq_left (runN_le _ _)]
end Lx
end Go.Proofs.YtmfbnlaohlnljaaGreatDoor
