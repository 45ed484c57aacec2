/-
  The mathematics of tokens, further: tokens of two strings with blanks and comments between them.
-/
import Derived.Test.YtcgiibjkonleeaaGreatDoorLxM4
namespace Go.Proofs.YtcgiibjkonleeaaGreatDoor
namespace Lx

theorem take_app_le (s x : List UInt8) (n : Nat) (h : n ≤ s.length) : (s ++ x).take n = s.take n := List.take_append_of_le_length h
theorem strOf_app (s x : List UInt8) (h : (strOf s).e = 0) : strOf (s ++ x) = strOf s := by
  have hm := runN_le notQ s
  unfold strOf at h ⊢
  simp only at h ⊢
  split at h
  · simp [One.bad] at h
  · rename_i hb
    have hlt : runN notQ s < s.length := by
      have : ¬ runN notQ s = s.length := fun e => hb (Or.inl e)
      omega
    have hall : ¬ allB quot (s.take (runN notQ s)) = false := fun e => hb (Or.inr e)
    rw [runN_app_lt notQ s x hlt, take_app_le s x _ hm, if_neg hb, if_neg (by rw [List.length_append]; rintro (h1 | h1); omega; exact hall h1)]
/-- A token is read as it is alone, if a byte that ends every token follows. -/
theorem first_app (d : UInt8) (hd : Ends d) (s r : List UInt8) (hs : s ≠ []) (h : (first s).e = 0) : first (s ++ d :: r) = first s := by
  have hl := runN_app_stop letter d hd.l s r
  have hn := numeral_app d hd s r
  have hg := sgn_app d hd s r
  have a := runN_le letter s
  have b := numeral_le s
  have h0 : (s ++ d :: r).getD 0 0 = s.getD 0 0 := by cases s with | nil => exact absurd rfl hs | cons c s => rfl
  have h1 : (s ++ d :: r).drop 1 = s.drop 1 ++ d :: r := by cases s with | nil => exact absurd rfl hs | cons c s => rfl
  unfold first at h ⊢
  rw [hl, hn, hg, h0, h1, take_app_le s _ _ a, take_app_le s _ _ b]
  split
  · rfl
  split
  · rfl
  split
  · rename_i h2 h3 h4
    rw [if_neg h2, if_neg h3, if_pos h4] at h
    exact strOf_app _ _ h
  · rfl

/-- What may stand between two tokens. -/
structure Sep (x : List UInt8) : Prop where
  ends : ∃ d y, x = d :: y ∧ Ends d
  gone : ∀ r, bar (x ++ r) = bar r
  eaten : ∀ r, bar ((x ++ r).drop (runN notNl (x ++ r))) = bar r
theorem bar_parts (x : List UInt8) (hx : Sep x) (r : List UInt8) : ∀ (n : Nat) (s : List UInt8) (a : List Tk), s.length < n → bar s = some a → bar (s ++ x ++ r) = (bar r).map (a ++ ·) := by
  intro n
  induction n with
  | zero => intro s a h; omega
  | succ n ih =>
    intro s a hlen h
    rcases front s with rfl | ⟨c, t, rfl, hb⟩ | ⟨t, rfl⟩ | ⟨c, t, rfl, hb, h37⟩
    · rw [bar_nil] at h
      injection h with h
      subst h
      rw [List.nil_append, hx.gone]
      cases bar r <;> simp
    · rw [bar_blank c t hb] at h
      rw [List.cons_append, List.cons_append, bar_blank c _ hb]
      exact ih t a (by simp only [List.length_cons] at hlen; omega) h
    · have hp := notNl_pos t
      have hle := runN_le notNl (37 :: t)
      rw [bar_comment] at h
      by_cases hf : runN notNl (37 :: t) = (37 :: t).length
      · rw [hf, List.drop_length, bar_nil] at h
        injection h with h
        subst h
        have hall := (runN_eq_length notNl (37 :: t)).1 hf
        have e : runN notNl (37 :: t ++ x ++ r) = (37 :: t).length + runN notNl (x ++ r) := by rw [List.append_assoc]; exact runN_app notNl _ _ hall
        have hc : bar (37 :: t ++ x ++ r) = bar ((37 :: t ++ x ++ r).drop (runN notNl (37 :: t ++ x ++ r))) := by
          rw [List.cons_append, List.cons_append]; exact bar_comment _
        rw [hc, e, List.append_assoc, List.drop_append, List.drop_eq_nil_of_le (by omega), List.nil_append, show (37 :: t).length + runN notNl (x ++ r) - (37 :: t).length = runN notNl (x ++ r) by omega, hx.eaten]
        cases bar r <;> simp
      · have hlt : runN notNl (37 :: t) < (37 :: t).length := by omega
        have e : runN notNl (37 :: t ++ (x ++ r)) = runN notNl (37 :: t) := runN_app_lt notNl _ _ hlt
        have hc : bar (37 :: t ++ x ++ r) = bar ((37 :: t ++ (x ++ r)).drop (runN notNl (37 :: t ++ (x ++ r)))) := by
          rw [List.append_assoc]; exact bar_comment _
        rw [hc, e, List.drop_append_of_le_length hle, ← List.append_assoc]
        exact ih _ a (by rw [List.length_drop]; omega) h
    · have hn := first_n (c :: t) (by simp)
      by_cases he : (first (c :: t)).e = 0
      · rw [bar_tok c t hb h37 he] at h
        cases h2 : bar ((c :: t).drop (first (c :: t)).n) with
        | none => rw [h2] at h; cases h
        | some a' =>
          rw [h2] at h
          simp only [Option.map_some, Option.some.injEq] at h
          obtain ⟨d, y, hd, hends⟩ := hx.ends
          have hf : first (c :: t ++ x ++ r) = first (c :: t) := by rw [List.append_assoc, hd]; exact first_app d hends _ _ (by simp) he
          have hc : bar (c :: t ++ x ++ r) = (bar ((c :: t ++ x ++ r).drop (first (c :: t)).n)).map ((first (c :: t)).t :: ·) := by
            have := bar_tok c (t ++ x ++ r) hb h37 (by have := hf; simp only [List.cons_append] at this; rw [this]; exact he)
            simp only [List.cons_append] at hf ⊢
            rw [this, hf]
          rw [hc, List.append_assoc, List.drop_append_of_le_length hn.2, ← List.append_assoc, ih _ a' (by rw [List.length_drop]; omega) h2, ← h]
          cases bar r <;> simp
      · rw [bar_bad c t hb h37 he] at h; cases h

theorem ends10 : Ends 10 := ⟨by decide, by decide, by decide, by decide +kernel⟩
theorem ends32 : Ends 32 := ⟨by decide, by decide, by decide, by decide +kernel⟩
theorem ends13 : Ends 13 := ⟨by decide, by decide, by decide, by decide +kernel⟩
theorem bl10 (l : List UInt8) : bar (10 :: l) = bar l := bar_blank 10 l (by decide)
theorem bl32 (l : List UInt8) : bar (32 :: l) = bar l := bar_blank 32 l (by decide)
theorem bl13 (l : List UInt8) : bar (13 :: l) = bar l := bar_blank 13 l (by decide)
theorem bl9 (l : List UInt8) : bar (9 :: l) = bar l := bar_blank 9 l (by decide)
theorem sep0 : Sep [10] := ⟨⟨10, [], rfl, ends10⟩, fun r => bl10 r, fun r => by simp [runN, notNl, bl10]⟩
theorem sep1 : Sep [10, 10] := ⟨⟨10, _, rfl, ends10⟩, fun r => by simp [bl10], fun r => by simp [runN, notNl, bl10]⟩
theorem sep2 : Sep [10, 32, 9] := ⟨⟨10, _, rfl, ends10⟩, fun r => by simp [bl10, bl32, bl9], fun r => by simp [runN, notNl, bl10, bl32, bl9]⟩
theorem com1 (r : List UInt8) : bar (37 :: 32 :: 97 :: 32 :: 34 :: 98 :: 10 :: r) = bar r := by rw [bar_comment]; simp [runN, notNl, bl10]
theorem sep3 : Sep [32, 37, 32, 97, 32, 34, 98, 10] := ⟨⟨32, _, rfl, ends32⟩, fun r => by simp [bl32, com1], fun r => by simp [runN, notNl, bl10]⟩
theorem sep4 : Sep [13, 10] := ⟨⟨13, _, rfl, ends13⟩, fun r => by simp [bl13, bl10], fun r => by simp [runN, notNl, bl10]⟩
theorem com2 (r : List UInt8) : bar (37 :: 10 :: r) = bar r := by rw [bar_comment]; simp [runN, notNl, bl10]
theorem com3 (r : List UInt8) : bar (37 :: 49 :: 46 :: 50 :: 46 :: 10 :: r) = bar r := by rw [bar_comment]; simp [runN, notNl, bl10]
theorem sep5 : Sep [10, 37, 10, 37, 49, 46, 50, 46, 10, 32] := ⟨⟨10, _, rfl, ends10⟩, fun r => by simp [bl10, bl32, com2, com3], fun r => by simp [runN, notNl, bl10, bl32, com2, com3]⟩
/-- The string that stands between, by a number. -/
def betw (b : Nat) : List UInt8 := [[10, 10], [10, 32, 9], [32, 37, 32, 97, 32, 34, 98, 10], [13, 10], [10, 37, 10, 37, 49, 46, 50, 46, 10, 32]].getD (b % 5) []
theorem betw_sep (b : Nat) : Sep (betw b) := by
  unfold betw
  have h : b % 5 = 0 ∨ b % 5 = 1 ∨ b % 5 = 2 ∨ b % 5 = 3 ∨ b % 5 = 4 := by omega
  rcases h with h | h | h | h | h <;> rw [h]
  · exact sep1
  · exact sep2
  · exact sep3
  · exact sep4
  · exact sep5
theorem betw_len (b : Nat) : (betw b).length ≤ 10 := by
  unfold betw
  have h : b % 5 = 0 ∨ b % 5 = 1 ∨ b % 5 = 2 ∨ b % 5 = 3 ∨ b % 5 = 4 := by omega
  rcases h with h | h | h | h | h <;> rw [h] <;> decide
theorem parts_of (x : List UInt8) (hx : Sep x) (s t : List UInt8) (a b : List Tk) (h1 : bar s = some a) (h2 : bar t = some b) : bar (s ++ x ++ t) = some (a ++ b) := by
  rw [bar_parts x hx t _ s a (Nat.lt_succ_self _) h1, h2]; rfl
end Lx
end Go.Proofs.YtcgiibjkonleeaaGreatDoor
