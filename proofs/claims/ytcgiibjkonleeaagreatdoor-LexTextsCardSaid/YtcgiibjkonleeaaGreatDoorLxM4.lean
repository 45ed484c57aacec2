/-
  The mathematics of tokens, further: positions do not matter; parts of a string.
-/
import Derived.Test.YtcgiibjkonleeaaGreatDoorLxM3
namespace Go.Proofs.YtcgiibjkonleeaaGreatDoor
namespace Lx

/-- The tokens, but for their positions. -/
def Res.bare : Res → Option (List Tk)
  | .ok l => some (l.map (·.toTk))
  | .bad .. => none
theorem bare_cons (t : Tp) (r : Res) : (r.cons t).bare = r.bare.map (t.toTk :: ·) := by cases r <;> rfl
/-- Cases of a string's front. -/
theorem front (l : List UInt8) : l = [] ∨ (∃ c t, l = c :: t ∧ blank c = true) ∨ (∃ t, l = 37 :: t) ∨ (∃ c t, l = c :: t ∧ blank c = false ∧ c ≠ 37) := by
  cases l with
  | nil => left; rfl
  | cons c t =>
    right
    cases h : blank c
    · right
      by_cases e : c = 37
      · left; exact ⟨t, by rw [e]⟩
      · right; exact ⟨c, t, rfl, h, e⟩
    · left; exact ⟨c, t, rfl, h⟩
theorem notNl_pos (t : List UInt8) : 1 ≤ runN notNl (37 :: t) := by simp [runN, notNl]
theorem bare_pos : ∀ (n : Nat) (l : List UInt8) (p q : Int × Int), l.length < n → (toks l p).bare = (toks l q).bare := by
  intro n
  induction n with
  | zero => intro l p q h; omega
  | succ n ih =>
    intro l p q h
    rcases front l with rfl | ⟨c, t, rfl, hb⟩ | ⟨t, rfl⟩ | ⟨c, t, rfl, hb, h37⟩
    · rfl
    · rw [toks_blank c t p hb, toks_blank c t q hb]
      exact ih t _ _ (by simp only [List.length_cons] at h; omega)
    · rw [toks_comment, toks_comment]
      have := notNl_pos t
      have h2 : (37 :: t).length = t.length + 1 := rfl
      exact ih _ _ _ (by rw [List.length_drop]; omega)
    · have hn := first_n (c :: t) (by simp)
      by_cases he : (first (c :: t)).e = 0
      · rw [toks_tok c t p hb h37 he, toks_tok c t q hb h37 he, bare_cons, bare_cons, ih _ _ _ (by rw [List.length_drop]; omega)]
      · rw [toks_bad c t p hb h37 he, toks_bad c t q hb h37 he]; rfl
/-- The tokens of a string, but for their positions. -/
def bar (l : List UInt8) : Option (List Tk) := (toks l (1, 1)).bare
theorem bar_at (l : List UInt8) (p : Int × Int) : (toks l p).bare = bar l := bare_pos _ l _ _ (Nat.lt_succ_self _)
theorem bar_nil : bar [] = some [] := rfl
theorem bar_blank (c : UInt8) (l : List UInt8) (h : blank c = true) : bar (c :: l) = bar l := by unfold bar; rw [toks_blank c l _ h, bar_at]; rfl
theorem bar_comment (l : List UInt8) : bar (37 :: l) = bar ((37 :: l).drop (runN notNl (37 :: l))) := by unfold bar; rw [toks_comment, bar_at]; rfl
theorem bar_tok (c : UInt8) (l : List UInt8) (hb : blank c = false) (h37 : c ≠ 37) (he : (first (c :: l)).e = 0) : bar (c :: l) = (bar ((c :: l).drop (first (c :: l)).n)).map ((first (c :: l)).t :: ·) := by
  unfold bar; rw [toks_tok c l _ hb h37 he, bare_cons, bar_at]; rfl
theorem bar_bad (c : UInt8) (l : List UInt8) (hb : blank c = false) (h37 : c ≠ 37) (he : (first (c :: l)).e ≠ 0) : bar (c :: l) = none := by
  unfold bar; rw [toks_bad c l _ hb h37 he]; rfl
theorem bar_ok {l : List UInt8} {ts : List Tp} {p : Int × Int} (h : toks l p = .ok ts) : bar l = some (ts.map (·.toTk)) := by rw [← bar_at l p, h]; rfl
theorem ok_of_bar {l : List UInt8} {a : List Tk} (h : bar l = some a) (p : Int × Int) : ∃ ts, toks l p = .ok ts ∧ ts.map (·.toTk) = a := by
  rw [← bar_at l p] at h
  cases hr : toks l p with
  | ok ts => rw [hr] at h; exact ⟨ts, rfl, by simpa [Res.bare] using h⟩
  | bad e n x y => rw [hr] at h; simp [Res.bare] at h

/-- A byte that ends every token. -/
structure Ends (d : UInt8) : Prop where
  l : letter d = false
  g : digit d = false
  p : d ≠ 46
  s : ∀ x ∈ sgs, d ∉ x
theorem runN_app_stop (p : UInt8 → Bool) (d : UInt8) (hd : p d = false) (s r : List UInt8) : runN p (s ++ d :: r) = runN p s := by
  induction s with
  | nil => simp [runN, hd]
  | cons c s ih => simp only [List.cons_append, runN, ih]
theorem runN_app_lt (p : UInt8 → Bool) (s x : List UInt8) (h : runN p s < s.length) : runN p (s ++ x) = runN p s := by
  induction s with
  | nil => simp at h
  | cons c s ih =>
    by_cases hc : p c = true
    · simp only [List.cons_append, runN, hc, if_true, List.length_cons] at h ⊢
      rw [ih (by omega)]
    · simp [runN, hc]
theorem numeral_app (d : UInt8) (hd : Ends d) (s r : List UInt8) : numeral (s ++ d :: r) = numeral s := by
  have h1 := runN_app_stop digit d hd.g s r
  have hle := runN_le digit s
  unfold numeral
  rw [h1, List.drop_append_of_le_length hle]
  cases h : s.drop (runN digit s) with
  | nil =>
    simp only [List.nil_append]
    split
    · rename_i t e; injection e with e _; exact absurd e hd.p
    · rfl
  | cons c t =>
    simp only [List.cons_append]
    by_cases hc : c = 46
    · subst hc
      simp only [runN_app_stop digit d hd.g t r]
    · split
      · rename_i t' e; injection e with e _; exact absurd e hc
      · split
        · rename_i t' e; injection e with e _; exact absurd e hc
        · rfl
theorem sgn_app (d : UInt8) (hd : Ends d) (s r : List UInt8) : sgn (s ++ d :: r) = sgn s := by
  unfold sgn
  congr 1
  have key : ∀ x ∈ sgs, x.isPrefixOf (s ++ d :: r) = x.isPrefixOf s := by
    intro x hx
    rw [Bool.eq_iff_iff, List.isPrefixOf_iff_prefix, List.isPrefixOf_iff_prefix]
    constructor
    · intro h
      by_cases hl : x.length ≤ s.length
      · exact List.prefix_of_prefix_length_le h (List.prefix_append s (d :: r)) hl
      · exfalso
        have hx2 := List.IsPrefix.getElem (i := s.length) h (by omega)
        have : x[s.length]'(by omega) = d := by rw [hx2]; simp
        exact hd.s x hx (this ▸ List.getElem_mem _)
    · intro h; exact h.trans (List.prefix_append _ _)
  generalize sgs = L at key
  induction L with
  | nil => rfl
  | cons x L ih =>
    rw [List.find?_cons, List.find?_cons, key x (by simp), ih (fun y hy => key y (by simp [hy]))]
end Lx
end Go.Proofs.YtcgiibjkonleeaaGreatDoor
