/-
  The mathematics of tokens, further: tokens as they are written are read as they were; what is read is valid.
-/
import Derived.Test.YtnhcjgnohnedaaaGreatDoorLxM6
import Derived.Test.YtnhcjgnohnedaaaGreatDoorLxT
namespace Go.Proofs.YtnhcjgnohnedaaaGreatDoor
def Tv.tk (x : Tv) : Lx.Tk := ⟨x.k, x.t.data.toList, x.p, x.q⟩
namespace Lx

theorem letter_not {c : UInt8} (h : letter c = true) : digit c = false ∧ c ≠ 46 ∧ c ≠ 34 := by
  refine ⟨?_, ?_, ?_⟩
  · simp [letter] at h
    simp [digit]
    rcases h with (h | h) | rfl
    · intro _; omega
    · intro _; omega
    · decide
  · rintro rfl; revert h; decide
  · rintro rfl; revert h; decide
theorem first_text (t : List UInt8) (hl : t.length ≤ 100) (h : allB quot t = true) : first (34 :: (t ++ [34])) = ⟨⟨3, t, 0, 0⟩, (34 :: (t ++ [34])).length, 0⟩ := by
  have hq := (allB_iff _ _).1 h
  have e1 : runN letter (34 :: (t ++ [34])) = 0 := by simp [runN, letter]
  have e2 : numeral (34 :: (t ++ [34])) = 0 := by simp [numeral, runN, digit]
  have e3 : runN notQ (t ++ [34]) = t.length := by
    rw [runN_app notQ t _ (fun c hc => by have := hq c hc; simp [quot] at this; simp [notQ, this.2])]
    simp [runN, notQ]
  unfold first
  rw [e1, if_neg (by omega), e2, if_neg (by omega), if_pos (show (34 :: (t ++ [34])).getD 0 0 = 34 from rfl)]
  unfold strOf
  simp only [List.drop_one, List.tail_cons, e3, List.take_left]
  rw [if_neg (by rw [List.length_append, h]; simp), if_neg (by omega)]
  simp
theorem first_blank (c : UInt8) (t : List UInt8) (h : (first (c :: t)).e = 0) : blank c = false ∧ c ≠ 37 := by
  have key : c = 32 ∨ c = 9 ∨ c = 10 ∨ c = 13 ∨ c = 37 → (first (c :: t)).e ≠ 0 := by
    rintro (rfl | rfl | rfl | rfl | rfl) <;> simp [first, runN, letter, numeral, digit, sgn, sgs, List.isPrefixOf, One.bad]
  refine ⟨?_, fun e => key (by simp [e]) h⟩
  cases hb : blank c
  · rfl
  · exact absurd h (key (by simp [blank] at hb; rcases hb with ((hb | hb) | hb) | hb <;> simp [hb]))
/-- The number that is read is a number in decimals. -/
theorem num_valid (l : List UInt8) (h0 : 0 < numeral l) (h : (numOf (l.take (numeral l))).e = 0) : (numOf (l.take (numeral l))).t.kind = 2 ∧ (numOf (l.take (numeral l))).t.text = [] ∧ decB (numOf (l.take (numeral l))).t.p (numOf (l.take (numeral l))).t.q = true := by
  obtain ⟨wh, pt, pd, a1, a2, hm, b1, b2, -, -, -⟩ := numeral_parts l h0
  generalize l.take (numeral l) = m at hm h
  obtain ⟨e1, e2⟩ := numOf_parts m wh pt pd a1 hm (fun h => (b2 h).2)
  unfold numOf at h ⊢
  simp only [e1, e2] at h ⊢
  by_cases hl : 9 < wh.length ∨ 5 < pt.length
  · rw [if_pos hl] at h; cases h
  rw [if_neg hl] at h ⊢
  by_cases hE : Nm.mkE (dval (wh ++ pt)) ((10 ^ pt.length : Nat) : Int) = 0
  case neg => rw [if_neg hE] at h; cases h
  rw [if_pos hE] at h ⊢
  refine ⟨rfl, rfl, ?_⟩
  have hT0 : 0 < 10 ^ pt.length := Nat.pow_pos (by decide)
  have hT : ((10 ^ pt.length : Nat) : Int) ≠ 0 := by omega
  obtain ⟨s1, s2⟩ := Nm.mk_spec hT hE
  have hQ : Nm.mkQ (dval (wh ++ pt)) ((10 ^ pt.length : Nat) : Int) = (Nm.bot (dval (wh ++ pt)) ((10 ^ pt.length : Nat) : Int) : Int) := by rw [Nm.mkQ, if_pos hE]
  have hP : Nm.mkP (dval (wh ++ pt)) ((10 ^ pt.length : Nat) : Int) = (Nm.top (dval (wh ++ pt)) ((10 ^ pt.length : Nat) : Int) : Int) := by
    rw [Nm.mkP, if_pos hE, if_neg]
    unfold Nm.neg
    have h1 : ¬ ((dval (wh ++ pt) : Int) < 0) := by omega
    have h2 : ¬ (((10 ^ pt.length : Nat) : Int) < 0) := by omega
    rw [decide_eq_false h1, decide_eq_false h2]; decide
  have hdv : Nm.bot (dval (wh ++ pt)) ((10 ^ pt.length : Nat) : Int) ∣ 100000 := by
    have d1 : Nm.bot (dval (wh ++ pt)) ((10 ^ pt.length : Nat) : Int) ∣ 10 ^ pt.length := by
      unfold Nm.bot
      rw [Int.natAbs_natCast]
      exact Nat.div_dvd_of_dvd (by unfold Nm.gcdn; rw [Int.natAbs_natCast]; exact Nat.gcd_dvd_right _ _)
    exact Nat.dvd_trans d1 (show 10 ^ pt.length ∣ 10 ^ 5 from Nat.pow_dvd_pow 10 (by omega))
  have hq1 := (vld_pos s1).1
  have hfl : Nm.mkP (dval (wh ++ pt)) ((10 ^ pt.length : Nat) : Int) / Nm.mkQ (dval (wh ++ pt)) ((10 ^ pt.length : Nat) : Int) = (dval (wh ++ pt) : Int) / ((10 ^ pt.length : Nat) : Int) := by
    rw [← Int.mul_ediv_mul_of_pos_left _ _ (show (0 : Int) < ((10 ^ pt.length : Nat) : Int) by omega), s2, Int.mul_comm (Nm.mkQ _ _) ((10 ^ pt.length : Nat) : Int), Int.mul_ediv_mul_of_pos_left _ _ (by omega)]
  have hlt : dval (wh ++ pt) / 10 ^ pt.length < 1000000000 := by
    rw [dval_app3]
    have h1 := dval_lt pt (dig_of a2)
    have h2 := dval_lt wh (dig_of a1)
    have h3 : 10 ^ wh.length ≤ 10 ^ 9 := Nat.pow_le_pow_right (by decide) (by omega)
    rw [Nat.mul_comm, Nat.mul_add_div hT0, Nat.div_eq_of_lt h1]
    omega
  unfold decB
  simp only [Bool.and_eq_true, decide_eq_true_eq]
  refine ⟨s1, by rw [hP]; omega, ?_, ?_⟩
  · rw [hfl, ← Int.natCast_ediv]; omega
  · rw [hQ]
    exact Int.emod_eq_zero_of_dvd (show ((Nm.bot (dval (wh ++ pt)) ((10 ^ pt.length : Nat) : Int) : Nat) : Int) ∣ ((100000 : Nat) : Int) from Int.natCast_dvd_natCast.2 hdv)
/-- The token that is read is valid, and no word. -/
theorem first_valid (l : List UInt8) (h : (first l).e = 0) : vldT (first l).t.kind (first l).t.text (first l).t.p (first l).t.q = true ∧ (first l).t.kind ≠ 1 := by
  unfold first at h ⊢
  by_cases h1 : 0 < runN letter l
  · rw [if_pos h1] at h ⊢
    by_cases h2 : 40 < runN letter l
    · rw [if_pos h2] at h; cases h
    rw [if_neg h2] at h ⊢
    have hle := runN_le letter l
    refine ⟨?_, show (0 : Int) ≠ 1 by decide⟩
    have hb : allB letter (l.take (runN letter l)) = true := (allB_iff _ _).2 (runN_take_all letter l)
    have hn : (l.take (runN letter l)).isEmpty = false := by
      rw [List.isEmpty_eq_false_iff]; intro e
      have := congrArg List.length e
      rw [List.length_take, List.length_nil] at this; omega
    show vldT 0 (l.take (runN letter l)) 0 0 = true
    unfold vldT
    rw [if_neg (by decide), if_neg (by simp), if_pos rfl, hb, hn]
    simp; omega
  rw [if_neg h1] at h ⊢
  by_cases h2 : 0 < numeral l
  · rw [if_pos h2] at h ⊢
    obtain ⟨a, b, c⟩ := num_valid l h2 h
    rw [a, b]
    refine ⟨?_, by decide⟩
    unfold vldT
    rw [if_pos rfl, c]; rfl
  rw [if_neg h2] at h ⊢
  by_cases h3 : l.getD 0 0 = 34
  · rw [if_pos h3] at h ⊢
    unfold strOf at h ⊢
    simp only at h ⊢
    by_cases h4 : runN notQ (l.drop 1) = (l.drop 1).length ∨ allB quot ((l.drop 1).take (runN notQ (l.drop 1))) = false
    · rw [if_pos h4] at h; cases h
    rw [if_neg h4] at h ⊢
    by_cases h5 : 100 < runN notQ (l.drop 1)
    · rw [if_pos h5] at h; cases h
    rw [if_neg h5] at h ⊢
    refine ⟨?_, show (3 : Int) ≠ 1 by decide⟩
    have hb : allB quot ((l.drop 1).take (runN notQ (l.drop 1))) = true := by
      cases hx : allB quot ((l.drop 1).take (runN notQ (l.drop 1)))
      · exact absurd (Or.inr hx) h4
      · rfl
    show vldT 3 ((l.drop 1).take (runN notQ (l.drop 1))) 0 0 = true
    unfold vldT
    rw [if_neg (by decide), if_neg (by simp), if_neg (by decide), if_neg (by decide), if_pos rfl, hb, List.length_take, Bool.and_true, decide_eq_true_eq]
    omega
  rw [if_neg h3] at h ⊢
  by_cases h4 : sgn l = []
  · rw [if_pos h4] at h; cases h
  rw [if_neg h4] at h ⊢
  refine ⟨?_, show (4 : Int) ≠ 1 by decide⟩
  rcases sgn_mem l with h5 | h5
  · exact absurd h5 h4
  · show vldT 4 (sgn l) 0 0 = true
    unfold vldT
    rw [if_neg (by decide), if_neg (by simp), if_neg (by decide), if_neg (by decide), if_neg (by decide), if_pos rfl]
    exact decide_eq_true h5.1
theorem cons_bad' {t : Tp} {r : Res} {c : Int} {nm : List UInt8} {a b : Int} (h : r.cons t = .bad c nm a b) : r = .bad c nm a b := by cases r <;> simp_all [Res.cons]
theorem bad_ne' : ∀ (n : Nat) (l : List UInt8) (p : Int × Int) (c : Int) (nm : List UInt8) (a b : Int), l.length < n → toks l p = .bad c nm a b → c ≠ 0 := by
  intro n
  induction n with
  | zero => intro l p c nm a b h; omega
  | succ n ih =>
    intro l p c nm a b hlen h
    rcases front l with rfl | ⟨x, t, rfl, hb⟩ | ⟨t, rfl⟩ | ⟨x, t, rfl, hb, h37⟩
    · cases h
    · rw [toks_blank x t p hb] at h
      exact ih t _ c nm a b (by simp only [List.length_cons] at hlen; omega) h
    · rw [toks_comment] at h
      have := notNl_pos t
      have h2 : (37 :: t).length = t.length + 1 := rfl
      exact ih _ _ c nm a b (by rw [List.length_drop]; omega) h
    · have hn := first_n (x :: t) (by simp)
      by_cases he : (first (x :: t)).e = 0
      · rw [toks_tok x t p hb h37 he] at h
        exact ih _ _ c nm a b (by rw [List.length_drop]; omega) (cons_bad' h)
      · rw [toks_bad x t p hb h37 he] at h
        injection h with h1
        rw [← h1]; exact he
/-- Tokens that are read are valid, and no words. -/
theorem toks_valid : ∀ (n : Nat) (l : List UInt8) (p : Int × Int) (ts : List Tp), l.length < n → toks l p = .ok ts → ∀ t ∈ ts, vldT t.kind t.text t.p t.q = true ∧ t.kind ≠ 1 := by
  intro n
  induction n with
  | zero => intro l p ts h; omega
  | succ n ih =>
    intro l p ts hlen h
    rcases front l with rfl | ⟨x, t, rfl, hb⟩ | ⟨t, rfl⟩ | ⟨x, t, rfl, hb, h37⟩
    · rw [toks_nil] at h
      injection h with h
      subst h
      intro t ht; simp at ht
    · rw [toks_blank x t p hb] at h
      exact ih t _ ts (by simp only [List.length_cons] at hlen; omega) h
    · rw [toks_comment] at h
      have := notNl_pos t
      have h2 : (37 :: t).length = t.length + 1 := rfl
      exact ih _ _ ts (by rw [List.length_drop]; omega) h
    · have hn := first_n (x :: t) (by simp)
      by_cases he : (first (x :: t)).e = 0
      · rw [toks_tok x t p hb h37 he] at h
        cases hr : toks ((x :: t).drop (first (x :: t)).n) (p.1, p.2 + (first (x :: t)).n) with
        | bad c nm a b => rw [hr] at h; cases h
        | ok r =>
          rw [hr] at h
          simp only [Res.cons, Res.ok.injEq] at h
          subst h
          intro y hy
          rcases List.mem_cons.1 hy with rfl | hy
          · exact first_valid _ he
          · exact ih _ _ r (by rw [List.length_drop]; omega) hr y hy
      · rw [toks_bad x t p hb h37 he] at h; cases h
end Lx
end Go.Proofs.YtnhcjgnohnedaaaGreatDoor
