/-
  Plain mathematics of a fixed number's string: its digits, and what is read of them.
-/
import Derived.Test.YtanhomngnickfaaDoorFxMath
import Derived.Test.YtanhomngnickfaaDoorDval
import Derived.Lib.ItoaNum
import Derived.Lib.IndexMore
import Derived.Lib.Strings
namespace Go.Proofs.YtanhomngnickfaaDoor
namespace Fx

/-- The last k decimal digits of a number. -/
def pad : Nat → Nat → List UInt8
  | 0, _ => []
  | k + 1, d => pad k (d / 10) ++ [UInt8.ofNat (48 + d % 10)]
theorem pad_len : ∀ k d, (pad k d).length = k
  | 0, _ => rfl
  | k + 1, d => by simp [pad, pad_len k]
theorem dig_of (d : Nat) : (UInt8.ofNat (48 + d % 10)).toNat = 48 + d % 10 := by
  rw [UInt8.toNat_ofNat']; omega
theorem pad_dig : ∀ k d, dig (pad k d) = true
  | 0, _ => rfl
  | k + 1, d => by
    rw [pad, dig_snoc, pad_dig k, dig_of]
    simp; omega
theorem dval_pad : ∀ k d, dval (pad k d) = d % 10 ^ k
  | 0, d => by simp [pad, dval, dvalFrom, Nat.mod_one]
  | k + 1, d => by
    rw [pad, dval_snoc, dval_pad k, dig_of, Nat.pow_succ, Nat.mul_comm (10 ^ k) 10, Nat.mod_mul]
    omega
theorem dec_pad : ∀ k d, 10 ^ k ≤ d → d < 10 ^ (k + 1) → Lib.decDigits d = pad (k + 1) d
  | 0, d, _, h => by
    have : d < 10 := by simpa using h
    rw [Lib.decDigits, dif_pos this]
    simp [pad, Nat.mod_eq_of_lt this]
  | k + 1, d, h0, h => by
    have e : 1 ≤ 10 ^ k := Nat.one_le_pow _ _ (by omega)
    rw [Nat.pow_succ] at h0
    rw [Nat.pow_succ] at h
    have : ¬ d < 10 := by omega
    rw [Lib.decDigits, dif_neg this, dec_pad k (d / 10) (by omega) (by omega)]
    rfl
theorem dec_small (d : Nat) (h : d < 10) : Lib.decDigits d = pad 1 d := by
  rw [Lib.decDigits, dif_pos h]; simp [pad, Nat.mod_eq_of_lt h]
theorem dec_lead : ∀ k d, d < 10 ^ k → Lib.decDigits (10 ^ k + d) = 49 :: pad k d
  | 0, d, h => by
    have : d = 0 := by simpa using h
    subst this
    rw [Lib.decDigits, dif_pos (by decide)]; rfl
  | k + 1, d, h => by
    have e : 1 ≤ 10 ^ k := Nat.one_le_pow _ _ (by omega)
    rw [Nat.pow_succ] at h ⊢
    rw [Lib.decDigits, dif_neg (by omega), show (10 ^ k * 10 + d) / 10 = 10 ^ k + d / 10 by omega, dec_lead k (d / 10) (by omega), show (10 ^ k * 10 + d) % 10 = d % 10 by omega]
    rfl

/-- The nearest digits of a rest: so many, of two the lesser ones. -/
def dN (f : Int) (k : Nat) : Int := (2 * f * 10 ^ k + 65535) / 131072
def okN (f : Int) (k : Nat) : Bool := decide (rnd (65536 * dN f k) (10 ^ k) = f)
/-- How many digits a rest takes. -/
def fN (f : Int) : Nat := if okN f 1 = true then 1 else if okN f 2 = true then 2 else if okN f 3 = true then 3 else if okN f 4 = true then 4 else 5
theorem fN_bd (f : Int) : 1 ≤ fN f ∧ fN f ≤ 5 := by unfold fN; repeat' split <;> try omega
theorem ok5 (f : Int) (_h0 : 1 ≤ f) (_h1 : f < 65536) : okN f 5 = true := by
  unfold okN dN
  apply decide_eq_true
  rw [show (10 : Int) ^ 5 = 100000 by rfl, rnd_iff _ _ _ (by omega)]
  omega
theorem fN_ok (f : Int) (h0 : 1 ≤ f) (h1 : f < 65536) : okN f (fN f) = true := by
  have := ok5 f h0 h1
  unfold fN
  repeat' split <;> try assumption
theorem fN_no (f : Int) (k : Nat) (hk : 1 ≤ k) (h : k < fN f) : okN f k = false := by
  unfold fN at h
  by_cases h1 : okN f 1 = true
  · rw [if_pos h1] at h; omega
  rw [if_neg h1] at h
  by_cases h2 : okN f 2 = true
  · rw [if_pos h2] at h; rw [show k = 1 by omega]; simpa using h1
  rw [if_neg h2] at h
  by_cases h3 : okN f 3 = true
  · rw [if_pos h3] at h
    rcases (by omega : k = 1 ∨ k = 2) with rfl | rfl <;> exact Bool.eq_false_iff.2 (by assumption)
  rw [if_neg h3] at h
  by_cases h4 : okN f 4 = true
  · rw [if_pos h4] at h
    rcases (by omega : k = 1 ∨ k = 2 ∨ k = 3) with rfl | rfl | rfl <;> exact Bool.eq_false_iff.2 (by assumption)
  rw [if_neg h4] at h
  rcases (by omega : k = 1 ∨ k = 2 ∨ k = 3 ∨ k = 4) with rfl | rfl | rfl | rfl <;> exact Bool.eq_false_iff.2 (by assumption)
/-- The first that gives the rest is the one. -/
theorem fN_eq (f : Int) (k : Nat) (hk : 1 ≤ k) (_hk5 : k ≤ 5) (h0 : 1 ≤ f) (h1 : f < 65536) (ho : okN f k = true) (hn : ∀ j, 1 ≤ j → j < k → okN f j = false) : fN f = k := by
  rcases Nat.lt_trichotomy (fN f) k with h | h | h
  · have := hn (fN f) (fN_bd f).1 h
    rw [fN_ok f h0 h1] at this; cases this
  · exact h
  · have := fN_no f k hk h
    rw [ho] at this; cases this
theorem p10 (k : Nat) (h : k ≤ 5) : (1 : Int) ≤ 10 ^ k ∧ (10 : Int) ^ k ≤ 100000 := by
  rcases (by omega : k = 0 ∨ k = 1 ∨ k = 2 ∨ k = 3 ∨ k = 4 ∨ k = 5) with rfl | rfl | rfl | rfl | rfl | rfl <;> decide
theorem dN_bd (f : Int) (k : Nat) (hk : k ≤ 5) (h0 : 0 ≤ f) (h1 : f < 65536) : 0 ≤ dN f k ∧ dN f k ≤ 10 ^ k := by
  unfold dN
  have := p10 k hk
  generalize (10 : Int) ^ k = p at *
  have a1 : f * p ≤ 65535 * p := Int.mul_le_mul_of_nonneg_right (by omega) (by omega)
  have a2 : 0 ≤ f * p := Int.mul_nonneg h0 (by omega)
  rw [Int.mul_assoc]
  omega
theorem ok_lt (f : Int) (k : Nat) (hk : k ≤ 5) (h1 : f < 65536) (ho : okN f k = true) : dN f k < 10 ^ k := by
  have := of_decide_eq_true ho
  have hp := p10 k hk
  rw [rnd_iff _ _ _ (by omega)] at this
  generalize (10 : Int) ^ k = p at *
  have a1 : p * f ≤ p * 65535 := Int.mul_le_mul_of_nonneg_left (by omega) (by omega)
  omega
/-- If any digits that are so many give the rest, the nearest ones do. -/
theorem nearest_ok (f e : Int) (k : Nat) (hk : k ≤ 5) (h : rnd (65536 * e) (10 ^ k) = f) : okN f k = true := by
  unfold okN
  apply decide_eq_true
  have h1 := Int.mul_ediv_add_emod (2 * f * 10 ^ k + 65535) 131072
  have h2 := Int.emod_nonneg (2 * f * 10 ^ k + 65535) (by omega : (131072 : Int) ≠ 0)
  have h3 := Int.emod_lt_of_pos (2 * f * 10 ^ k + 65535) (by omega : (0 : Int) < 131072)
  rw [show (2 * f * 10 ^ k + 65535) / 131072 = dN f k from rfl] at h1
  generalize dN f k = d at *
  rcases (by omega : e ≤ d - 1 ∨ e = d ∨ d + 1 ≤ e) with hc | hc | hc
  · rcases (by omega : k = 0 ∨ k = 1 ∨ k = 2 ∨ k = 3 ∨ k = 4 ∨ k = 5) with rfl | rfl | rfl | rfl | rfl | rfl <;> (simp only [Int.reducePow] at *; rw [rnd_iff _ _ _ (by omega)] at *; omega)
  · subst hc; exact h
  · rcases (by omega : k = 0 ∨ k = 1 ∨ k = 2 ∨ k = 3 ∨ k = 4 ∨ k = 5) with rfl | rfl | rfl | rfl | rfl | rfl <;> (simp only [Int.reducePow] at *; rw [rnd_iff _ _ _ (by omega)] at *; omega)
/-- The digits behind the point. -/
def frac (f : Int) : List UInt8 := pad (fN f) (dN f (fN f)).toNat
/-- A fixed number's string. -/
def txtF (a : Int) : List UInt8 :=
  (if a < 0 then [45] else []) ++ (Lib.decDigits (a.natAbs / 65536) ++ (if a.natAbs % 65536 = 0 then [] else 46 :: frac ((a.natAbs % 65536 : Nat) : Int)))

/-- What a string's digits are worth, and whether they are digits. -/
def natOk (l : List UInt8) : Bool := decide (l.length ≤ 9) && dig l
def natV (l : List UInt8) : Int := if natOk l = true then (dval l : Int) else 0
theorem natV_bd (l : List UInt8) : 0 ≤ natV l ∧ natV l ≤ 999999999 := by
  unfold natV natOk
  split
  · rename_i h
    simp only [Bool.and_eq_true, decide_eq_true_eq] at h
    have h1 := dval_lt l h.2
    have h2 : 10 ^ l.length ≤ 10 ^ 9 := Nat.pow_le_pow_right (by omega) h.1
    have h3 : (10 : Nat) ^ 9 = 1000000000 := by decide
    omega
  · omega
theorem natV_no (l : List UInt8) (h : natOk l = false) : natV l = 0 := by unfold natV; rw [h]; rfl
theorem natV_ok (l : List UInt8) (h : natOk l = true) : natV l = (dval l : Int) := by unfold natV; rw [h]; rfl
theorem natOk_long (l : List UInt8) (h : 9 < l.length) : natOk l = false := by
  unfold natOk; rw [decide_eq_false (by omega)]; rfl
theorem natOk_short (l : List UInt8) (h : l.length ≤ 9) : natOk l = dig l := by
  unfold natOk; rw [decide_eq_true h]; rfl
theorem natOk_len (l : List UInt8) (h : natOk l = true) : l.length ≤ 9 ∧ dig l = true := by
  unfold natOk at h
  simpa using h
/-- Is what stands around the point as it must be? -/
def prOk (wh pt : List UInt8) (pd : Bool) : Bool := natOk wh && natOk pt && !(pd && pt.isEmpty) && !(!pd && wh.isEmpty)
def prV (wh pt : List UInt8) : Int := 65536 * natV wh + rnd (65536 * natV pt) (10 ^ pt.length)
/-- What is read of a string: the number, and the error code. -/
def paN (l : List UInt8) : Int :=
  if prOk (Lib.cut (Lib.trimPrefix l [45]) [46]).1 (Lib.cut (Lib.trimPrefix l [45]) [46]).2.1 (Lib.cut (Lib.trimPrefix l [45]) [46]).2.2 = true then
    (if Lib.hasPrefix l [45] = true then -tolN (prV (Lib.cut (Lib.trimPrefix l [45]) [46]).1 (Lib.cut (Lib.trimPrefix l [45]) [46]).2.1) else tolN (prV (Lib.cut (Lib.trimPrefix l [45]) [46]).1 (Lib.cut (Lib.trimPrefix l [45]) [46]).2.1))
  else 0
def paE (l : List UInt8) : Int :=
  if prOk (Lib.cut (Lib.trimPrefix l [45]) [46]).1 (Lib.cut (Lib.trimPrefix l [45]) [46]).2.1 (Lib.cut (Lib.trimPrefix l [45]) [46]).2.2 = true then
    tolE (prV (Lib.cut (Lib.trimPrefix l [45]) [46]).1 (Lib.cut (Lib.trimPrefix l [45]) [46]).2.1)
  else 30
theorem p10n (k : Nat) (h : k ≤ 9) : (1 : Int) ≤ 10 ^ k ∧ (10 : Int) ^ k ≤ 1000000000 := by
  rcases (by omega : k = 0 ∨ k = 1 ∨ k = 2 ∨ k = 3 ∨ k = 4 ∨ k = 5 ∨ k = 6 ∨ k = 7 ∨ k = 8 ∨ k = 9) with rfl | rfl | rfl | rfl | rfl | rfl | rfl | rfl | rfl | rfl <;> decide
theorem prV_bd (wh pt : List UInt8) (h : pt.length ≤ 9) : 0 ≤ rnd (65536 * natV pt) (10 ^ pt.length) ∧ rnd (65536 * natV pt) (10 ^ pt.length) ≤ 65537000000000 ∧ 0 ≤ prV wh pt ∧ prV wh pt ≤ 281474976710656 := by
  have a := natV_bd wh
  have b := natV_bd pt
  have c := p10n pt.length h
  unfold prV
  generalize natV pt = f at *
  generalize (10 : Int) ^ pt.length = q at *
  have h1 : 0 ≤ rnd (65536 * f) q := Int.ediv_nonneg (by omega) (by omega)
  have h2 : rnd (65536 * f) q ≤ 65537000000000 := by
    have := rnd_iff (65536 * f) q (rnd (65536 * f) q) (by omega)
    have h3 := (this.1 rfl).1
    generalize rnd (65536 * f) q = r at *
    have h4 : r ≤ q * r := by
      have := Int.mul_le_mul_of_nonneg_right c.1 h1
      omega
    have h5 : q ≤ q * r ∨ r = 0 := by
      by_cases hr : r = 0
      · exact .inr hr
      · left
        have := Int.mul_le_mul_of_nonneg_left (by omega : 1 ≤ r) (by omega : 0 ≤ q)
        omega
    omega
  omega
theorem pad_cons : ∀ k m, pad (k + 1) m = UInt8.ofNat (48 + m / 10 ^ k % 10) :: pad k m
  | 0, m => by simp [pad]
  | k + 1, m => by
    have e : pad (k + 1 + 1) m = pad (k + 1) (m / 10) ++ [UInt8.ofNat (48 + m % 10)] := rfl
    rw [e, pad_cons k (m / 10), Nat.div_div_eq_div_mul, ← Nat.pow_succ', pad]
    rfl
/-- What the reference reads of digits: below 0, they are none. -/
def whV (l : List UInt8) : Int := if 1 ≤ l.length ∧ natOk l = true then (dval l : Int) else -1
theorem whV_bd (l : List UInt8) : -1 ≤ whV l ∧ whV l ≤ 999999999 := by
  unfold whV
  split
  · rename_i h
    have := natV_bd l
    rw [natV_ok l h.2] at this
    omega
  · omega
theorem whV_ok (l : List UInt8) (h : l ≠ []) (h2 : natOk l = true) : whV l = natV l := by
  have : 1 ≤ l.length := by cases l <;> simp_all
  rw [whV, if_pos ⟨this, h2⟩, natV_ok l h2]
theorem whV_no (l : List UInt8) (h : natOk l = false) : whV l = -1 := by
  rw [whV, if_neg (by rw [h]; simp)]
theorem whV_nil : whV [] = -1 := by decide
end Fx
end Go.Proofs.YtanhomngnickfaaDoor
