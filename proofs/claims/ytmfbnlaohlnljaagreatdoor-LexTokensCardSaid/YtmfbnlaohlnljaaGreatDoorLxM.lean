/-
  The mathematics of tokens: bytes, signs, the token with which a string begins, the tokens of a string.
-/
import Derived.Test.YtmfbnlaohlnljaaGreatDoorDec
namespace Go.Proofs.YtmfbnlaohlnljaaGreatDoor
namespace Lx

def letter (c : UInt8) : Bool := (decide (97 ≤ c.toNat) && decide (c.toNat ≤ 122)) || (decide (65 ≤ c.toNat) && decide (c.toNat ≤ 90)) || c == 95
def digit (c : UInt8) : Bool := decide (48 ≤ c.toNat) && decide (c.toNat ≤ 57)
def blank (c : UInt8) : Bool := c == 32 || c == 9 || c == 10 || c == 13
def quot (c : UInt8) : Bool := decide (32 ≤ c.toNat) && decide (c.toNat ≤ 126) && c != 34
def notNl (c : UInt8) : Bool := c != 10
def notQ (c : UInt8) : Bool := c != 34

/-- How many bytes from the front on fit. -/
def runN (p : UInt8 → Bool) : List UInt8 → Nat
  | [] => 0
  | c :: l => if p c = true then runN p l + 1 else 0
theorem runN_le (p : UInt8 → Bool) (l : List UInt8) : runN p l ≤ l.length := by
  induction l with
  | nil => simp [runN]
  | cons c l ih => simp only [runN]; split <;> simp <;> omega
theorem runN_at (p : UInt8 → Bool) (l : List UInt8) (i : Nat) (h : i < runN p l) : p (l.getD i 0) = true := by
  induction l generalizing i with
  | nil => simp [runN] at h
  | cons c l ih =>
    simp only [runN] at h
    split at h
    · cases i with
      | zero => simpa
      | succ i => simpa using ih i (by omega)
    · omega
theorem runN_stop (p : UInt8 → Bool) (l : List UInt8) (h : runN p l < l.length) : p (l.getD (runN p l) 0) = false := by
  induction l with
  | nil => simp at h
  | cons c l ih =>
    by_cases hc : p c = true
    · simp only [runN, hc, if_true] at h ⊢
      simpa using ih (by simpa using h)
    · simp [runN, hc]
theorem runN_eq (p : UInt8 → Bool) (l : List UInt8) (k : Nat) (hk : k ≤ l.length) (h1 : ∀ i, i < k → p (l.getD i 0) = true) (h2 : k = l.length ∨ p (l.getD k 0) = false) : runN p l = k := by
  have a := runN_le p l
  rcases Nat.lt_trichotomy (runN p l) k with h | h | h
  · have := runN_stop p l (by omega); rw [h1 _ h] at this; cases this
  · exact h
  · rcases h2 with h2 | h2
    · omega
    · have := runN_at p l k h; rw [h2] at this; cases this
theorem runN_take_all (p : UInt8 → Bool) (l : List UInt8) : ∀ c ∈ l.take (runN p l), p c = true := by
  induction l with
  | nil => simp [runN]
  | cons c l ih =>
    by_cases hc : p c = true
    · simp only [runN, hc, if_true, List.take_succ_cons, List.mem_cons]
      rintro x (rfl | hx)
      · exact hc
      · exact ih x hx
    · simp [runN, hc]
theorem runN_app (p : UInt8 → Bool) (a b : List UInt8) (ha : ∀ c ∈ a, p c = true) : runN p (a ++ b) = a.length + runN p b := by
  induction a with
  | nil => simp
  | cons c a ih =>
    simp only [List.cons_append, runN, ha c (by simp), if_true, ih (fun x hx => ha x (by simp [hx])), List.length_cons]
    omega
theorem runN_eq_length (p : UInt8 → Bool) (l : List UInt8) : runN p l = l.length ↔ ∀ c ∈ l, p c = true := by
  constructor
  · intro h c hc
    have := runN_take_all p l c
    rw [h, List.take_length] at this
    exact this hc
  · intro h
    have := runN_app p l [] h
    simpa [runN] using this
/-- Do all bytes fit? -/
def allB (p : UInt8 → Bool) (l : List UInt8) : Bool := decide (runN p l = l.length)
theorem allB_iff (p : UInt8 → Bool) (l : List UInt8) : allB p l = true ↔ ∀ c ∈ l, p c = true := by
  rw [allB, decide_eq_true_iff, runN_eq_length]
theorem allB_all (p : UInt8 → Bool) (l : List UInt8) : allB p l = l.all p := by
  rw [Bool.eq_iff_iff, allB_iff, List.all_eq_true]

/-- The signs, each ahead of those that it begins with. -/
def sgs : List (List UInt8) := [[58, 61], [61, 58, 124], [61, 58], [124, 61, 58, 124], [124, 61, 58], [46, 46], [45, 45], [43, 43], [43, 45, 43], [42, 42], [60, 61], [62, 61], [60, 62], [61], [58], [59], [44],
  [40], [41], [91], [93], [123], [125], [43], [45], [42], [47], [60], [62], [38], [46]]
/-- The longest sign with which a string begins, or nothing. -/
def sgn (l : List UInt8) : List UInt8 := ((sgs.find? fun s => s.isPrefixOf l).getD [])

/-- How many bytes the number has with which a string begins, or 0. -/
def numeral (l : List UInt8) : Nat :=
  match l.drop (runN digit l) with
  | 46 :: t => if runN digit t = 0 then runN digit l else runN digit l + 1 + runN digit t
  | _ => runN digit l

/-- A token, but for its position. -/
structure Tk where
  kind : Int
  text : List UInt8
  p : Int
  q : Int
deriving DecidableEq
/-- What stands at the front: a token of n bytes (e is 0), or a fault e that names up to 40 of n bytes. -/
structure One where
  t : Tk
  n : Nat
  e : Int
deriving DecidableEq
def One.bad (n : Nat) (e : Int) : One := ⟨⟨0, [], 0, 0⟩, n, e⟩
/-- The number that a numeral is: numerator, denominator, error. -/
def numOf (l : List UInt8) : One :=
  let wh := l.take (runN digit l)
  let pt := l.drop (runN digit l + 1)
  if 9 < wh.length ∨ 5 < pt.length then One.bad l.length 3
  else if Nm.mkE (dval (wh ++ pt)) ((10 ^ pt.length : Nat) : Int) = 0 then ⟨⟨2, [], Nm.mkP (dval (wh ++ pt)) ((10 ^ pt.length : Nat) : Int), Nm.mkQ (dval (wh ++ pt)) ((10 ^ pt.length : Nat) : Int)⟩, l.length, 0⟩
  else One.bad l.length 17
/-- The string with which l, which is what stands behind a quotation mark, begins. -/
def strOf (l : List UInt8) : One :=
  let m := runN notQ l
  if m = l.length ∨ allB quot (l.take m) = false then One.bad 1 10
  else if 100 < m then One.bad (m + 2) 3
  else ⟨⟨3, l.take m, 0, 0⟩, m + 2, 0⟩
/-- The token with which a string that is not empty begins. -/
def first (l : List UInt8) : One :=
  if 0 < runN letter l then
    (if 40 < runN letter l then One.bad (runN letter l) 3 else ⟨⟨0, l.take (runN letter l), 0, 0⟩, runN letter l, 0⟩)
  else if 0 < numeral l then numOf (l.take (numeral l))
  else if l.getD 0 0 = 34 then strOf (l.drop 1)
  else if sgn l = [] then One.bad 1 10
  else ⟨⟨4, sgn l, 0, 0⟩, (sgn l).length, 0⟩

/-- A token with its position. -/
structure Tp extends Tk where
  line : Int
  col : Int
deriving DecidableEq
/-- The tokens of a string, or its first fault. -/
inductive Res where
  | ok (l : List Tp)
  | bad (e : Int) (name : List UInt8) (line col : Int)
deriving DecidableEq
def Res.cons (t : Tp) : Res → Res
  | .ok l => .ok (t :: l)
  | .bad e n a b => .bad e n a b
def Res.pre (l : List Tp) : Res → Res
  | .ok m => .ok (l ++ m)
  | .bad e n a b => .bad e n a b
theorem Res.pre_cons (l : List Tp) (t : Tp) (r : Res) : (r.cons t).pre l = r.pre (l ++ [t]) := by cases r <;> simp [Res.cons, Res.pre]
theorem Res.pre_nil (r : Res) : r.pre [] = r := by cases r <;> simp [Res.pre]

/-- Line and column behind a byte. -/
def advC (c : UInt8) (p : Int × Int) : Int × Int := if c = 10 then (p.1 + 1, 1) else (p.1, p.2 + 1)
def adv (l : List UInt8) (p : Int × Int) : Int × Int := l.foldl (fun p c => advC c p) p
theorem adv_nil (p : Int × Int) : adv [] p = p := rfl
theorem adv_cons (c : UInt8) (l : List UInt8) (p : Int × Int) : adv (c :: l) p = adv l (advC c p) := rfl
theorem adv_append (a b : List UInt8) (p : Int × Int) : adv (a ++ b) p = adv b (adv a p) := by simp [adv]
theorem adv_plain (l : List UInt8) (p : Int × Int) (h : ∀ c ∈ l, c ≠ 10) : adv l p = (p.1, p.2 + l.length) := by
  induction l generalizing p with
  | nil => simp [adv_nil]
  | cons c l ih =>
    rw [adv_cons, ih _ (fun x hx => h x (by simp [hx])), advC, if_neg (h c (by simp))]
    simp only [List.length_cons, Prod.mk.injEq, true_and]
    omega

/-- The tokens of a string from a place on (the number bounds how many steps). -/
def scan : Nat → List UInt8 → Int × Int → Res
  | 0, _, _ => .ok []
  | _ + 1, [], _ => .ok []
  | f + 1, c :: l, p =>
    if blank c = true then scan f l (advC c p)
    else if c = 37 then scan f ((c :: l).drop (runN notNl (c :: l))) (p.1, p.2 + runN notNl (c :: l))
    else if (first (c :: l)).e = 0 then (scan f ((c :: l).drop (first (c :: l)).n) (p.1, p.2 + (first (c :: l)).n)).cons ⟨(first (c :: l)).t, p.1, p.2⟩
    else .bad (first (c :: l)).e ((c :: l).take (min (first (c :: l)).n 40)) p.1 p.2
end Lx
end Go.Proofs.YtmfbnlaohlnljaaGreatDoor
