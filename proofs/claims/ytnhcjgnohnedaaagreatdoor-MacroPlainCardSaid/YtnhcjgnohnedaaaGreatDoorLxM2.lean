/-
  Plain mathematics of fixed numbers, quotients rounded down, remainders.
  Contracts: units (the fixed part of a rest) of package num, at quotients of 64 bits.
  Contracts: Floor, Cmp, FromFixed, Mod of package num and of the reference.
  Contracts: Mod of package num and of the reference.
  Contracts: Near of package num: the nearest fixed number.
  Contracts: Text of package num; what a world must keep for it (the table of powers of ten, a constant of the string search).
  Plain mathematics of decimal digits: the number that a list of digits is.
  Contracts: digits (are all bytes decimal digits) of package num.
  Contracts: Decimal of package num.
  Contracts: Decimal of package num, all strings.
  The mathematics of tokens: bytes, signs, the token with which a string begins, the tokens of a string.
  The mathematics of tokens, further: steps of the scan; what a token leaves.
-/
import Derived.Test.YtnhcjgnohnedaaaGreatDoorNum8
import Derived.Test.YtnhcjgnohnedaaaGreatDoorShelf
import Derived.Laws.Externs
import Derived.WalkSmall
import Derived.Lib.AppendIntMem
import Derived.Lib.ItoaLen
import Derived.Lib.ConvBytes
namespace Go.Proofs.YtnhcjgnohnedaaaGreatDoor
namespace Nm
/-- floor(65,536 r / q + 1/2). -/
def un (r q : Int) : Int := (131072 * r + q) / (2 * q)
theorem un_bd (r q : Int) (h0 : 0 ≤ r) (h1 : r < q) : 0 ≤ un r q ∧ un r q ≤ 65536 := by
  unfold un
  constructor
  · exact Int.ediv_nonneg (by omega) (by omega)
  · have : (131072 * r + q) / (2 * q) < 65537 := Int.ediv_lt_of_lt_mul (by omega) (by omega)
    omega
/-- p / q as a fixed number. -/
def fx (p q : Int) : Int := p.fdiv q * 65536 + un (p.fmod q) q
theorem fdiv_bd (p q : Int) (hq : 1 ≤ q) (h0 : -2147483648 ≤ p) (h1 : p ≤ 2147483647) : -2147483648 ≤ p.fdiv q ∧ p.fdiv q ≤ 2147483647 := by
  rw [Int.fdiv_eq_ediv_of_nonneg _ (by omega)]
  constructor
  · exact Int.le_ediv_of_mul_le (by omega) (by omega)
  · have : p / q < 2147483648 := Int.ediv_lt_of_lt_mul (by omega) (by omega)
    omega
end Nm
end Go.Proofs.YtnhcjgnohnedaaaGreatDoor

namespace Go.Proofs.YtnhcjgnohnedaaaGreatDoor
open Go.RowKit

end Go.Proofs.YtnhcjgnohnedaaaGreatDoor

namespace Go.Proofs.YtnhcjgnohnedaaaGreatDoor
open Go.RowKit

/-- Compare: -1, 0, 1. -/
def cmp3 (x y : Int) : Int := if x < y then -1 else if y < x then 1 else 0
theorem cmp3_lt {x y : Int} (h : x < y) : cmp3 x y = -1 := by simp [cmp3, h]
theorem cmp3_gt {x y : Int} (h : y < x) : cmp3 x y = 1 := by simp only [cmp3, if_neg (by omega : ¬ x < y), if_pos h]
theorem cmp3_eq {x y : Int} (h : ¬ x < y) (h' : ¬ y < x) : cmp3 x y = 0 := by simp only [cmp3, if_neg h, if_neg h']

/-- What Cmp returns. -/
def cmpV (v : Bool) (x y : Int) : Value := if v = true then .tuple #[.int .i64 (cmp3 x y), .int .i64 0] else .tuple #[.int .i64 0, .int .i64 2]

end Go.Proofs.YtnhcjgnohnedaaaGreatDoor

namespace Go.Proofs.YtnhcjgnohnedaaaGreatDoor
open Go.RowKit

/-- What Mod returns. -/
def modV (v : Bool) (aP aQ bP bQ : Int) : Value := if v = true then (if bP = 0 then numV 0 0 18 else numV (Nm.mkP ((aP * bQ).fmod (aQ * bP)) (aQ * bQ)) (Nm.mkQ ((aP * bQ).fmod (aQ * bP)) (aQ * bQ)) (Nm.mkE ((aP * bQ).fmod (aQ * bP)) (aQ * bQ))) else numV 0 0 2
theorem modV_no (aP aQ bP bQ : Int) : modV false aP aQ bP bQ = numV 0 0 2 := rfl
theorem modV_zero (aP aQ bQ : Int) : modV true aP aQ 0 bQ = numV 0 0 18 := rfl
theorem modV_ok (aP aQ bP bQ : Int) (h : bP ≠ 0) : modV true aP aQ bP bQ = numV (Nm.mkP ((aP * bQ).fmod (aQ * bP)) (aQ * bQ)) (Nm.mkQ ((aP * bQ).fmod (aQ * bP)) (aQ * bQ)) (Nm.mkE ((aP * bQ).fmod (aQ * bP)) (aQ * bQ)) := by
  simp only [modV, if_neg h]; rfl

end Go.Proofs.YtnhcjgnohnedaaaGreatDoor

namespace Go.Proofs.YtnhcjgnohnedaaaGreatDoor
open Go.RowKit

end Go.Proofs.YtnhcjgnohnedaaaGreatDoor

namespace Go.Proofs.YtnhcjgnohnedaaaGreatDoor
open Go.RowKit

/-- What the library's functions read: the table of powers of ten, and a number of the string search. -/
structure Env (w : World) : Prop where
  max : ∃ m, w.cell? ⟨7, 0, none⟩ = some (.int .i64 m)
  tab : Lib.TabIs Tryz.prog w "internal/strconv.uint64pow10" .u64 Lib.pow10Tab
  size : 8 ≤ w.heap.size
theorem pow_name : Tryz.prog.globalNamed "internal/strconv.uint64pow10" = some 2 := by kernel_rfl
theorem Env.below {w w' : World} (h : Env w) (hb : Below w.heap.size w w') : Env w' := by
  have hs := h.size
  refine ⟨?_, ?_, Nat.le_trans h.size hb.size⟩
  · obtain ⟨m, hm⟩ := h.max
    exact ⟨m, by rw [(bcell hb).1 _ _ (by omega)]; exact hm⟩
  · exact var?_below hb pow_name (by omega) h.tab

theorem fmt_any (n : Int) (w : World) (h0 : -9223372036854775808 ≤ n) (h1 : n ≤ 9223372036854775807) (he : Env w) :
    Calls Tryz.prog 152 #[.int .i64 n, .int .i64 10] w fun e w' => e = .returned (.string ⟨(Lib.itoa n).toArray⟩) ∧ Below w.heap.size w w' :=
  (Tryz.strconv_FormatInt_10 n h0 h1 w he.tab).mono fun _ _ ⟨h, k, os, hw⟩ => ⟨h, by rw [hw]; exact Lib.below_grow _ _ (Nat.le_refl _) _ _⟩

theorem ba_app (a b : List UInt8) : (⟨a.toArray⟩ : ByteArray) ++ ⟨b.toArray⟩ = ⟨(a ++ b).toArray⟩ := by
  apply ByteArray.ext
  simp
theorem ba_app3 (a b : List UInt8) : (⟨a.toArray⟩ : ByteArray) ++ (⟨#[47]⟩ ++ ⟨b.toArray⟩) = ⟨(a ++ 47 :: b).toArray⟩ := by
  apply ByteArray.ext
  simp

/-- A number's string. -/
def txt (p q : Int) : List UInt8 := if q = 1 then Lib.itoa p else Lib.itoa p ++ 47 :: Lib.itoa q
/-- What Text returns. -/
def txtV (v : Bool) (p q : Int) : Value := if v = true then .tuple #[.string ⟨(txt p q).toArray⟩, .int .i64 0] else .tuple #[.string ⟨#[]⟩, .int .i64 2]
end Go.Proofs.YtnhcjgnohnedaaaGreatDoor

namespace Go.Proofs.YtnhcjgnohnedaaaGreatDoor
def dvalFrom (acc : Nat) (l : List UInt8) : Nat := l.foldl (fun a c => 10 * a + (c.toNat - 48)) acc
def dval (l : List UInt8) : Nat := dvalFrom 0 l
theorem dval_snoc (l : List UInt8) (c : UInt8) : dval (l ++ [c]) = 10 * dval l + (c.toNat - 48) := by simp [dval, dvalFrom]
/-- Are all bytes decimal digits? -/
def dig (l : List UInt8) : Bool := l.all fun c => decide (48 ≤ c.toNat) && decide (c.toNat ≤ 57)
theorem dvalFrom_lt (l : List UInt8) : ∀ acc, dig l = true → dvalFrom acc l < (acc + 1) * 10 ^ l.length := by
  induction l with
  | nil => intro acc _; simp [dvalFrom]
  | cons c t ih =>
    intro acc h
    simp only [dig, List.all_cons, Bool.and_eq_true, decide_eq_true_eq] at h
    obtain ⟨⟨h1, h2⟩, h3⟩ := h
    have := ih (10 * acc + (c.toNat - 48)) h3
    have e : dvalFrom acc (c :: t) = dvalFrom (10 * acc + (c.toNat - 48)) t := rfl
    rw [e, List.length_cons, Nat.pow_succ]
    refine Nat.lt_of_lt_of_le this ?_
    rw [Nat.mul_comm (10 ^ t.length) 10, ← Nat.mul_assoc]
    exact Nat.mul_le_mul_right _ (by omega)
theorem dval_lt (l : List UInt8) (h : dig l = true) : dval l < 10 ^ l.length := by simpa [dval] using dvalFrom_lt l 0 h
theorem dval_lt14 (l : List UInt8) (h : dig l = true) (hl : l.length ≤ 14) : dval l < 100000000000000 :=
  Nat.lt_of_lt_of_le (dval_lt l h) (Nat.le_trans (Nat.pow_le_pow_right (by omega) hl) (by decide))
theorem dig_snoc (l : List UInt8) (c : UInt8) : dig (l ++ [c]) = (dig l && (decide (48 ≤ c.toNat) && decide (c.toNat ≤ 57))) := by simp [dig]
theorem dig_append (a b : List UInt8) : dig (a ++ b) = (dig a && dig b) := by simp [dig]
theorem dig_take (l : List UInt8) (k : Nat) (h : dig l = true) : dig (l.take k) = true := by
  unfold dig at h ⊢
  rw [List.all_eq_true] at h ⊢
  exact fun c hc => h c (List.mem_of_mem_take hc)
theorem getD_at (l : List UInt8) (k : Nat) (hk : k < l.length) : l.getD k 0 = l[k] := by simp [List.getD, List.getElem?_eq_getElem hk]
theorem dig_at (l : List UInt8) (k : Nat) (hk : k < l.length) (h : dig l = true) : 48 ≤ (l.getD k 0).toNat ∧ (l.getD k 0).toNat ≤ 57 := by
  unfold dig at h
  rw [List.all_eq_true] at h
  have := h l[k] (List.getElem_mem hk)
  rw [getD_at l k hk]
  simpa using this
theorem take_at (l : List UInt8) (k : Nat) (hk : k < l.length) : l.take (k + 1) = l.take k ++ [l.getD k 0] := by
  rw [List.take_succ_eq_append_getElem hk, getD_at l k hk]
theorem pow5 (k : Nat) (h : k ≤ 5) : 1 ≤ 10 ^ k ∧ 10 ^ k ≤ 100000 :=
  ⟨Nat.one_le_pow _ _ (by omega), Nat.le_trans (Nat.pow_le_pow_right (by omega) h) (by decide)⟩
end Go.Proofs.YtnhcjgnohnedaaaGreatDoor

namespace Go.Proofs.YtnhcjgnohnedaaaGreatDoor
open Go.RowKit

theorem dig_no (l : List UInt8) (k : Nat) (hk : k < l.length) (h : ¬ (48 ≤ (l.getD k 0).toNat ∧ (l.getD k 0).toNat ≤ 57)) : dig l = false := by
  unfold dig
  rw [List.all_eq_false]
  refine ⟨l[k], List.getElem_mem hk, ?_⟩
  rw [getD_at l k hk] at h
  simp only [Bool.and_eq_true, decide_eq_true_eq]; exact h
theorem below_bytes (w : World) (e : TypeId) (s : ByteArray) : Below w.heap.size w (Lib.bytesWorld w e s) :=
  ⟨rfl, rfl, rfl, by rw [Lib.bytesWorld_size]; omega, fun k hk => Lib.bytesWorld_at_old w e s k hk⟩

end Go.Proofs.YtnhcjgnohnedaaaGreatDoor

namespace Go.Proofs.YtnhcjgnohnedaaaGreatDoor
open Go.RowKit

end Go.Proofs.YtnhcjgnohnedaaaGreatDoor

namespace Go.Proofs.YtnhcjgnohnedaaaGreatDoor
open Go.RowKit


/-- What makes a string no decimal. -/
def decBad (wh pt : List UInt8) (pd : Bool) : Bool := decide (9 < wh.length) || decide (5 < pt.length) || !dig wh || !dig pt || (pd && pt.isEmpty) || (!pd && wh.isEmpty)
/-- What Decimal returns, of the parts before and behind the point. -/
def decV3 (wh pt : List UInt8) (pd : Bool) : Value :=
  if decBad wh pt pd = true then numV 0 0 30 else numV (Nm.mkP (dval (wh ++ pt)) ((10 ^ pt.length : Nat) : Int)) (Nm.mkQ (dval (wh ++ pt)) ((10 ^ pt.length : Nat) : Int)) (Nm.mkE (dval (wh ++ pt)) ((10 ^ pt.length : Nat) : Int))
/-- What Decimal returns. -/
def decV (s : List UInt8) : Value := decV3 (Lib.cut s [46]).1 (Lib.cut s [46]).2.1 (Lib.cut s [46]).2.2
theorem decV_of {s wh pt : List UInt8} {pd : Bool} (h : Lib.cut s [46] = (wh, pt, pd)) : decV s = decV3 wh pt pd := by unfold decV; rw [h]
theorem decV3_bad {wh pt : List UInt8} {pd : Bool} (h : decBad wh pt pd = true) : decV3 wh pt pd = numV 0 0 30 := by simp [decV3, h]
end Go.Proofs.YtnhcjgnohnedaaaGreatDoor

namespace Go.Proofs.YtnhcjgnohnedaaaGreatDoor
namespace Lx

def letter (c : UInt8) : Bool := (decide (97 ≤ c.toNat) && decide (c.toNat ≤ 122)) || (decide (65 ≤ c.toNat) && decide (c.toNat ≤ 90)) || c == 95
def digit (c : UInt8) : Bool := decide (48 ≤ c.toNat) && decide (c.toNat ≤ 57)
def blank (c : UInt8) : Bool := c == 32 || c == 9 || c == 10 || c == 13
def quot (c : UInt8) : Bool := decide (32 ≤ c.toNat) && decide (c.toNat ≤ 126) && c != 34
def notNl (c : UInt8) : Bool := c != 10
def notQ (c : UInt8) : Bool := c != 34

/-- How many bytes from the front on fit. -/
def runN (p : UInt8 → Bool) : List UInt8 → Nat
  | [] => 0
  | c :: l => if p c = true then runN p l + 1 else 0
theorem runN_le (p : UInt8 → Bool) (l : List UInt8) : runN p l ≤ l.length := by
  induction l with
  | nil => simp [runN]
  | cons c l ih => simp only [runN]; split <;> simp <;> omega
theorem runN_at (p : UInt8 → Bool) (l : List UInt8) (i : Nat) (h : i < runN p l) : p (l.getD i 0) = true := by
  induction l generalizing i with
  | nil => simp [runN] at h
  | cons c l ih =>
    simp only [runN] at h
    split at h
    · cases i with
      | zero => simpa
      | succ i => simpa using ih i (by omega)
    · omega
theorem runN_stop (p : UInt8 → Bool) (l : List UInt8) (h : runN p l < l.length) : p (l.getD (runN p l) 0) = false := by
  induction l with
  | nil => simp at h
  | cons c l ih =>
    by_cases hc : p c = true
    · simp only [runN, hc, if_true] at h ⊢
      simpa using ih (by simpa using h)
    · simp [runN, hc]
theorem runN_eq (p : UInt8 → Bool) (l : List UInt8) (k : Nat) (hk : k ≤ l.length) (h1 : ∀ i, i < k → p (l.getD i 0) = true) (h2 : k = l.length ∨ p (l.getD k 0) = false) : runN p l = k := by
  have a := runN_le p l
  rcases Nat.lt_trichotomy (runN p l) k with h | h | h
  · have := runN_stop p l (by omega); rw [h1 _ h] at this; cases this
  · exact h
  · rcases h2 with h2 | h2
    · omega
    · have := runN_at p l k h; rw [h2] at this; cases this
theorem runN_take_all (p : UInt8 → Bool) (l : List UInt8) : ∀ c ∈ l.take (runN p l), p c = true := by
  induction l with
  | nil => simp [runN]
  | cons c l ih =>
    by_cases hc : p c = true
    · simp only [runN, hc, if_true, List.take_succ_cons, List.mem_cons]
      rintro x (rfl | hx)
      · exact hc
      · exact ih x hx
    · simp [runN, hc]
theorem runN_app (p : UInt8 → Bool) (a b : List UInt8) (ha : ∀ c ∈ a, p c = true) : runN p (a ++ b) = a.length + runN p b := by
  induction a with
  | nil => simp
  | cons c a ih =>
    simp only [List.cons_append, runN, ha c (by simp), if_true, ih (fun x hx => ha x (by simp [hx])), List.length_cons]
    omega
theorem runN_eq_length (p : UInt8 → Bool) (l : List UInt8) : runN p l = l.length ↔ ∀ c ∈ l, p c = true := by
  constructor
  · intro h c hc
    have := runN_take_all p l c
    rw [h, List.take_length] at this
    exact this hc
  · intro h
    have := runN_app p l [] h
    simpa [runN] using this
/-- Do all bytes fit? -/
def allB (p : UInt8 → Bool) (l : List UInt8) : Bool := decide (runN p l = l.length)
theorem allB_iff (p : UInt8 → Bool) (l : List UInt8) : allB p l = true ↔ ∀ c ∈ l, p c = true := by
  rw [allB, decide_eq_true_iff, runN_eq_length]
theorem allB_all (p : UInt8 → Bool) (l : List UInt8) : allB p l = l.all p := by
  rw [Bool.eq_iff_iff, allB_iff, List.all_eq_true]

/-- The signs, each ahead of those that it begins with. -/
def sgs : List (List UInt8) := [[58, 61], [61, 58, 124], [61, 58], [124, 61, 58, 124], [124, 61, 58], [46, 46], [45, 45], [43, 43], [43, 45, 43], [42, 42], [60, 61], [62, 61], [60, 62], [61], [58], [59], [44],
  [40], [41], [91], [93], [123], [125], [43], [45], [42], [47], [60], [62], [38], [46]]
/-- The longest sign with which a string begins, or nothing. -/
def sgn (l : List UInt8) : List UInt8 := ((sgs.find? fun s => s.isPrefixOf l).getD [])

/-- How many bytes the number has with which a string begins, or 0. -/
def numeral (l : List UInt8) : Nat :=
  match l.drop (runN digit l) with
  | 46 :: t => if runN digit t = 0 then runN digit l else runN digit l + 1 + runN digit t
  | _ => runN digit l

/-- A token, but for its position. -/
structure Tk where
  kind : Int
  text : List UInt8
  p : Int
  q : Int
deriving DecidableEq
/-- What stands at the front: a token of n bytes (e is 0), or a fault e that names up to 40 of n bytes. -/
structure One where
  t : Tk
  n : Nat
  e : Int
deriving DecidableEq
def One.bad (n : Nat) (e : Int) : One := ⟨⟨0, [], 0, 0⟩, n, e⟩
/-- The number that a numeral is: numerator, denominator, error. -/
def numOf (l : List UInt8) : One :=
  let wh := l.take (runN digit l)
  let pt := l.drop (runN digit l + 1)
  if 9 < wh.length ∨ 5 < pt.length then One.bad l.length 3
  else if Nm.mkE (dval (wh ++ pt)) ((10 ^ pt.length : Nat) : Int) = 0 then ⟨⟨2, [], Nm.mkP (dval (wh ++ pt)) ((10 ^ pt.length : Nat) : Int), Nm.mkQ (dval (wh ++ pt)) ((10 ^ pt.length : Nat) : Int)⟩, l.length, 0⟩
  else One.bad l.length 17
/-- The string with which l, which is what stands behind a quotation mark, begins. -/
def strOf (l : List UInt8) : One :=
  let m := runN notQ l
  if m = l.length ∨ allB quot (l.take m) = false then One.bad 1 10
  else if 100 < m then One.bad (m + 2) 3
  else ⟨⟨3, l.take m, 0, 0⟩, m + 2, 0⟩
/-- The token with which a string that is not empty begins. -/
def first (l : List UInt8) : One :=
  if 0 < runN letter l then
    (if 40 < runN letter l then One.bad (runN letter l) 3 else ⟨⟨0, l.take (runN letter l), 0, 0⟩, runN letter l, 0⟩)
  else if 0 < numeral l then numOf (l.take (numeral l))
  else if l.getD 0 0 = 34 then strOf (l.drop 1)
  else if sgn l = [] then One.bad 1 10
  else ⟨⟨4, sgn l, 0, 0⟩, (sgn l).length, 0⟩

/-- A token with its position. -/
structure Tp extends Tk where
  line : Int
  col : Int
deriving DecidableEq
/-- The tokens of a string, or its first fault. -/
inductive Res where
  | ok (l : List Tp)
  | bad (e : Int) (name : List UInt8) (line col : Int)
deriving DecidableEq
def Res.cons (t : Tp) : Res → Res
  | .ok l => .ok (t :: l)
  | .bad e n a b => .bad e n a b
def Res.pre (l : List Tp) : Res → Res
  | .ok m => .ok (l ++ m)
  | .bad e n a b => .bad e n a b
theorem Res.pre_cons (l : List Tp) (t : Tp) (r : Res) : (r.cons t).pre l = r.pre (l ++ [t]) := by cases r <;> simp [Res.cons, Res.pre]
theorem Res.pre_nil (r : Res) : r.pre [] = r := by cases r <;> simp [Res.pre]

/-- Line and column behind a byte. -/
def advC (c : UInt8) (p : Int × Int) : Int × Int := if c = 10 then (p.1 + 1, 1) else (p.1, p.2 + 1)
def adv (l : List UInt8) (p : Int × Int) : Int × Int := l.foldl (fun p c => advC c p) p
theorem adv_nil (p : Int × Int) : adv [] p = p := rfl
theorem adv_cons (c : UInt8) (l : List UInt8) (p : Int × Int) : adv (c :: l) p = adv l (advC c p) := rfl
theorem adv_append (a b : List UInt8) (p : Int × Int) : adv (a ++ b) p = adv b (adv a p) := by simp [adv]
theorem adv_plain (l : List UInt8) (p : Int × Int) (h : ∀ c ∈ l, c ≠ 10) : adv l p = (p.1, p.2 + l.length) := by
  induction l generalizing p with
  | nil => simp [adv_nil]
  | cons c l ih =>
    rw [adv_cons, ih _ (fun x hx => h x (by simp [hx])), advC, if_neg (h c (by simp))]
    simp only [List.length_cons, Prod.mk.injEq, true_and]
    omega

/-- The tokens of a string from a place on (the number bounds how many steps). -/
def scan : Nat → List UInt8 → Int × Int → Res
  | 0, _, _ => .ok []
  | _ + 1, [], _ => .ok []
  | f + 1, c :: l, p =>
    if blank c = true then scan f l (advC c p)
    else if c = 37 then scan f ((c :: l).drop (runN notNl (c :: l))) (p.1, p.2 + runN notNl (c :: l))
    else if (first (c :: l)).e = 0 then (scan f ((c :: l).drop (first (c :: l)).n) (p.1, p.2 + (first (c :: l)).n)).cons ⟨(first (c :: l)).t, p.1, p.2⟩
    else .bad (first (c :: l)).e ((c :: l).take (min (first (c :: l)).n 40)) p.1 p.2
end Lx
end Go.Proofs.YtnhcjgnohnedaaaGreatDoor

namespace Go.Proofs.YtnhcjgnohnedaaaGreatDoor
namespace Lx

theorem numeral_cases (l : List UInt8) : (∃ t, l.drop (runN digit l) = 46 :: t ∧ runN digit t ≠ 0 ∧ numeral l = runN digit l + 1 + runN digit t) ∨ numeral l = runN digit l := by
  unfold numeral
  split
  · rename_i t h
    by_cases h0 : runN digit t = 0
    · right; simp [h0]
    · left; exact ⟨t, h, h0, by simp [h0]⟩
  · right; rfl
theorem numeral_le (l : List UInt8) : numeral l ≤ l.length := by
  rcases numeral_cases l with ⟨t, h, h0, e⟩ | e
  · have a := runN_le digit t
    have b := congrArg List.length h
    simp only [List.length_drop, List.length_cons] at b
    omega
  · rw [e]; exact runN_le _ _
theorem sgn_mem (l : List UInt8) : sgn l = [] ∨ (sgn l ∈ sgs ∧ (sgn l).isPrefixOf l = true) := by
  unfold sgn
  cases h : sgs.find? fun s => s.isPrefixOf l with
  | none => left; rfl
  | some s => right; exact ⟨List.mem_of_find?_eq_some h, by simpa using List.find?_some h⟩
theorem sgs_small : ∀ s ∈ sgs, 1 ≤ s.length ∧ s.length ≤ 4 ∧ ∀ c ∈ s, c ≠ 10 ∧ c ≠ 32 ∧ c ≠ 37 ∧ letter c = false ∧ digit c = false ∧ blank c = false ∧ c ≠ 34 := by decide
theorem prefix_take {s l : List UInt8} (h : s.isPrefixOf l = true) : s.length ≤ l.length ∧ l.take s.length = s := by
  rw [List.isPrefixOf_iff_prefix] at h
  obtain ⟨t, rfl⟩ := h
  exact ⟨by simp, by simp⟩
theorem numOf_n (l : List UInt8) : (numOf l).n = l.length ∧ (numOf l).e ∈ [0, 3, 17] := by
  simp only [numOf]; split
  · simp [One.bad]
  · split <;> simp [One.bad]
theorem strOf_n (l : List UInt8) : 1 ≤ (strOf l).n ∧ (strOf l).n ≤ l.length + 1 ∧ (strOf l).e ∈ [0, 3, 10] := by
  have := runN_le notQ l
  simp only [strOf]; split
  · simp [One.bad]
  · rename_i h
    have h' : ¬ runN notQ l = l.length := fun e => h (Or.inl e)
    split <;> simp [One.bad] <;> omega
/-- What is read is not empty, and lies in the string. -/
theorem first_n (l : List UInt8) (hl : l ≠ []) : 1 ≤ (first l).n ∧ (first l).n ≤ l.length := by
  have h0 : 1 ≤ l.length := by cases l <;> simp_all
  have a := runN_le letter l
  have b := numeral_le l
  simp only [first]
  split
  · split <;> simp [One.bad] <;> omega
  · split
    · rw [(numOf_n _).1, List.length_take]; omega
    · split
      · have := strOf_n (l.drop 1); rw [List.length_drop] at this; omega
      · split
        · simp [One.bad]; omega
        · rcases sgn_mem l with h | ⟨h, hp⟩
          · contradiction
          · have := sgs_small _ h; have := (prefix_take hp).1; simp; omega

theorem notNl_not {p : UInt8 → Bool} (hp : p 10 = false) {c : UInt8} (h : p c = true) : c ≠ 10 := by rintro rfl; rw [hp] at h; cases h
theorem numeral_take (l : List UInt8) : ∀ c ∈ l.take (numeral l), digit c = true ∨ c = 46 := by
  intro c hc
  rcases numeral_cases l with ⟨t, h, h0, e⟩ | e
  · have hl : l = l.take (runN digit l) ++ 46 :: t := by rw [← h, List.take_append_drop]
    rw [e] at hc
    rw [hl, List.take_append] at hc
    have hr := runN_le digit l
    rw [← hl] at hc
    have e1 : runN digit l + 1 + runN digit t - (l.take (runN digit l)).length = runN digit t + 1 := by rw [List.length_take]; omega
    rw [e1, List.take_succ_cons, List.take_take] at hc
    simp only [List.mem_append, List.mem_cons] at hc
    rcases hc with hc | rfl | hc
    · left; exact runN_take_all digit l c (by rwa [Nat.min_eq_right (by omega)] at hc)
    · right; rfl
    · left; exact runN_take_all digit t c hc
  · rw [e] at hc; left; exact runN_take_all digit l c hc
/-- No token spans two lines. -/
theorem first_line (l : List UInt8) (he : (first l).e = 0) : ∀ c ∈ l.take (first l).n, c ≠ 10 := by
  intro c hc
  simp only [first] at he hc
  split at he
  · rw [if_pos (by assumption)] at hc
    split at he
    · simp [One.bad] at he
    · rw [if_neg (by assumption)] at hc
      exact notNl_not (by decide) (runN_take_all letter l c hc)
  · rw [if_neg (by assumption)] at hc
    split at he
    · rw [if_pos (by assumption), (numOf_n _).1, List.length_take, Nat.min_eq_left (numeral_le l)] at hc
      rcases numeral_take l c hc with h | rfl
      · exact notNl_not (by decide) h
      · decide
    · rw [if_neg (by assumption)] at hc
      split at he
      · rename_i hq
        rw [if_pos hq] at hc
        simp only [strOf] at he hc
        split at he
        · simp [One.bad] at he
        · rename_i hbad
          rw [if_neg hbad] at hc
          split at he
          · simp [One.bad] at he
          · rw [if_neg (by assumption)] at hc
            have hm := runN_le notQ (l.drop 1)
            have hne : runN notQ (l.drop 1) < (l.drop 1).length := by
              have : ¬ runN notQ (l.drop 1) = (l.drop 1).length := fun e => hbad (Or.inl e)
              omega
            have hall : allB quot ((l.drop 1).take (runN notQ (l.drop 1))) = true := by
              cases h : allB quot ((l.drop 1).take (runN notQ (l.drop 1)))
              · exact absurd (Or.inr h) hbad
              · rfl
            rw [allB_iff] at hall
            have hst := runN_stop notQ (l.drop 1) hne
            have hend : (l.drop 1).getD (runN notQ (l.drop 1)) 0 = 34 := by simpa [notQ] using hst
            cases l with
            | nil => simp at hc
            | cons d l =>
              simp only [List.drop_succ_cons, List.drop_zero] at *
              simp only [List.getD_cons_zero] at hq
              subst hq
              simp only [List.take_succ_cons, List.mem_cons] at hc
              rcases hc with rfl | hc
              · decide
              · rw [List.take_succ_eq_append_getElem hne] at hc
                simp only [List.mem_append, List.mem_singleton] at hc
                rcases hc with hc | rfl
                · exact notNl_not (by decide) (hall c hc)
                · have e : l.getD (runN notQ l) 0 = l[runN notQ l] := by simp [List.getD, List.getElem?_eq_getElem hne]
                  rw [← e, hend]; decide
      · rw [if_neg (by assumption)] at hc
        split at he
        · simp [One.bad] at he
        · rw [if_neg (by assumption)] at hc
          rcases sgn_mem l with h | ⟨h, hp⟩
          · contradiction
          · simp only [(prefix_take hp).2] at hc
            exact ((sgs_small _ h).2.2 c hc).1

/-- More steps change nothing, where there are enough. -/
theorem scan_fuel (f : Nat) : ∀ (g : Nat) (l : List UInt8) (p : Int × Int), l.length < f → l.length < g → scan f l p = scan g l p := by
  induction f with
  | zero => intro g l p h; omega
  | succ f ih =>
    intro g l p hf hg
    cases g with
    | zero => omega
    | succ g =>
      cases l with
      | nil => rfl
      | cons c l =>
        simp only [List.length_cons] at hf hg
        simp only [scan]
        by_cases hb : blank c = true
        · rw [if_pos hb, if_pos hb]; exact ih g l _ (by omega) (by omega)
        · rw [if_neg hb, if_neg hb]
          by_cases h37 : c = 37
          · rw [if_pos h37, if_pos h37]
            have : 0 < runN notNl (c :: l) := by simp [runN, notNl, h37]
            refine ih g _ _ ?_ ?_ <;> rw [List.length_drop, List.length_cons] <;> omega
          · rw [if_neg h37, if_neg h37]
            have := first_n (c :: l) (by simp)
            by_cases he : (first (c :: l)).e = 0
            · rw [if_pos he, if_pos he, ih g _ _ (by rw [List.length_drop, List.length_cons]; omega) (by rw [List.length_drop, List.length_cons]; omega)]
            · rw [if_neg he, if_neg he]
/-- The tokens of a string from a place on. -/
def toks (l : List UInt8) (p : Int × Int) : Res := scan (l.length + 1) l p
theorem toks_nil (p : Int × Int) : toks [] p = .ok [] := rfl
theorem toks_blank (c : UInt8) (l : List UInt8) (p : Int × Int) (h : blank c = true) : toks (c :: l) p = toks l (advC c p) := by
  unfold toks; rw [List.length_cons, scan, if_pos h]
theorem toks_comment (l : List UInt8) (p : Int × Int) : toks (37 :: l) p = toks ((37 :: l).drop (runN notNl (37 :: l))) (p.1, p.2 + runN notNl (37 :: l)) := by
  have : 0 < runN notNl (37 :: l) := by simp [runN, notNl]
  unfold toks
  rw [List.length_cons, scan, if_neg (by decide), if_pos rfl]
  exact scan_fuel _ _ _ _ (by rw [List.length_drop, List.length_cons]; omega) (by omega)
theorem toks_tok (c : UInt8) (l : List UInt8) (p : Int × Int) (hb : blank c = false) (h37 : c ≠ 37) (he : (first (c :: l)).e = 0) :
    toks (c :: l) p = (toks ((c :: l).drop (first (c :: l)).n) (p.1, p.2 + (first (c :: l)).n)).cons ⟨(first (c :: l)).t, p.1, p.2⟩ := by
  have := first_n (c :: l) (by simp)
  unfold toks
  rw [List.length_cons, scan, if_neg (by simp [hb]), if_neg h37, if_pos he]
  congr 1
  exact scan_fuel _ _ _ _ (by rw [List.length_drop, List.length_cons]; omega) (by omega)
theorem toks_bad (c : UInt8) (l : List UInt8) (p : Int × Int) (hb : blank c = false) (h37 : c ≠ 37) (he : (first (c :: l)).e ≠ 0) :
    toks (c :: l) p = .bad (first (c :: l)).e ((c :: l).take (min (first (c :: l)).n 40)) p.1 p.2 := by
  unfold toks
  rw [List.length_cons, scan, if_neg (by simp [hb]), if_neg h37, if_neg he]
/-- Blanks in front. -/
theorem toks_blanks (l : List UInt8) : ∀ p, toks l p = toks (l.drop (runN blank l)) (adv (l.take (runN blank l)) p) := by
  induction l with
  | nil => intro p; rfl
  | cons c l ih =>
    intro p
    by_cases h : blank c = true
    · rw [toks_blank c l p h, ih]; simp [runN, h, adv_cons]
    · simp [runN, h, adv_nil]
/-- A comment in front. -/
theorem toks_comment' (l : List UInt8) (p : Int × Int) (h : l.getD 0 0 = 37) : toks l p = toks (l.drop (runN notNl l)) (adv (l.take (runN notNl l)) p) := by
  cases l with
  | nil => simp at h
  | cons c l =>
    simp only [List.getD_cons_zero] at h
    subst h
    rw [toks_comment, adv_plain _ _ (fun c hc => notNl_not (by decide) (runN_take_all notNl _ c hc)), List.length_take, Nat.min_eq_left (runN_le _ _)]
end Lx
end Go.Proofs.YtnhcjgnohnedaaaGreatDoor
