/-
  Plain mathematics of fixed numbers, quotients rounded down, remainders.
  Contracts: units (the fixed part of a rest) of package num, at quotients of 64 bits.
  Contracts: Floor, Cmp, FromFixed, Mod of package num and of the reference.
  Contracts: Mod of package num and of the reference.
  Contracts: Near of package num: the nearest fixed number.
  Contracts: Text of package num; what a world must keep for it (the table of powers of ten, a constant of the string search).
  Plain mathematics of decimal digits: the number that a list of digits is.
  Contracts: digits (are all bytes decimal digits) of package num.
-/
import Derived.Test.YtmfbnlaohlnljaaGreatDoorNum1
import Derived.Test.YtmfbnlaohlnljaaGreatDoorNum8
import Derived.Test.YtmfbnlaohlnljaaGreatDoorShelf
import Derived.Laws.Externs
import Derived.WalkSmall
import Derived.Lib.AppendIntMem
import Derived.Lib.ItoaLen
import Derived.Lib.ConvBytes
namespace Go.Proofs.YtmfbnlaohlnljaaGreatDoor
namespace Nm
/-- floor(65,536 r / q + 1/2). -/
def un (r q : Int) : Int := (131072 * r + q) / (2 * q)
theorem un_bd (r q : Int) (h0 : 0 ≤ r) (h1 : r < q) : 0 ≤ un r q ∧ un r q ≤ 65536 := by
  unfold un
  constructor
  · exact Int.ediv_nonneg (by omega) (by omega)
  · have : (131072 * r + q) / (2 * q) < 65537 := Int.ediv_lt_of_lt_mul (by omega) (by omega)
    omega
/-- p / q as a fixed number. -/
def fx (p q : Int) : Int := p.fdiv q * 65536 + un (p.fmod q) q
theorem fdiv_bd (p q : Int) (hq : 1 ≤ q) (h0 : -2147483648 ≤ p) (h1 : p ≤ 2147483647) : -2147483648 ≤ p.fdiv q ∧ p.fdiv q ≤ 2147483647 := by
  rw [Int.fdiv_eq_ediv_of_nonneg _ (by omega)]
  constructor
  · exact Int.le_ediv_of_mul_le (by omega) (by omega)
  · have : p / q < 2147483648 := Int.ediv_lt_of_lt_mul (by omega) (by omega)
    omega
end Nm
end Go.Proofs.YtmfbnlaohlnljaaGreatDoor

namespace Go.Proofs.YtmfbnlaohlnljaaGreatDoor
open Go.RowKit

end Go.Proofs.YtmfbnlaohlnljaaGreatDoor

namespace Go.Proofs.YtmfbnlaohlnljaaGreatDoor
open Go.RowKit

/-- Compare: -1, 0, 1. -/
def cmp3 (x y : Int) : Int := if x < y then -1 else if y < x then 1 else 0
theorem cmp3_lt {x y : Int} (h : x < y) : cmp3 x y = -1 := by simp [cmp3, h]
theorem cmp3_gt {x y : Int} (h : y < x) : cmp3 x y = 1 := by simp only [cmp3, if_neg (by omega : ¬ x < y), if_pos h]
theorem cmp3_eq {x y : Int} (h : ¬ x < y) (h' : ¬ y < x) : cmp3 x y = 0 := by simp only [cmp3, if_neg h, if_neg h']

/-- What Cmp returns. -/
def cmpV (v : Bool) (x y : Int) : Value := if v = true then .tuple #[.int .i64 (cmp3 x y), .int .i64 0] else .tuple #[.int .i64 0, .int .i64 2]

end Go.Proofs.YtmfbnlaohlnljaaGreatDoor

namespace Go.Proofs.YtmfbnlaohlnljaaGreatDoor
open Go.RowKit

/-- What Mod returns. -/
def modV (v : Bool) (aP aQ bP bQ : Int) : Value := if v = true then (if bP = 0 then numV 0 0 18 else numV (Nm.mkP ((aP * bQ).fmod (aQ * bP)) (aQ * bQ)) (Nm.mkQ ((aP * bQ).fmod (aQ * bP)) (aQ * bQ)) (Nm.mkE ((aP * bQ).fmod (aQ * bP)) (aQ * bQ))) else numV 0 0 2
theorem modV_no (aP aQ bP bQ : Int) : modV false aP aQ bP bQ = numV 0 0 2 := rfl
theorem modV_zero (aP aQ bQ : Int) : modV true aP aQ 0 bQ = numV 0 0 18 := rfl
theorem modV_ok (aP aQ bP bQ : Int) (h : bP ≠ 0) : modV true aP aQ bP bQ = numV (Nm.mkP ((aP * bQ).fmod (aQ * bP)) (aQ * bQ)) (Nm.mkQ ((aP * bQ).fmod (aQ * bP)) (aQ * bQ)) (Nm.mkE ((aP * bQ).fmod (aQ * bP)) (aQ * bQ)) := by
  simp only [modV, if_neg h]; rfl

end Go.Proofs.YtmfbnlaohlnljaaGreatDoor

namespace Go.Proofs.YtmfbnlaohlnljaaGreatDoor
open Go.RowKit

end Go.Proofs.YtmfbnlaohlnljaaGreatDoor

namespace Go.Proofs.YtmfbnlaohlnljaaGreatDoor
open Go.RowKit

/-- What the library's functions read: the table of powers of ten, and a number of the string search. -/
structure Env (w : World) : Prop where
  max : ∃ m, w.cell? ⟨3, 0, none⟩ = some (.int .i64 m)
  tab : Lib.TabIs Tryz.prog w "internal/strconv.uint64pow10" .u64 Lib.pow10Tab
  size : 8 ≤ w.heap.size
theorem pow_name : Tryz.prog.globalNamed "internal/strconv.uint64pow10" = some 2 := by kernel_rfl
theorem Env.below {w w' : World} (h : Env w) (hb : Below w.heap.size w w') : Env w' := by
  have hs := h.size
  refine ⟨?_, ?_, Nat.le_trans h.size hb.size⟩
  · obtain ⟨m, hm⟩ := h.max
    exact ⟨m, by rw [(bcell hb).1 _ _ (by omega)]; exact hm⟩
  · exact var?_below hb pow_name (by omega) h.tab

theorem fmt_any (n : Int) (w : World) (h0 : -9223372036854775808 ≤ n) (h1 : n ≤ 9223372036854775807) (he : Env w) :
    Calls Tryz.prog 122 #[.int .i64 n, .int .i64 10] w fun e w' => e = .returned (.string ⟨(Lib.itoa n).toArray⟩) ∧ Below w.heap.size w w' :=
  (Tryz.strconv_FormatInt_10 n h0 h1 w he.tab).mono fun _ _ ⟨h, k, os, hw⟩ => ⟨h, by rw [hw]; exact Lib.below_grow _ _ (Nat.le_refl _) _ _⟩

theorem ba_app (a b : List UInt8) : (⟨a.toArray⟩ : ByteArray) ++ ⟨b.toArray⟩ = ⟨(a ++ b).toArray⟩ := by
  apply ByteArray.ext
  simp
theorem ba_app3 (a b : List UInt8) : (⟨a.toArray⟩ : ByteArray) ++ (⟨#[47]⟩ ++ ⟨b.toArray⟩) = ⟨(a ++ 47 :: b).toArray⟩ := by
  apply ByteArray.ext
  simp

/-- A number's string. -/
def txt (p q : Int) : List UInt8 := if q = 1 then Lib.itoa p else Lib.itoa p ++ 47 :: Lib.itoa q
/-- What Text returns. -/
def txtV (v : Bool) (p q : Int) : Value := if v = true then .tuple #[.string ⟨(txt p q).toArray⟩, .int .i64 0] else .tuple #[.string ⟨#[]⟩, .int .i64 2]
end Go.Proofs.YtmfbnlaohlnljaaGreatDoor

namespace Go.Proofs.YtmfbnlaohlnljaaGreatDoor
def dvalFrom (acc : Nat) (l : List UInt8) : Nat := l.foldl (fun a c => 10 * a + (c.toNat - 48)) acc
def dval (l : List UInt8) : Nat := dvalFrom 0 l
theorem dval_snoc (l : List UInt8) (c : UInt8) : dval (l ++ [c]) = 10 * dval l + (c.toNat - 48) := by simp [dval, dvalFrom]
/-- Are all bytes decimal digits? -/
def dig (l : List UInt8) : Bool := l.all fun c => decide (48 ≤ c.toNat) && decide (c.toNat ≤ 57)
theorem dvalFrom_lt (l : List UInt8) : ∀ acc, dig l = true → dvalFrom acc l < (acc + 1) * 10 ^ l.length := by
  induction l with
  | nil => intro acc _; simp [dvalFrom]
  | cons c t ih =>
    intro acc h
    simp only [dig, List.all_cons, Bool.and_eq_true, decide_eq_true_eq] at h
    obtain ⟨⟨h1, h2⟩, h3⟩ := h
    have := ih (10 * acc + (c.toNat - 48)) h3
    have e : dvalFrom acc (c :: t) = dvalFrom (10 * acc + (c.toNat - 48)) t := rfl
    rw [e, List.length_cons, Nat.pow_succ]
    refine Nat.lt_of_lt_of_le this ?_
    rw [Nat.mul_comm (10 ^ t.length) 10, ← Nat.mul_assoc]
    exact Nat.mul_le_mul_right _ (by omega)
theorem dval_lt (l : List UInt8) (h : dig l = true) : dval l < 10 ^ l.length := by simpa [dval] using dvalFrom_lt l 0 h
theorem dval_lt14 (l : List UInt8) (h : dig l = true) (hl : l.length ≤ 14) : dval l < 100000000000000 :=
  Nat.lt_of_lt_of_le (dval_lt l h) (Nat.le_trans (Nat.pow_le_pow_right (by omega) hl) (by decide))
theorem dig_snoc (l : List UInt8) (c : UInt8) : dig (l ++ [c]) = (dig l && (decide (48 ≤ c.toNat) && decide (c.toNat ≤ 57))) := by simp [dig]
theorem dig_append (a b : List UInt8) : dig (a ++ b) = (dig a && dig b) := by simp [dig]
theorem dig_take (l : List UInt8) (k : Nat) (h : dig l = true) : dig (l.take k) = true := by
  unfold dig at h ⊢
  rw [List.all_eq_true] at h ⊢
  exact fun c hc => h c (List.mem_of_mem_take hc)
theorem getD_at (l : List UInt8) (k : Nat) (hk : k < l.length) : l.getD k 0 = l[k] := by simp [List.getD, List.getElem?_eq_getElem hk]
theorem dig_at (l : List UInt8) (k : Nat) (hk : k < l.length) (h : dig l = true) : 48 ≤ (l.getD k 0).toNat ∧ (l.getD k 0).toNat ≤ 57 := by
  unfold dig at h
  rw [List.all_eq_true] at h
  have := h l[k] (List.getElem_mem hk)
  rw [getD_at l k hk]
  simpa using this
theorem take_at (l : List UInt8) (k : Nat) (hk : k < l.length) : l.take (k + 1) = l.take k ++ [l.getD k 0] := by
  rw [List.take_succ_eq_append_getElem hk, getD_at l k hk]
theorem pow5 (k : Nat) (h : k ≤ 5) : 1 ≤ 10 ^ k ∧ 10 ^ k ≤ 100000 :=
  ⟨Nat.one_le_pow _ _ (by omega), Nat.le_trans (Nat.pow_le_pow_right (by omega) h) (by decide)⟩
end Go.Proofs.YtmfbnlaohlnljaaGreatDoor

namespace Go.Proofs.YtmfbnlaohlnljaaGreatDoor
open Go.RowKit

theorem dig_no (l : List UInt8) (k : Nat) (hk : k < l.length) (h : ¬ (48 ≤ (l.getD k 0).toNat ∧ (l.getD k 0).toNat ≤ 57)) : dig l = false := by
  unfold dig
  rw [List.all_eq_false]
  refine ⟨l[k], List.getElem_mem hk, ?_⟩
  rw [getD_at l k hk] at h
  simp only [Bool.and_eq_true, decide_eq_true_eq]; exact h
theorem below_bytes (w : World) (e : TypeId) (s : ByteArray) : Below w.heap.size w (Lib.bytesWorld w e s) :=
  ⟨rfl, rfl, rfl, by rw [Lib.bytesWorld_size]; omega, fun k hk => Lib.bytesWorld_at_old w e s k hk⟩

set_option maxHeartbeats 400000 in
theorem digits_any (s : ByteArray) (w : World) (hs : s.size ≤ 30000) :
    Calls Tryz.prog 162 #[.string s] w fun e w' => e = .returned (.bool (dig s.data.toList)) ∧ Below w.heap.size w w' := by
  have hcv := Lib.run_convert_string_bytes (P := Tryz.prog) w 9 82 5 s (u := .string) Tryz.underlying9 Tryz.underlying82 Tryz.underlying5
  have hB : ∀ j, j < s.size → (Lib.bytesWorld w 5 s).cell? ⟨w.heap.size, j, none⟩ = some (.int .u8 (s.data.toList.getD j 0).toNat) := fun j hj => Lib.bytesWorld_cell w 5 s j hj
  have hW := Lib.hid (below_bytes w 5 s)
  obtain ⟨W1, hW1⟩ : ∃ W1, W1 = Lib.bytesWorld w 5 s := ⟨_, rfl⟩
  rw [← hW1] at hcv hB hW
  clear hW1
  obtain ⟨bs, hL⟩ : ∃ bs, bs = s.data.toList := ⟨_, rfl⟩
  have hLn : bs.length = s.size := by rw [hL, Lib.size_eq]
  rw [← hL] at hB ⊢
  clear hL
  have HL := Lib.hid hLn
  clear hLn
  go_enter Tryz.func162, Tryz.ntmps162
  go_wp2
  clear hcv
  go_loop [8] (fun vi => ∃ k : Nat, vi = .int .i64 k ∧ k ≤ s.size ∧ Hid (dig (bs.take k) = true)) (fun vi => s.size - (intOf vi).toNat)
  case atStart => exact ⟨0, rfl, by omega, rfl⟩
  case round =>
    obtain ⟨k, rfl, hk, hd⟩ := hrel
    by_cases hkn : k < s.size
    · have hc := hB k hkn
      have hgt : bs.take (k + 1) = bs.take k ++ [bs.getD k 0] := by
        rw [List.take_succ_eq_append_getElem (by rw [HL.out]; exact hkn), getD_at _ _ (by rw [HL.out]; exact hkn)]
      have HD : Hid ((48 ≤ (bs.getD k 0).toNat ∧ (bs.getD k 0).toNat ≤ 57 → dig (bs.take (k + 1)) = true) ∧ (¬ (48 ≤ (bs.getD k 0).toNat ∧ (bs.getD k 0).toNat ≤ 57) → dig bs = false)) :=
        ⟨fun h => by rw [hgt, dig_snoc, hd.out, decide_eq_true h.1, decide_eq_true h.2]; rfl, fun h => dig_no bs k (by rw [HL.out]; exact hkn) h⟩
      clear hgt hB
      generalize bs.getD k 0 = c at hc HD
      have hc256 : c.toNat < 256 := c.toNat_lt
      by_cases h1 : c.toNat < 48
      · go_wp2
        go_ret
        exact ⟨ret_bool (HD.out.2 (by omega)).symm, hW.out⟩
      by_cases h2 : 57 < c.toNat
      · go_wp2
        go_ret
        exact ⟨ret_bool (HD.out.2 (by omega)).symm, hW.out⟩
      · go_wp2
        refine ⟨⟨k + 1, by go_num, by omega, HD.out.1 ⟨by omega, by omega⟩⟩, by simp [intOf]; omega⟩
    · clear hB
      go_wp2
      go_ret
      exact ⟨ret_bool (by rw [← hd.out, List.take_of_length_le (by rw [HL.out]; omega)]), hW.out⟩
end Go.Proofs.YtmfbnlaohlnljaaGreatDoor
