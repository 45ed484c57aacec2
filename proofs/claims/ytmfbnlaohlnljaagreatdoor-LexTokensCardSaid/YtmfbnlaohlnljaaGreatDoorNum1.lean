/-
  Plain mathematics of exact numbers: what Make and the operations of package num return, as functions of integers. It imports nothing of the program.
  Contracts of package num's small functions, and of the reference's: sizes, greatest common divisors.
-/
import Derived.Lib.Hide
import Derived.Test.YtmfbnlaohlnljaaGreatDoorRows
import Derived.WalkKit
import Derived.WalkSpells
import Derived.WalkLawsBesides
import Derived.BigQuiet
import Derived.Deep.QuietTactic
namespace Go.Proofs.YtmfbnlaohlnljaaGreatDoor
namespace Nm

/-- The greatest common divisor of two integers' sizes. -/
def gcdn (p q : Int) : Nat := Nat.gcd p.natAbs q.natAbs
def top (p q : Int) : Nat := p.natAbs / gcdn p q
def bot (p q : Int) : Nat := q.natAbs / gcdn p q
def neg (p q : Int) : Bool := decide (p < 0) != decide (q < 0)
/-- The error code of Make. -/
def mkE (p q : Int) : Int := if q = 0 then 18 else if 2147483647 < top p q ∨ 2147483647 < bot p q then 17 else 0
def mkP (p q : Int) : Int := if mkE p q = 0 then (if neg p q = true then -(top p q : Int) else (top p q : Int)) else 0
def mkQ (p q : Int) : Int := if mkE p q = 0 then (bot p q : Int) else 0
def vld (p q : Int) : Bool := decide (1 ≤ q ∧ q ≤ 2147483647 ∧ -2147483647 ≤ p ∧ p ≤ 2147483647 ∧ gcdn p q = 1)

theorem gcdn_pos (p q : Int) (h : q ≠ 0) : 1 ≤ gcdn p q := by
  have : 0 < gcdn p q := Nat.gcd_pos_of_pos_right _ (by omega)
  omega
theorem top_le (p q : Int) : top p q ≤ p.natAbs := Nat.div_le_self _ _
theorem bot_le (p q : Int) : bot p q ≤ q.natAbs := Nat.div_le_self _ _

theorem tm_lt (p q : Int) (hq : q ≠ 0) : (p.tmod q).natAbs < q.natAbs := by
  rw [Int.natAbs_tmod]; exact Nat.mod_lt _ (by omega)
theorem tm_eq (p q : Int) : p.tmod q + q * p.tdiv q = p := Int.tmod_add_mul_tdiv p q
theorem td_bd (p q : Int) : (p.tdiv q).natAbs ≤ p.natAbs := Int.natAbs_tdiv_le_natAbs p q
theorem fl_same (p q : Int) (hq : q ≠ 0) (h : p.tmod q = 0 ∨ (p.tmod q < 0 ↔ q < 0)) : p.tdiv q = p.fdiv q ∧ p.tmod q = p.fmod q := by
  have h1 := tm_lt p q hq
  have h2 := tm_eq p q
  by_cases hp : 0 < q
  · have := (Int.fdiv_fmod_unique hp (a := p) (r := p.tmod q) (q := p.tdiv q)).2 ⟨h2, by omega, by omega⟩
    exact ⟨this.1.symm, this.2.symm⟩
  · have := (Int.fdiv_fmod_unique' (by omega : q < 0) (a := p) (r := p.tmod q) (q := p.tdiv q)).2 ⟨h2, by omega, by omega⟩
    exact ⟨this.1.symm, this.2.symm⟩
theorem fl_diff (p q : Int) (hq : q ≠ 0) (h0 : p.tmod q ≠ 0) (h : ¬ (p.tmod q < 0 ↔ q < 0)) : p.tdiv q - 1 = p.fdiv q ∧ p.tmod q + q = p.fmod q := by
  have h1 := tm_lt p q hq
  have h2 := tm_eq p q
  have h3 : p.tmod q + q + q * (p.tdiv q - 1) = p := by rw [Int.mul_sub]; omega
  by_cases hp : 0 < q
  · have := (Int.fdiv_fmod_unique hp (a := p) (r := p.tmod q + q) (q := p.tdiv q - 1)).2 ⟨h3, by omega, by omega⟩
    exact ⟨this.1.symm, this.2.symm⟩
  · have := (Int.fdiv_fmod_unique' (by omega : q < 0) (a := p) (r := p.tmod q + q) (q := p.tdiv q - 1)).2 ⟨h3, by omega, by omega⟩
    exact ⟨this.1.symm, this.2.symm⟩
theorem fm_bd (p q : Int) : (0 < q → 0 ≤ p.fmod q ∧ p.fmod q < q) ∧ (q < 0 → q < p.fmod q ∧ p.fmod q ≤ 0) :=
  ⟨fun h => ⟨Int.fmod_nonneg_of_pos p h, Int.fmod_lt_of_pos p h⟩, fun h => ((Int.fdiv_fmod_unique' h).1 ⟨rfl, rfl⟩).2⟩

/-- What an operation of two numbers gives: ErrArg unless both are valid (v), else what Make gives. -/
def resP (v : Bool) (p q : Int) : Int := if v = true then mkP p q else 0
def resQ (v : Bool) (p q : Int) : Int := if v = true then mkQ p q else 0
def resE (v : Bool) (p q : Int) : Int := if v = true then mkE p q else 2
theorem gcdn_neg (p q : Int) : gcdn (-p) (-q) = gcdn p q := by simp [gcdn]
theorem top_neg (p q : Int) : top (-p) (-q) = top p q := by simp [top, gcdn_neg]
theorem bot_neg (p q : Int) : bot (-p) (-q) = bot p q := by simp [bot, gcdn_neg]
theorem mkE_neg (p q : Int) : mkE (-p) (-q) = mkE p q := by simp [mkE, top_neg, bot_neg]
theorem mkQ_neg (p q : Int) : mkQ (-p) (-q) = mkQ p q := by simp [mkQ, mkE_neg, bot_neg]
theorem mkP_neg (p q : Int) : mkP (-p) (-q) = mkP p q := by
  by_cases hq : q = 0
  · subst hq; simp [mkP, mkE]
  by_cases hp : p = 0
  · subst hp; simp [mkP, mkE, top]
  · have : neg (-p) (-q) = neg p q := by
      unfold neg
      have e1 : decide (-p < 0) = !decide (p < 0) := by rw [Bool.eq_iff_iff]; simp; omega
      have e2 : decide (-q < 0) = !decide (q < 0) := by rw [Bool.eq_iff_iff]; simp; omega
      rw [e1, e2]; cases decide (p < 0) <;> cases decide (q < 0) <;> rfl
    simp only [mkP, mkE_neg, top_neg, this]
theorem mkE_zero (p : Int) : mkE p 0 = 18 := by simp [mkE]
theorem mkP_zero (p : Int) : mkP p 0 = 0 := by simp [mkP, mkE]
theorem mkQ_zero (p : Int) : mkQ p 0 = 0 := by simp [mkQ, mkE]

end Nm
end Go.Proofs.YtmfbnlaohlnljaaGreatDoor

namespace Go.Proofs.YtmfbnlaohlnljaaGreatDoor
open Go.RowKit

theorem ret_int {k : IntKind} {a b : Int} (h : a = b) : Ending.returned (.int k a) = .returned (.int k b) := by rw [h]

theorem wrap_abs (n : Int) (h0 : -9223372036854775808 ≤ n) (h : n < 0) : IntKind.u64.wrap (-IntKind.u64.wrap n) = (n.natAbs : Int) := by
  rw [IntKind.wrap_u64, IntKind.wrap_u64]; omega

set_option maxHeartbeats 400000 in
theorem magnitude_any (n : Int) (w : World) (h0 : -9223372036854775808 ≤ n) (h1 : n ≤ 9223372036854775807) :
    Calls Tryz.prog 155 #[.int .i64 n] w fun e w' => e = .returned (.int .u64 (n.natAbs : Int)) ∧ w = w' := by
  by_cases h : n < 0
  · go_enter Tryz.func155, Tryz.ntmps155
    go_wp2
    go_ret
    exact ⟨ret_int (wrap_abs n h0 h), rfl⟩
  · go_enter Tryz.func155, Tryz.ntmps155
    go_wp2
    go_ret
    exact ⟨ret_int (by omega), rfl⟩

set_option maxHeartbeats 400000 in
theorem size_any (n : Int) (w : World) (h0 : -9223372036854775808 ≤ n) (h1 : n ≤ 9223372036854775807) :
    Calls Tryz.prog 130 #[.int .i64 n] w fun e w' => e = .returned (.int .u64 (n.natAbs : Int)) ∧ w = w' := by
  by_cases h : n < 0
  · go_enter Tryz.func130, Tryz.ntmps130
    go_wp2
    go_ret
    exact ⟨ret_int (by omega), rfl⟩
  · go_enter Tryz.func130, Tryz.ntmps130
    go_wp2
    go_ret
    exact ⟨ret_int (by omega), rfl⟩

theorem gcd_step (a b : Nat) : Nat.gcd a b = Nat.gcd b (a % b) := by
  rw [Nat.gcd_comm a b, Nat.gcd_rec b a, Nat.gcd_comm]

set_option maxHeartbeats 400000 in
theorem divisor_any (a b : Nat) (w : World) (ha : a ≤ 18446744073709551615) (hb : b ≤ 18446744073709551615) :
    Calls Tryz.prog 154 #[.int .u64 a, .int .u64 b] w fun e w' => e = .returned (.int .u64 (Nat.gcd a b : Nat)) ∧ ∃ n, w' = w.drewN n := by
  go_enter Tryz.func154, Tryz.ntmps154
  go_wp2
  go_loopw [0, 1] (fun x y wr => ∃ m n k : Nat, x = .int .u64 m ∧ y = .int .u64 n ∧ m ≤ 18446744073709551615 ∧ n ≤ 18446744073709551615 ∧ Nat.gcd m n = Nat.gcd a b ∧ wr = w.drewN k) (fun _ y _ => (intOf y).toNat)
  case atStart => exact ⟨a, b, 0, rfl, rfl, ha, hb, rfl, rfl⟩
  case round =>
    obtain ⟨m, n, k, rfl, rfl, hm, hn, hg, rfl⟩ := hrel
    have HG := Lib.hid hg
    clear hg
    by_cases h : n = 0
    · subst h
      go_wp2
      go_ret
      exact ⟨ret_int (by rw [← HG.out]; simp), ⟨_, rfl⟩⟩
    · have hb1 : ((n : Int) == 0) = false := by simpa using h
      go_wp2
      go_quiet (fail)
      go_wp2
      refine ⟨⟨n, m % n, k + nq, rfl, by go_num, hn, by have := Nat.mod_lt m (Nat.pos_of_ne_zero h); omega, by rw [← gcd_step]; exact HG.out, by rw [World.drewN_drewN]⟩, ?_⟩
      have := Nat.mod_lt m (Nat.pos_of_ne_zero h)
      simp [intOf]; omega

set_option maxHeartbeats 400000 in
theorem gcd_any (a b : Nat) (w : World) (ha : a ≤ 18446744073709551615) (hb : b ≤ 18446744073709551615) :
    Calls Tryz.prog 152 #[.int .u64 a, .int .u64 b] w fun e w' => e = .returned (.int .u64 (Nat.gcd a b : Nat)) ∧ w = w' := by
  go_enter Tryz.func152, Tryz.ntmps152
  go_wp2
  go_loop [0, 1, 5] (fun x y _ => ∃ m n : Nat, x = .int .u64 m ∧ y = .int .u64 n ∧ m ≤ 18446744073709551615 ∧ n ≤ 18446744073709551615 ∧ Nat.gcd m n = Nat.gcd a b) (fun _ y _ => (intOf y).toNat)
  case atStart => exact ⟨a, b, rfl, rfl, ha, hb, rfl⟩
  case round =>
    obtain ⟨m, n, rfl, rfl, hm, hn, hg⟩ := hrel
    have HG := Lib.hid hg
    clear hg
    by_cases h : n = 0
    · subst h
      go_wp2
      go_ret
      exact ⟨ret_int (by rw [← HG.out]; simp), rfl⟩
    · have hb1 : (0 : Int) < n := by omega
      go_wp2
      have hlt := Nat.mod_lt m (Nat.pos_of_ne_zero h)
      refine ⟨⟨n, m % n, rfl, by go_num, hn, by omega, by rw [← gcd_step]; exact HG.out⟩, ?_⟩
      simp [intOf]; omega

theorem ret_two {k : IntKind} {a b c d : Int} (h : a = b) (h' : c = d) : Ending.returned (.tuple #[.int k a, .int k c]) = .returned (.tuple #[.int k b, .int k d]) := by rw [h, h']

end Go.Proofs.YtmfbnlaohlnljaaGreatDoor
