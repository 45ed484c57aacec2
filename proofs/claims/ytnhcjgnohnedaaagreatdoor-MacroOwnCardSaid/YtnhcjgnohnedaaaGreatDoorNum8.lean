/-
  Plain mathematics of exact numbers: what Make and the operations of package num return, as functions of integers. It imports nothing of the program.
  Contracts of package num's small functions, and of the reference's: sizes, greatest common divisors.
  Contracts: Make and Valid of package num and of the reference.
  Contracts: the reference's Make, and Valid of both, and the checks of several numbers.
  Contracts: Valid of package num and of the reference, for any numbers.
  Contracts: both (reference), allValid and exact (package num).
  Contracts: exact of package num and of the reference, at each of the four operations.
  Contracts: the four operations, of package num and of the reference.
  Contracts: Add, Sub, Mul, Div of package num and of the reference, for any numbers.
-/
import Derived.Lib.Hide
import Derived.Test.YtnhcjgnohnedaaaGreatDoorRows
import Derived.WalkKit
import Derived.WalkSpells
import Derived.WalkLawsBesides
import Derived.BigQuiet
import Derived.Deep.QuietTactic
namespace Go.Proofs.YtnhcjgnohnedaaaGreatDoor
namespace Nm

/-- The greatest common divisor of two integers' sizes. -/
def gcdn (p q : Int) : Nat := Nat.gcd p.natAbs q.natAbs
def top (p q : Int) : Nat := p.natAbs / gcdn p q
def bot (p q : Int) : Nat := q.natAbs / gcdn p q
def neg (p q : Int) : Bool := decide (p < 0) != decide (q < 0)
/-- The error code of Make. -/
def mkE (p q : Int) : Int := if q = 0 then 18 else if 2147483647 < top p q ∨ 2147483647 < bot p q then 17 else 0
def mkP (p q : Int) : Int := if mkE p q = 0 then (if neg p q = true then -(top p q : Int) else (top p q : Int)) else 0
def mkQ (p q : Int) : Int := if mkE p q = 0 then (bot p q : Int) else 0
def vld (p q : Int) : Bool := decide (1 ≤ q ∧ q ≤ 2147483647 ∧ -2147483647 ≤ p ∧ p ≤ 2147483647 ∧ gcdn p q = 1)

theorem gcdn_pos (p q : Int) (h : q ≠ 0) : 1 ≤ gcdn p q := by
  have : 0 < gcdn p q := Nat.gcd_pos_of_pos_right _ (by omega)
  omega
theorem top_le (p q : Int) : top p q ≤ p.natAbs := Nat.div_le_self _ _
theorem bot_le (p q : Int) : bot p q ≤ q.natAbs := Nat.div_le_self _ _

theorem tm_lt (p q : Int) (hq : q ≠ 0) : (p.tmod q).natAbs < q.natAbs := by
  rw [Int.natAbs_tmod]; exact Nat.mod_lt _ (by omega)
theorem tm_eq (p q : Int) : p.tmod q + q * p.tdiv q = p := Int.tmod_add_mul_tdiv p q
theorem td_bd (p q : Int) : (p.tdiv q).natAbs ≤ p.natAbs := Int.natAbs_tdiv_le_natAbs p q
theorem fl_same (p q : Int) (hq : q ≠ 0) (h : p.tmod q = 0 ∨ (p.tmod q < 0 ↔ q < 0)) : p.tdiv q = p.fdiv q ∧ p.tmod q = p.fmod q := by
  have h1 := tm_lt p q hq
  have h2 := tm_eq p q
  by_cases hp : 0 < q
  · have := (Int.fdiv_fmod_unique hp (a := p) (r := p.tmod q) (q := p.tdiv q)).2 ⟨h2, by omega, by omega⟩
    exact ⟨this.1.symm, this.2.symm⟩
  · have := (Int.fdiv_fmod_unique' (by omega : q < 0) (a := p) (r := p.tmod q) (q := p.tdiv q)).2 ⟨h2, by omega, by omega⟩
    exact ⟨this.1.symm, this.2.symm⟩
theorem fl_diff (p q : Int) (hq : q ≠ 0) (h0 : p.tmod q ≠ 0) (h : ¬ (p.tmod q < 0 ↔ q < 0)) : p.tdiv q - 1 = p.fdiv q ∧ p.tmod q + q = p.fmod q := by
  have h1 := tm_lt p q hq
  have h2 := tm_eq p q
  have h3 : p.tmod q + q + q * (p.tdiv q - 1) = p := by rw [Int.mul_sub]; omega
  by_cases hp : 0 < q
  · have := (Int.fdiv_fmod_unique hp (a := p) (r := p.tmod q + q) (q := p.tdiv q - 1)).2 ⟨h3, by omega, by omega⟩
    exact ⟨this.1.symm, this.2.symm⟩
  · have := (Int.fdiv_fmod_unique' (by omega : q < 0) (a := p) (r := p.tmod q + q) (q := p.tdiv q - 1)).2 ⟨h3, by omega, by omega⟩
    exact ⟨this.1.symm, this.2.symm⟩
theorem fm_bd (p q : Int) : (0 < q → 0 ≤ p.fmod q ∧ p.fmod q < q) ∧ (q < 0 → q < p.fmod q ∧ p.fmod q ≤ 0) :=
  ⟨fun h => ⟨Int.fmod_nonneg_of_pos p h, Int.fmod_lt_of_pos p h⟩, fun h => ((Int.fdiv_fmod_unique' h).1 ⟨rfl, rfl⟩).2⟩

/-- What an operation of two numbers gives: ErrArg unless both are valid (v), else what Make gives. -/
def resP (v : Bool) (p q : Int) : Int := if v = true then mkP p q else 0
def resQ (v : Bool) (p q : Int) : Int := if v = true then mkQ p q else 0
def resE (v : Bool) (p q : Int) : Int := if v = true then mkE p q else 2
theorem gcdn_neg (p q : Int) : gcdn (-p) (-q) = gcdn p q := by simp [gcdn]
theorem top_neg (p q : Int) : top (-p) (-q) = top p q := by simp [top, gcdn_neg]
theorem bot_neg (p q : Int) : bot (-p) (-q) = bot p q := by simp [bot, gcdn_neg]
theorem mkE_neg (p q : Int) : mkE (-p) (-q) = mkE p q := by simp [mkE, top_neg, bot_neg]
theorem mkQ_neg (p q : Int) : mkQ (-p) (-q) = mkQ p q := by simp [mkQ, mkE_neg, bot_neg]
theorem mkP_neg (p q : Int) : mkP (-p) (-q) = mkP p q := by
  by_cases hq : q = 0
  · subst hq; simp [mkP, mkE]
  by_cases hp : p = 0
  · subst hp; simp [mkP, mkE, top]
  · have : neg (-p) (-q) = neg p q := by
      unfold neg
      have e1 : decide (-p < 0) = !decide (p < 0) := by rw [Bool.eq_iff_iff]; simp; omega
      have e2 : decide (-q < 0) = !decide (q < 0) := by rw [Bool.eq_iff_iff]; simp; omega
      rw [e1, e2]; cases decide (p < 0) <;> cases decide (q < 0) <;> rfl
    simp only [mkP, mkE_neg, top_neg, this]
theorem mkE_zero (p : Int) : mkE p 0 = 18 := by simp [mkE]
theorem mkP_zero (p : Int) : mkP p 0 = 0 := by simp [mkP, mkE]
theorem mkQ_zero (p : Int) : mkQ p 0 = 0 := by simp [mkQ, mkE]

end Nm
end Go.Proofs.YtnhcjgnohnedaaaGreatDoor

namespace Go.Proofs.YtnhcjgnohnedaaaGreatDoor
open Go.RowKit

theorem ret_int {k : IntKind} {a b : Int} (h : a = b) : Ending.returned (.int k a) = .returned (.int k b) := by rw [h]

theorem wrap_abs (n : Int) (h0 : -9223372036854775808 ≤ n) (h : n < 0) : IntKind.u64.wrap (-IntKind.u64.wrap n) = (n.natAbs : Int) := by
  rw [IntKind.wrap_u64, IntKind.wrap_u64]; omega

set_option maxHeartbeats 400000 in
theorem magnitude_any (n : Int) (w : World) (h0 : -9223372036854775808 ≤ n) (h1 : n ≤ 9223372036854775807) :
    Calls Tryz.prog 137 #[.int .i64 n] w fun e w' => e = .returned (.int .u64 (n.natAbs : Int)) ∧ w = w' := by
  by_cases h : n < 0
  · go_enter Tryz.func137, Tryz.ntmps137
    go_wp2
    go_ret
    exact ⟨ret_int (wrap_abs n h0 h), rfl⟩
  · go_enter Tryz.func137, Tryz.ntmps137
    go_wp2
    go_ret
    exact ⟨ret_int (by omega), rfl⟩

set_option maxHeartbeats 400000 in
theorem size_any (n : Int) (w : World) (h0 : -9223372036854775808 ≤ n) (h1 : n ≤ 9223372036854775807) :
    Calls Tryz.prog 116 #[.int .i64 n] w fun e w' => e = .returned (.int .u64 (n.natAbs : Int)) ∧ w = w' := by
  by_cases h : n < 0
  · go_enter Tryz.func116, Tryz.ntmps116
    go_wp2
    go_ret
    exact ⟨ret_int (by omega), rfl⟩
  · go_enter Tryz.func116, Tryz.ntmps116
    go_wp2
    go_ret
    exact ⟨ret_int (by omega), rfl⟩

theorem gcd_step (a b : Nat) : Nat.gcd a b = Nat.gcd b (a % b) := by
  rw [Nat.gcd_comm a b, Nat.gcd_rec b a, Nat.gcd_comm]

set_option maxHeartbeats 400000 in
theorem divisor_any (a b : Nat) (w : World) (ha : a ≤ 18446744073709551615) (hb : b ≤ 18446744073709551615) :
    Calls Tryz.prog 136 #[.int .u64 a, .int .u64 b] w fun e w' => e = .returned (.int .u64 (Nat.gcd a b : Nat)) ∧ ∃ n, w' = w.drewN n := by
  go_enter Tryz.func136, Tryz.ntmps136
  go_wp2
  go_loopw [0, 1] (fun x y wr => ∃ m n k : Nat, x = .int .u64 m ∧ y = .int .u64 n ∧ m ≤ 18446744073709551615 ∧ n ≤ 18446744073709551615 ∧ Nat.gcd m n = Nat.gcd a b ∧ wr = w.drewN k) (fun _ y _ => (intOf y).toNat)
  case atStart => exact ⟨a, b, 0, rfl, rfl, ha, hb, rfl, rfl⟩
  case round =>
    obtain ⟨m, n, k, rfl, rfl, hm, hn, hg, rfl⟩ := hrel
    have HG := Lib.hid hg
    clear hg
    by_cases h : n = 0
    · subst h
      go_wp2
      go_ret
      exact ⟨ret_int (by rw [← HG.out]; simp), ⟨_, rfl⟩⟩
    · have hb1 : ((n : Int) == 0) = false := by simpa using h
      go_wp2
      go_quiet (fail)
      go_wp2
      refine ⟨⟨n, m % n, k + nq, rfl, by go_num, hn, by have := Nat.mod_lt m (Nat.pos_of_ne_zero h); omega, by rw [← gcd_step]; exact HG.out, by rw [World.drewN_drewN]⟩, ?_⟩
      have := Nat.mod_lt m (Nat.pos_of_ne_zero h)
      simp [intOf]; omega

set_option maxHeartbeats 400000 in
theorem gcd_any (a b : Nat) (w : World) (ha : a ≤ 18446744073709551615) (hb : b ≤ 18446744073709551615) :
    Calls Tryz.prog 115 #[.int .u64 a, .int .u64 b] w fun e w' => e = .returned (.int .u64 (Nat.gcd a b : Nat)) ∧ w = w' := by
  go_enter Tryz.func115, Tryz.ntmps115
  go_wp2
  go_loop [0, 1, 5] (fun x y _ => ∃ m n : Nat, x = .int .u64 m ∧ y = .int .u64 n ∧ m ≤ 18446744073709551615 ∧ n ≤ 18446744073709551615 ∧ Nat.gcd m n = Nat.gcd a b) (fun _ y _ => (intOf y).toNat)
  case atStart => exact ⟨a, b, rfl, rfl, ha, hb, rfl⟩
  case round =>
    obtain ⟨m, n, rfl, rfl, hm, hn, hg⟩ := hrel
    have HG := Lib.hid hg
    clear hg
    by_cases h : n = 0
    · subst h
      go_wp2
      go_ret
      exact ⟨ret_int (by rw [← HG.out]; simp), rfl⟩
    · have hb1 : (0 : Int) < n := by omega
      go_wp2
      have hlt := Nat.mod_lt m (Nat.pos_of_ne_zero h)
      refine ⟨⟨n, m % n, rfl, by go_num, hn, by omega, by rw [← gcd_step]; exact HG.out⟩, ?_⟩
      simp [intOf]; omega

theorem ret_two {k : IntKind} {a b c d : Int} (h : a = b) (h' : c = d) : Ending.returned (.tuple #[.int k a, .int k c]) = .returned (.tuple #[.int k b, .int k d]) := by rw [h, h']

end Go.Proofs.YtnhcjgnohnedaaaGreatDoor

namespace Go.Proofs.YtnhcjgnohnedaaaGreatDoor
open Go.RowKit

/-- A result of a number and an error code. -/
def numV (p q e : Int) : Value := .tuple #[.agg #[.int .i64 p, .int .i64 q], .int .i64 e]

theorem bcell {W w1 : World} (hb : Below W.heap.size W w1) : (∀ b o, b < W.heap.size → w1.cell? ⟨b, o, none⟩ = W.cell? ⟨b, o, none⟩) ∧ (∀ b o, b < W.heap.size → w1.frozen? ⟨b, o, none⟩ = W.frozen? ⟨b, o, none⟩) :=
  ⟨fun b o h => hb.cell (p := ⟨b, o, none⟩) h, fun b o h => hb.frozen (p := ⟨b, o, none⟩) h⟩

theorem divisor_of (p q : Int) (w : World) (hp : p.natAbs ≤ 18446744073709551615) (hq : q.natAbs ≤ 18446744073709551615) :
    Calls Tryz.prog 136 #[.int .u64 (p.natAbs : Int), .int .u64 (q.natAbs : Int)] w fun e w' => e = .returned (.int .u64 (Nm.gcdn p q : Nat)) ∧ ∃ n, w' = w.drewN n :=
  divisor_any _ _ _ hp hq
theorem gcd_of (p q : Int) (w : World) (hp : p.natAbs ≤ 18446744073709551615) (hq : q.natAbs ≤ 18446744073709551615) :
    Calls Tryz.prog 115 #[.int .u64 (p.natAbs : Int), .int .u64 (q.natAbs : Int)] w fun e w' => e = .returned (.int .u64 (Nm.gcdn p q : Nat)) ∧ w = w' :=
  gcd_any _ _ _ hp hq
theorem top_eq (p q : Int) : (p.natAbs : Int) / (Nm.gcdn p q : Int) = (Nm.top p q : Int) := (Int.natCast_ediv _ _).symm
theorem bot_eq (p q : Int) : (q.natAbs : Int) / (Nm.gcdn p q : Int) = (Nm.bot p q : Int) := (Int.natCast_ediv _ _).symm

end Go.Proofs.YtnhcjgnohnedaaaGreatDoor

namespace Go.Proofs.YtnhcjgnohnedaaaGreatDoor
open Go.RowKit

set_option maxHeartbeats 400000 in
theorem lowest_far (b : Bool) (p q : Int) (w : World) (hp0 : -9223372036854775808 ≤ p) (hp1 : p ≤ 9223372036854775807) (hq0 : -9223372036854775808 ≤ q) (hq1 : q ≤ 9223372036854775807)
    (hq : (q == 0) = false) (hf : 2147483647 < Nm.top p q ∨ 2147483647 < Nm.bot p q) :
    Calls Tryz.prog 140 #[.bool b, .int .u64 (p.natAbs : Int), .int .u64 (q.natAbs : Int)] w fun e w' => e = .returned (numV 0 0 17) ∧ Below w.heap.size w w' := by
  have hg := Nm.gcdn_pos p q (by simpa using hq)
  have hg1 : 1 ≤ (Nm.gcdn p q : Int) := by omega
  have hgz : ((Nm.gcdn p q : Int) == 0) = false := by simp; omega
  have e1 := top_eq p q
  have e2 := bot_eq p q
  have t1 := Nm.top_le p q
  have t2 := Nm.bot_le p q
  by_cases hT : 2147483647 < Nm.top p q
  · go_enter Tryz.func140, Tryz.ntmps140
    go_wp2_with ((go_at_call 115; refine (gcd_of _ _ _ (by omega) (by omega)).mono ?_; rintro e w' ⟨rfl, rfl⟩))
    go_quiet (fail)
    go_wp2
    exact bodyPost_ret (v := numV 0 0 17) (by simp [results, Tryz.results140, go_sem, numV]) rfl ⟨rfl, (by repeat (first | exact Below.refl _ _ | refine Below.setCell ?_ (by first | (simp; done) | (simp; omega) | omega) _ | refine below_drewN ?_ _ | refine Below.alloc ?_ (by first | (simp; done) | (simp; omega) | omega) _ | refine Below.trans ?_ (hb.mono (by first | (simp; done) | (simp; omega) | omega))))⟩
  · have hB : 2147483647 < Nm.bot p q := by omega
    go_enter Tryz.func140, Tryz.ntmps140
    go_wp2_with ((go_at_call 115; refine (gcd_of _ _ _ (by omega) (by omega)).mono ?_; rintro e w' ⟨rfl, rfl⟩))
    go_quiet (fail)
    go_wp2
    exact bodyPost_ret (v := numV 0 0 17) (by simp [results, Tryz.results140, go_sem, numV]) rfl ⟨rfl, (by repeat (first | exact Below.refl _ _ | refine Below.setCell ?_ (by first | (simp; done) | (simp; omega) | omega) _ | refine below_drewN ?_ _ | refine Below.alloc ?_ (by first | (simp; done) | (simp; omega) | omega) _ | refine Below.trans ?_ (hb.mono (by first | (simp; done) | (simp; omega) | omega))))⟩

set_option maxHeartbeats 400000 in
theorem lowest_fits (b : Bool) (p q : Int) (w : World) (hp0 : -9223372036854775808 ≤ p) (hp1 : p ≤ 9223372036854775807) (hq0 : -9223372036854775808 ≤ q) (hq1 : q ≤ 9223372036854775807)
    (hq : (q == 0) = false) (hT : Nm.top p q ≤ 2147483647) (hB : Nm.bot p q ≤ 2147483647) :
    Calls Tryz.prog 140 #[.bool b, .int .u64 (p.natAbs : Int), .int .u64 (q.natAbs : Int)] w fun e w' => e = .returned (numV (if b = true then -(Nm.top p q : Int) else (Nm.top p q : Int)) (Nm.bot p q) 0) ∧ Below w.heap.size w w' := by
  have hg := Nm.gcdn_pos p q (by simpa using hq)
  have hg1 : 1 ≤ (Nm.gcdn p q : Int) := by omega
  have hgz : ((Nm.gcdn p q : Int) == 0) = false := by simp; omega
  have e1 := top_eq p q
  have e2 := bot_eq p q
  cases b
  · go_enter Tryz.func140, Tryz.ntmps140
    go_wp2_with ((go_at_call 115; refine (gcd_of _ _ _ (by omega) (by omega)).mono ?_; rintro e w' ⟨rfl, rfl⟩))
    go_quiet (fail)
    go_wp2
    exact bodyPost_ret (v := numV ((Nm.top p q : Int)) (Nm.bot p q) 0) (by simp [results, Tryz.results140, go_sem, numV]) rfl ⟨rfl, (by repeat (first | exact Below.refl _ _ | refine Below.setCell ?_ (by first | (simp; done) | (simp; omega) | omega) _ | refine below_drewN ?_ _ | refine Below.alloc ?_ (by first | (simp; done) | (simp; omega) | omega) _ | refine Below.trans ?_ (hb.mono (by first | (simp; done) | (simp; omega) | omega))))⟩
  · go_enter Tryz.func140, Tryz.ntmps140
    go_wp2_with ((go_at_call 115; refine (gcd_of _ _ _ (by omega) (by omega)).mono ?_; rintro e w' ⟨rfl, rfl⟩))
    go_quiet (fail)
    go_wp2
    exact bodyPost_ret (v := numV (-(Nm.top p q : Int)) (Nm.bot p q) 0) (by simp [results, Tryz.results140, go_sem, numV]) rfl ⟨rfl, (by repeat (first | exact Below.refl _ _ | refine Below.setCell ?_ (by first | (simp; done) | (simp; omega) | omega) _ | refine below_drewN ?_ _ | refine Below.alloc ?_ (by first | (simp; done) | (simp; omega) | omega) _ | refine Below.trans ?_ (hb.mono (by first | (simp; done) | (simp; omega) | omega))))⟩

theorem lowest_any (b : Bool) (p q : Int) (w : World) (hp0 : -9223372036854775808 ≤ p) (hp1 : p ≤ 9223372036854775807) (hq0 : -9223372036854775808 ≤ q) (hq1 : q ≤ 9223372036854775807)
    (hq : (q == 0) = false) (hb : b = Nm.neg p q ∨ p = 0) :
    Calls Tryz.prog 140 #[.bool b, .int .u64 (p.natAbs : Int), .int .u64 (q.natAbs : Int)] w fun e w' => e = .returned (numV (Nm.mkP p q) (Nm.mkQ p q) (Nm.mkE p q)) ∧ Below w.heap.size w w' := by
  have hq' : q ≠ 0 := by simpa using hq
  by_cases hf : 2147483647 < Nm.top p q ∨ 2147483647 < Nm.bot p q
  · have e : Nm.mkE p q = 17 := by simp [Nm.mkE, hq', hf]
    rw [show Nm.mkP p q = 0 by simp [Nm.mkP, e], show Nm.mkQ p q = 0 by simp [Nm.mkQ, e], e]
    exact lowest_far b p q w hp0 hp1 hq0 hq1 hq hf
  · have e : Nm.mkE p q = 0 := by simp only [Nm.mkE, if_neg hq', if_neg hf]
    rw [Nm.mkP, Nm.mkQ, if_pos e, if_pos e, e]
    rcases hb with hb | hb
    · rw [← hb]
      exact lowest_fits b p q w hp0 hp1 hq0 hq1 hq (by omega) (by omega)
    · have ht : Nm.top p q = 0 := by subst hb; simp [Nm.top]
      have := lowest_fits b p q w hp0 hp1 hq0 hq1 hq (by omega) (by omega)
      rw [ht] at this ⊢
      simpa using this

set_option maxHeartbeats 400000 in
theorem rmake_zero (p : Int) (w : World) (_hp0 : -9223372036854775808 ≤ p) (_hp1 : p ≤ 9223372036854775807) :
    Calls Tryz.prog 121 #[.int .i64 p, .int .i64 0] w fun e w' => e = .returned (numV 0 0 18) ∧ Below w.heap.size w w' := by
  go_enter Tryz.func121, Tryz.ntmps121
  go_wp2
  exact bodyPost_ret (v := numV 0 0 18) (by simp [results, Tryz.results121, go_sem, numV]) rfl ⟨rfl, (by repeat (first | exact Below.refl _ _ | refine Below.setCell ?_ (by first | (simp; done) | (simp; omega) | omega) _ | refine below_drewN ?_ _ | refine Below.alloc ?_ (by first | (simp; done) | (simp; omega) | omega) _ | refine Below.trans ?_ (hb.mono (by first | (simp; done) | (simp; omega) | omega))))⟩

set_option maxHeartbeats 400000 in
theorem rmake_not (p q : Int) (w : World) (hp0 : -9223372036854775808 ≤ p) (hp1 : p ≤ 9223372036854775807) (hq0 : -9223372036854775808 ≤ q) (hq1 : q ≤ 9223372036854775807)
    (hq : (q == 0) = false) :
    Calls Tryz.prog 121 #[.int .i64 p, .int .i64 q] w fun e w' => e = .returned (numV (Nm.mkP p q) (Nm.mkQ p q) (Nm.mkE p q)) ∧ Below w.heap.size w w' := by
  by_cases hn : (decide (p < 0) != decide (q < 0)) = true
  · have HN : Hid (true = Nm.neg p q) := hn.symm
    have hn1 : (!decide (p < 0) == decide (q < 0)) = true := by simpa using hn
    by_cases hp : p = 0
    · have hpb : (p != 0) = false := by simpa using hp
      have HP := Lib.hid hp
      clear hp hn
      go_enter Tryz.func121, Tryz.ntmps121
      go_wp2_with (first | (go_at_call 116; refine (size_any _ _ (by omega) (by omega)).mono ?_; rintro e w' ⟨rfl, rfl⟩) | (go_at_call 140; refine (lowest_any _ p q _ (by omega) (by omega) (by omega) (by omega) hq (.inr HP.out)).mono ?_; rintro e w' ⟨rfl, hb⟩; obtain ⟨hc, hf⟩ := bcell hb; have hsz := hb.size; simp at hsz; simp only [numV]))
      exact bodyPost_ret (v := numV (Nm.mkP p q) (Nm.mkQ p q) (Nm.mkE p q)) (by simp [results, Tryz.results121, go_sem, numV, hc]) rfl ⟨rfl, (by repeat (first | exact Below.refl _ _ | refine Below.setCell ?_ (by first | (simp; done) | (simp; omega) | omega) _ | refine below_drewN ?_ _ | refine Below.alloc ?_ (by first | (simp; done) | (simp; omega) | omega) _ | refine Below.trans ?_ (hb.mono (by first | (simp; done) | (simp; omega) | omega))))⟩
    · have hpb : (p != 0) = true := by simpa using hp
      clear hp hn
      go_enter Tryz.func121, Tryz.ntmps121
      go_wp2_with (first | (go_at_call 116; refine (size_any _ _ (by omega) (by omega)).mono ?_; rintro e w' ⟨rfl, rfl⟩) | (go_at_call 140; refine (lowest_any _ p q _ (by omega) (by omega) (by omega) (by omega) hq (.inl HN.out)).mono ?_; rintro e w' ⟨rfl, hb⟩; obtain ⟨hc, hf⟩ := bcell hb; have hsz := hb.size; simp at hsz; simp only [numV]))
      exact bodyPost_ret (v := numV (Nm.mkP p q) (Nm.mkQ p q) (Nm.mkE p q)) (by simp [results, Tryz.results121, go_sem, numV, hc]) rfl ⟨rfl, (by repeat (first | exact Below.refl _ _ | refine Below.setCell ?_ (by first | (simp; done) | (simp; omega) | omega) _ | refine below_drewN ?_ _ | refine Below.alloc ?_ (by first | (simp; done) | (simp; omega) | omega) _ | refine Below.trans ?_ (hb.mono (by first | (simp; done) | (simp; omega) | omega))))⟩
  · have hn2 : (decide (p < 0) != decide (q < 0)) = false := by simpa using hn
    have HN : Hid (false = Nm.neg p q) := hn2.symm
    have hn1 : (!decide (p < 0) == decide (q < 0)) = false := by simpa using hn
    clear hn
    go_enter Tryz.func121, Tryz.ntmps121
    go_wp2_with (first | (go_at_call 116; refine (size_any _ _ (by omega) (by omega)).mono ?_; rintro e w' ⟨rfl, rfl⟩) | (go_at_call 140; refine (lowest_any _ p q _ (by omega) (by omega) (by omega) (by omega) hq (.inl HN.out)).mono ?_; rintro e w' ⟨rfl, hb⟩; obtain ⟨hc, hf⟩ := bcell hb; have hsz := hb.size; simp at hsz; simp only [numV]))
    exact bodyPost_ret (v := numV (Nm.mkP p q) (Nm.mkQ p q) (Nm.mkE p q)) (by simp [results, Tryz.results121, go_sem, numV, hc]) rfl ⟨rfl, (by repeat (first | exact Below.refl _ _ | refine Below.setCell ?_ (by first | (simp; done) | (simp; omega) | omega) _ | refine below_drewN ?_ _ | refine Below.alloc ?_ (by first | (simp; done) | (simp; omega) | omega) _ | refine Below.trans ?_ (hb.mono (by first | (simp; done) | (simp; omega) | omega))))⟩

/-- The reference's Make: any two integers. -/
theorem rmake_any (p q : Int) (w : World) (hp0 : -9223372036854775808 ≤ p) (hp1 : p ≤ 9223372036854775807) (hq0 : -9223372036854775808 ≤ q) (hq1 : q ≤ 9223372036854775807) :
    Calls Tryz.prog 121 #[.int .i64 p, .int .i64 q] w fun e w' => e = .returned (numV (Nm.mkP p q) (Nm.mkQ p q) (Nm.mkE p q)) ∧ Below w.heap.size w w' := by
  by_cases hq : q = 0
  · subst hq
    have e : Nm.mkE p 0 = 18 := by simp [Nm.mkE]
    rw [show Nm.mkP p 0 = 0 by simp [Nm.mkP, e], show Nm.mkQ p 0 = 0 by simp [Nm.mkQ, e], e]
    exact rmake_zero p w hp0 hp1
  · exact rmake_not p q w hp0 hp1 hq0 hq1 (by simpa using hq)
end Go.Proofs.YtnhcjgnohnedaaaGreatDoor

namespace Go.Proofs.YtnhcjgnohnedaaaGreatDoor
open Go.RowKit

/-- A number as a value. -/
def numA (p q : Int) : Value := .agg #[.int .i64 p, .int .i64 q]

theorem ret_bool {a b : Bool} (h : a = b) : Ending.returned (.bool a) = .returned (.bool b) := by rw [h]

theorem magnitude_q (n : Int) (w : World) (h0 : -9223372036854775808 ≤ n) (h1 : n ≤ 9223372036854775807) :
    Calls Tryz.prog 137 #[.int .i64 n] w fun e w' => e = .returned (.int .u64 (n.natAbs : Int)) ∧ w' = w :=
  (magnitude_any n w h0 h1).mono fun _ _ h => ⟨h.1, h.2.symm⟩
theorem size_q (n : Int) (w : World) (h0 : -9223372036854775808 ≤ n) (h1 : n ≤ 9223372036854775807) :
    Calls Tryz.prog 116 #[.int .i64 n] w fun e w' => e = .returned (.int .u64 (n.natAbs : Int)) ∧ w' = w :=
  (size_any n w h0 h1).mono fun _ _ h => ⟨h.1, h.2.symm⟩

theorem gcd_q (p q : Int) (w : World) (hp : p.natAbs ≤ 18446744073709551615) (hq : q.natAbs ≤ 18446744073709551615) :
    Calls Tryz.prog 115 #[.int .u64 (p.natAbs : Int), .int .u64 (q.natAbs : Int)] w fun e w' => e = .returned (.int .u64 (Nm.gcdn p q : Nat)) ∧ w' = w :=
  (gcd_of p q w hp hq).mono fun _ _ h => ⟨h.1, h.2.symm⟩
theorem vld_no (p q : Int) (h : ¬ (1 ≤ q ∧ q ≤ 2147483647 ∧ -2147483647 ≤ p ∧ p ≤ 2147483647)) : Nm.vld p q = false := by
  unfold Nm.vld; simp only [decide_eq_false_iff_not]; intro h2; exact h ⟨h2.1, h2.2.1, h2.2.2.1, h2.2.2.2.1⟩
theorem vld_in (p q : Int) (h1 : 1 ≤ q) (h2 : q ≤ 2147483647) (h3 : -2147483647 ≤ p) (h4 : p ≤ 2147483647) : ((Nm.gcdn p q : Int) == 1) = Nm.vld p q := by
  unfold Nm.vld
  rw [Bool.eq_iff_iff]; simp only [beq_iff_eq, decide_eq_true_eq]
  constructor
  · intro h; exact ⟨h1, h2, h3, h4, by omega⟩
  · intro h; omega

set_option maxHeartbeats 400000 in
theorem valid_any (p q : Int) (w : World) (hp0 : -9223372036854775808 ≤ p) (hp1 : p ≤ 9223372036854775807) (hq0 : -9223372036854775808 ≤ q) (hq1 : q ≤ 9223372036854775807) :
    Calls Tryz.prog 110 #[.agg #[.int .i64 p, .int .i64 q]] w fun e w' => e = .returned (.bool (Nm.vld p q)) ∧ Below w.heap.size w w' := by
  by_cases h1 : q < 1
  · go_enter Tryz.func110, Tryz.ntmps110
    go_wp2
    go_ret
    exact ⟨ret_bool (vld_no p q (by omega)).symm, (by repeat (first | exact Below.refl _ _ | refine Below.setCell ?_ (by first | (simp; done) | (simp; omega) | omega) _ | refine below_drewN ?_ _ | refine Below.alloc ?_ (by first | (simp; done) | (simp; omega) | omega) _ | refine Below.trans ?_ (hb.mono (by first | (simp; done) | (simp; omega) | omega))))⟩
  by_cases h2 : 2147483647 < q
  · go_enter Tryz.func110, Tryz.ntmps110
    go_wp2
    go_ret
    exact ⟨ret_bool (vld_no p q (by omega)).symm, (by repeat (first | exact Below.refl _ _ | refine Below.setCell ?_ (by first | (simp; done) | (simp; omega) | omega) _ | refine below_drewN ?_ _ | refine Below.alloc ?_ (by first | (simp; done) | (simp; omega) | omega) _ | refine Below.trans ?_ (hb.mono (by first | (simp; done) | (simp; omega) | omega))))⟩
  by_cases h3 : p < -2147483647
  · go_enter Tryz.func110, Tryz.ntmps110
    go_wp2
    go_ret
    exact ⟨ret_bool (vld_no p q (by omega)).symm, (by repeat (first | exact Below.refl _ _ | refine Below.setCell ?_ (by first | (simp; done) | (simp; omega) | omega) _ | refine below_drewN ?_ _ | refine Below.alloc ?_ (by first | (simp; done) | (simp; omega) | omega) _ | refine Below.trans ?_ (hb.mono (by first | (simp; done) | (simp; omega) | omega))))⟩
  by_cases h4 : 2147483647 < p
  · go_enter Tryz.func110, Tryz.ntmps110
    go_wp2
    go_ret
    exact ⟨ret_bool (vld_no p q (by omega)).symm, (by repeat (first | exact Below.refl _ _ | refine Below.setCell ?_ (by first | (simp; done) | (simp; omega) | omega) _ | refine below_drewN ?_ _ | refine Below.alloc ?_ (by first | (simp; done) | (simp; omega) | omega) _ | refine Below.trans ?_ (hb.mono (by first | (simp; done) | (simp; omega) | omega))))⟩
  · go_enter Tryz.func110, Tryz.ntmps110
    go_wp2_with fail
    go_quiet ((first | (go_at_call 137; exact Calls.quiet_of_same (magnitude_q _ _ (by omega) (by omega))) | (go_at_call 136; exact Calls.quiet_of (divisor_of _ _ _ (by omega) (by omega)))))
    go_wp2
    go_ret
    exact ⟨ret_bool (vld_in p q (by omega) (by omega) (by omega) (by omega)), (by repeat (first | exact Below.refl _ _ | refine Below.setCell ?_ (by first | (simp; done) | (simp; omega) | omega) _ | refine below_drewN ?_ _ | refine Below.alloc ?_ (by first | (simp; done) | (simp; omega) | omega) _ | refine Below.trans ?_ (hb.mono (by first | (simp; done) | (simp; omega) | omega))))⟩

set_option maxHeartbeats 400000 in
theorem rvalid_any (p q : Int) (w : World) (hp0 : -9223372036854775808 ≤ p) (hp1 : p ≤ 9223372036854775807) (hq0 : -9223372036854775808 ≤ q) (hq1 : q ≤ 9223372036854775807) :
    Calls Tryz.prog 81 #[.agg #[.int .i64 p, .int .i64 q]] w fun e w' => e = .returned (.bool (Nm.vld p q)) ∧ Below w.heap.size w w' := by
  by_cases h1 : q < 1
  · have b1 : decide (1 ≤ q) = false := by simp; omega
    go_enter Tryz.func81, Tryz.ntmps81
    go_wp2_with fail
    go_quiet (fail)
    go_wp2
    go_ret
    exact ⟨ret_bool (vld_no p q (by omega)).symm, (by repeat (first | exact Below.refl _ _ | refine Below.setCell ?_ (by first | (simp; done) | (simp; omega) | omega) _ | refine below_drewN ?_ _ | refine Below.alloc ?_ (by first | (simp; done) | (simp; omega) | omega) _ | refine Below.trans ?_ (hb.mono (by first | (simp; done) | (simp; omega) | omega))))⟩
  by_cases h2 : 2147483647 < q
  · have b1 : decide (1 ≤ q) = true := by simp; omega
    have b2 : decide (q ≤ 2147483647) = false := by simp; omega
    go_enter Tryz.func81, Tryz.ntmps81
    go_wp2_with fail
    go_quiet (fail)
    go_wp2
    go_ret
    exact ⟨ret_bool (vld_no p q (by omega)).symm, (by repeat (first | exact Below.refl _ _ | refine Below.setCell ?_ (by first | (simp; done) | (simp; omega) | omega) _ | refine below_drewN ?_ _ | refine Below.alloc ?_ (by first | (simp; done) | (simp; omega) | omega) _ | refine Below.trans ?_ (hb.mono (by first | (simp; done) | (simp; omega) | omega))))⟩
  by_cases h3 : p < -2147483647
  · have b1 : decide (1 ≤ q) = true := by simp; omega
    have b2 : decide (q ≤ 2147483647) = true := by simp; omega
    have b3 : decide (-2147483647 ≤ p) = false := by simp; omega
    go_enter Tryz.func81, Tryz.ntmps81
    go_wp2_with fail
    go_quiet (fail)
    go_wp2
    go_ret
    exact ⟨ret_bool (vld_no p q (by omega)).symm, (by repeat (first | exact Below.refl _ _ | refine Below.setCell ?_ (by first | (simp; done) | (simp; omega) | omega) _ | refine below_drewN ?_ _ | refine Below.alloc ?_ (by first | (simp; done) | (simp; omega) | omega) _ | refine Below.trans ?_ (hb.mono (by first | (simp; done) | (simp; omega) | omega))))⟩
  by_cases h4 : 2147483647 < p
  · have b1 : decide (1 ≤ q) = true := by simp; omega
    have b2 : decide (q ≤ 2147483647) = true := by simp; omega
    have b3 : decide (-2147483647 ≤ p) = true := by simp; omega
    have b4 : decide (p ≤ 2147483647) = false := by simp; omega
    go_enter Tryz.func81, Tryz.ntmps81
    go_wp2_with fail
    go_quiet (fail)
    go_wp2
    go_ret
    exact ⟨ret_bool (vld_no p q (by omega)).symm, (by repeat (first | exact Below.refl _ _ | refine Below.setCell ?_ (by first | (simp; done) | (simp; omega) | omega) _ | refine below_drewN ?_ _ | refine Below.alloc ?_ (by first | (simp; done) | (simp; omega) | omega) _ | refine Below.trans ?_ (hb.mono (by first | (simp; done) | (simp; omega) | omega))))⟩
  · have b1 : decide (1 ≤ q) = true := by simp; omega
    have b2 : decide (q ≤ 2147483647) = true := by simp; omega
    have b3 : decide (-2147483647 ≤ p) = true := by simp; omega
    have b4 : decide (p ≤ 2147483647) = true := by simp; omega
    have hqn : IntKind.u64.wrap q = (q.natAbs : Int) := by rw [IntWalk.u64_in _ (by omega)]; omega
    go_enter Tryz.func81, Tryz.ntmps81
    go_wp2_with fail
    go_quiet ((first | (go_at_call 116; exact Calls.quiet_of_same (size_q _ _ (by omega) (by omega))) | (go_at_call 115; exact Calls.quiet_of_same (gcd_q _ _ _ (by omega) (by omega)))))
    go_wp2
    go_ret
    exact ⟨ret_bool (vld_in p q (by omega) (by omega) (by omega) (by omega)), (by repeat (first | exact Below.refl _ _ | refine Below.setCell ?_ (by first | (simp; done) | (simp; omega) | omega) _ | refine below_drewN ?_ _ | refine Below.alloc ?_ (by first | (simp; done) | (simp; omega) | omega) _ | refine Below.trans ?_ (hb.mono (by first | (simp; done) | (simp; omega) | omega))))⟩
end Go.Proofs.YtnhcjgnohnedaaaGreatDoor

namespace Go.Proofs.YtnhcjgnohnedaaaGreatDoor
open Go.RowKit

/-- What the parts of two numbers are within. -/
def Fits64 (n : Int) : Prop := -9223372036854775808 ≤ n ∧ n ≤ 9223372036854775807

end Go.Proofs.YtnhcjgnohnedaaaGreatDoor

namespace Go.Proofs.YtnhcjgnohnedaaaGreatDoor
open Go.RowKit

/-- A product of two parts of numbers. -/
theorem mul_bd (a b : Int) (ha : -2147483647 ≤ a) (ha' : a ≤ 2147483647) (hb : -2147483647 ≤ b) (hb' : b ≤ 2147483647) : -4611686014132420609 ≤ a * b ∧ a * b ≤ 4611686014132420609 := by
  have h : (a * b).natAbs ≤ 4611686014132420609 := by
    rw [Int.natAbs_mul]
    exact Nat.le_trans (Nat.mul_le_mul (by omega : a.natAbs ≤ 2147483647) (by omega : b.natAbs ≤ 2147483647)) (by decide)
  omega
theorem vld_bd {p q : Int} (h : Nm.vld p q = true) : 1 ≤ q ∧ q ≤ 2147483647 ∧ -2147483647 ≤ p ∧ p ≤ 2147483647 := by
  unfold Nm.vld at h; have := of_decide_eq_true h; exact ⟨this.1, this.2.1, this.2.2.1, this.2.2.2.1⟩

theorem wrap_mul (a b : Int) (ha : -2147483647 ≤ a) (ha' : a ≤ 2147483647) (hb : -2147483647 ≤ b) (hb' : b ≤ 2147483647) : IntKind.i64.wrap (a * b) = a * b := by
  have := mul_bd a b ha ha' hb hb'
  exact IntWalk.i64_in _ (by omega)

end Go.Proofs.YtnhcjgnohnedaaaGreatDoor

namespace Go.Proofs.YtnhcjgnohnedaaaGreatDoor
open Go.RowKit

end Go.Proofs.YtnhcjgnohnedaaaGreatDoor

namespace Go.Proofs.YtnhcjgnohnedaaaGreatDoor
open Go.RowKit

/-- A result of an operation: ErrArg unless v, else what Make gives. -/
def resV (v : Bool) (p q : Int) : Value := numV (Nm.resP v p q) (Nm.resQ v p q) (Nm.resE v p q)
theorem resV_no (p q : Int) : resV false p q = numV 0 0 2 := by simp [resV, Nm.resP, Nm.resQ, Nm.resE]
theorem resV_ok (p q : Int) : resV true p q = numV (Nm.mkP p q) (Nm.mkQ p q) (Nm.mkE p q) := by simp [resV, Nm.resP, Nm.resQ, Nm.resE]
theorem resV_neg (v : Bool) (p q : Int) : resV v (-p) (-q) = resV v p q := by simp [resV, Nm.resP, Nm.resQ, Nm.resE, Nm.mkP_neg, Nm.mkQ_neg, Nm.mkE_neg]
theorem and_true' {a b : Bool} (h : (a && b) = true) : a = true ∧ b = true := by simpa using h

end Go.Proofs.YtnhcjgnohnedaaaGreatDoor
