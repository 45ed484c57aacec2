/-
  Contracts of package num's small functions, and of the reference's: sizes, greatest common divisors.
-/
-- LAW 01
import Derived.Test.YtanhomngnickfaaDoorRows
import Derived.Test.YtanhomngnickfaaDoorMath
import Derived.WalkKit
import Derived.WalkSpells
import Derived.WalkLawsBesides
import Derived.BigQuiet
import Derived.Deep.QuietTactic
namespace Go.Proofs.YtanhomngnickfaaDoor
open Go.RowKit

theorem ret_int {k : IntKind} {a b : Int} (h : a = b) : Ending.returned (.int k a) = .returned (.int k b) := by rw [h]

theorem wrap_abs (n : Int) (h0 : -9223372036854775808 ≤ n) (h : n < 0) : IntKind.u64.wrap (-IntKind.u64.wrap n) = (n.natAbs : Int) := by
  rw [IntKind.wrap_u64, IntKind.wrap_u64]; omega

set_option maxHeartbeats 400000 in
theorem magnitude_any (n : Int) (w : World) (h0 : -9223372036854775808 ≤ n) (h1 : n ≤ 9223372036854775807) :
    Calls Tryd.prog 90 #[.int .i64 n] w fun e w' => e = .returned (.int .u64 (n.natAbs : Int)) ∧ w = w' := by
  by_cases h : n < 0
  · go_enter Tryd.func90, Tryd.ntmps90
    go_wp2
    go_ret
    exact ⟨ret_int (wrap_abs n h0 h), rfl⟩
  · go_enter Tryd.func90, Tryd.ntmps90
    go_wp2
    go_ret
    exact ⟨ret_int (by omega), rfl⟩

set_option maxHeartbeats 400000 in
theorem size_any (n : Int) (w : World) (h0 : -9223372036854775808 ≤ n) (h1 : n ≤ 9223372036854775807) :
    Calls Tryd.prog 76 #[.int .i64 n] w fun e w' => e = .returned (.int .u64 (n.natAbs : Int)) ∧ w = w' := by
  by_cases h : n < 0
  · go_enter Tryd.func76, Tryd.ntmps76
    go_wp2
    go_ret
    exact ⟨ret_int (by omega), rfl⟩
  · go_enter Tryd.func76, Tryd.ntmps76
    go_wp2
    go_ret
    exact ⟨ret_int (by omega), rfl⟩

theorem gcd_step (a b : Nat) : Nat.gcd a b = Nat.gcd b (a % b) := by
  rw [Nat.gcd_comm a b, Nat.gcd_rec b a, Nat.gcd_comm]

set_option maxHeartbeats 400000 in
theorem divisor_any (a b : Nat) (w : World) (ha : a ≤ 18446744073709551615) (hb : b ≤ 18446744073709551615) :
    Calls Tryd.prog 91 #[.int .u64 a, .int .u64 b] w fun e w' => e = .returned (.int .u64 (Nat.gcd a b : Nat)) ∧ ∃ n, w' = w.drewN n := by
  go_enter Tryd.func91, Tryd.ntmps91
  go_wp2
  go_loopw [0, 1] (fun x y wr => ∃ m n k : Nat, x = .int .u64 m ∧ y = .int .u64 n ∧ m ≤ 18446744073709551615 ∧ n ≤ 18446744073709551615 ∧ Nat.gcd m n = Nat.gcd a b ∧ wr = w.drewN k) (fun _ y _ => (intOf y).toNat)
  case atStart => exact ⟨a, b, 0, rfl, rfl, ha, hb, rfl, rfl⟩
  case round =>
    obtain ⟨m, n, k, rfl, rfl, hm, hn, hg, rfl⟩ := hrel
    have HG := Lib.hid hg
    clear hg
    by_cases h : n = 0
    · subst h
      go_wp2
      go_ret
      exact ⟨ret_int (by rw [← HG.out]; simp), ⟨_, rfl⟩⟩
    · have hb1 : ((n : Int) == 0) = false := by simpa using h
      go_wp2
      go_quiet (fail)
      go_wp2
      refine ⟨⟨n, m % n, k + nq, rfl, by go_num, hn, by have := Nat.mod_lt m (Nat.pos_of_ne_zero h); omega, by rw [← gcd_step]; exact HG.out, by rw [World.drewN_drewN]⟩, ?_⟩
      have := Nat.mod_lt m (Nat.pos_of_ne_zero h)
      simp [intOf]; omega

set_option maxHeartbeats 400000 in
theorem gcd_any (a b : Nat) (w : World) (ha : a ≤ 18446744073709551615) (hb : b ≤ 18446744073709551615) :
    Calls Tryd.prog 82 #[.int .u64 a, .int .u64 b] w fun e w' => e = .returned (.int .u64 (Nat.gcd a b : Nat)) ∧ w = w' := by
  go_enter Tryd.func82, Tryd.ntmps82
  go_wp2
  go_loop [0, 1, 5] (fun x y _ => ∃ m n : Nat, x = .int .u64 m ∧ y = .int .u64 n ∧ m ≤ 18446744073709551615 ∧ n ≤ 18446744073709551615 ∧ Nat.gcd m n = Nat.gcd a b) (fun _ y _ => (intOf y).toNat)
  case atStart => exact ⟨a, b, rfl, rfl, ha, hb, rfl⟩
  case round =>
    obtain ⟨m, n, rfl, rfl, hm, hn, hg⟩ := hrel
    have HG := Lib.hid hg
    clear hg
    by_cases h : n = 0
    · subst h
      go_wp2
      go_ret
      exact ⟨ret_int (by rw [← HG.out]; simp), rfl⟩
    · have hb1 : (0 : Int) < n := by omega
      go_wp2
      have hlt := Nat.mod_lt m (Nat.pos_of_ne_zero h)
      refine ⟨⟨n, m % n, rfl, by go_num, hn, by omega, by rw [← gcd_step]; exact HG.out⟩, ?_⟩
      simp [intOf]; omega

theorem ret_two {k : IntKind} {a b c d : Int} (h : a = b) (h' : c = d) : Ending.returned (.tuple #[.int k a, .int k c]) = .returned (.tuple #[.int k b, .int k d]) := by rw [h, h']

set_option maxHeartbeats 400000 in
theorem divide_any (p q : Int) (w : World) (hp0 : -9223372036854775807 ≤ p) (hp1 : p ≤ 9223372036854775807) (hq0 : -4611686018427387904 ≤ q) (hq1 : q ≤ 4611686018427387904) (hq : q ≠ 0) :
    Calls Tryd.prog 94 #[.int .i64 p, .int .i64 q] w fun e w' => e = .returned (.tuple #[.int .i64 (p.fdiv q), .int .i64 (p.fmod q)]) ∧ ∃ n, w' = w.drewN n := by
  have hz : (q == 0) = false := by simpa using hq
  have h1 := Nm.tm_lt p q hq
  have h2 := Nm.td_bd p q
  have w1 : IntKind.i64.wrap (p.tdiv q) = p.tdiv q := IntWalk.i64_in _ (by omega)
  have b1 : -9223372036854775807 ≤ p.tdiv q := by omega
  have b2 : p.tdiv q ≤ 9223372036854775807 := by omega
  have b3 : -4611686018427387904 ≤ p.tmod q := by omega
  have b4 : p.tmod q ≤ 4611686018427387904 := by omega
  have hsame := Lib.hid (Nm.fl_same p q hq)
  have hdiff := Lib.hid (Nm.fl_diff p q hq)
  clear h1 h2
  by_cases h0 : p.tmod q = 0
  · have h0b : (p.tmod q != 0) = false := by simpa using h0
    have HF := Lib.hid (hsame.out (.inl h0))
    clear h0 hsame hdiff
    go_enter Tryd.func94, Tryd.ntmps94
    go_wp2
    go_quiet (fail)
    go_wp2
    go_ret2
    exact ⟨ret_two HF.out.1 HF.out.2, ⟨_, rfl⟩⟩
  · have h0b : (p.tmod q != 0) = true := by simpa using h0
    by_cases hs : p.tmod q < 0 ↔ q < 0
    · have h3 : (!decide (p.tmod q < 0) == decide (q < 0)) = false := by simp [hs]
      have h4 : (decide (p.tmod q < 0) != decide (q < 0)) = false := by simp [hs]
      have HF := Lib.hid (hsame.out (.inr hs))
      clear h0 hsame hdiff hs
      go_enter Tryd.func94, Tryd.ntmps94
      go_wp2
      go_quiet (fail)
      go_wp2
      go_ret2
      exact ⟨ret_two HF.out.1 HF.out.2, ⟨_, rfl⟩⟩
    · have h3 : (!decide (p.tmod q < 0) == decide (q < 0)) = true := by
        rw [Bool.eq_iff_iff] ; simp; intro hx; exact hs hx
      have h4 : (decide (p.tmod q < 0) != decide (q < 0)) = true := by
        rw [bne_iff_ne]; intro hx; exact hs (decide_eq_decide.1 hx)
      have HF := Lib.hid (hdiff.out h0 hs)
      have b5 : -4611686018427387904 ≤ p.tmod q + q ∧ p.tmod q + q ≤ 4611686018427387904 := by omega
      have b6 := b5.1
      have b7 := b5.2
      clear b5
      clear h0 hsame hdiff hs
      go_enter Tryd.func94, Tryd.ntmps94
      go_wp2
      go_quiet (fail)
      go_wp2
      go_ret2
      exact ⟨ret_two HF.out.1 HF.out.2, ⟨_, rfl⟩⟩

end Go.Proofs.YtanhomngnickfaaDoor
