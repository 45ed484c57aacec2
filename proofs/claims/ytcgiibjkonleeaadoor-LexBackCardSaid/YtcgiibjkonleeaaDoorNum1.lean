/-
  Contracts of package num's small functions, and of the reference's: sizes, greatest common divisors.
-/
-- LAW 01
import Derived.Test.YtcgiibjkonleeaaDoorRows
import Derived.Test.YtcgiibjkonleeaaDoorMath
import Derived.WalkKit
import Derived.WalkSpells
import Derived.WalkLawsBesides
import Derived.BigQuiet
import Derived.Deep.QuietTactic
namespace Go.Proofs.YtcgiibjkonleeaaDoor
open Go.RowKit

theorem ret_int {k : IntKind} {a b : Int} (h : a = b) : Ending.returned (.int k a) = .returned (.int k b) := by rw [h]

theorem wrap_abs (n : Int) (h0 : -9223372036854775808 ≤ n) (h : n < 0) : IntKind.u64.wrap (-IntKind.u64.wrap n) = (n.natAbs : Int) := by
  rw [IntKind.wrap_u64, IntKind.wrap_u64]; omega

set_option maxHeartbeats 400000 in
theorem magnitude_any (n : Int) (w : World) (h0 : -9223372036854775808 ≤ n) (h1 : n ≤ 9223372036854775807) :
    Calls Tryd.prog 54 #[.int .i64 n] w fun e w' => e = .returned (.int .u64 (n.natAbs : Int)) ∧ w = w' := by
  by_cases h : n < 0
  · go_enter Tryd.func54, Tryd.ntmps54
    go_wp2
    go_ret
    exact ⟨ret_int (wrap_abs n h0 h), rfl⟩
  · go_enter Tryd.func54, Tryd.ntmps54
    go_wp2
    go_ret
    exact ⟨ret_int (by omega), rfl⟩

theorem gcd_step (a b : Nat) : Nat.gcd a b = Nat.gcd b (a % b) := by
  rw [Nat.gcd_comm a b, Nat.gcd_rec b a, Nat.gcd_comm]

set_option maxHeartbeats 400000 in
theorem divisor_any (a b : Nat) (w : World) (ha : a ≤ 18446744073709551615) (hb : b ≤ 18446744073709551615) :
    Calls Tryd.prog 53 #[.int .u64 a, .int .u64 b] w fun e w' => e = .returned (.int .u64 (Nat.gcd a b : Nat)) ∧ ∃ n, w' = w.drewN n := by
  go_enter Tryd.func53, Tryd.ntmps53
  go_wp2
  go_loopw [0, 1] (fun x y wr => ∃ m n k : Nat, x = .int .u64 m ∧ y = .int .u64 n ∧ m ≤ 18446744073709551615 ∧ n ≤ 18446744073709551615 ∧ Nat.gcd m n = Nat.gcd a b ∧ wr = w.drewN k) (fun _ y _ => (intOf y).toNat)
  case atStart => exact ⟨a, b, 0, rfl, rfl, ha, hb, rfl, rfl⟩
  case round =>
    obtain ⟨m, n, k, rfl, rfl, hm, hn, hg, rfl⟩ := hrel
    have HG := Lib.hid hg
    clear hg
    by_cases h : n = 0
    · subst h
      go_wp2
      go_ret
      exact ⟨ret_int (by rw [← HG.out]; simp), ⟨_, rfl⟩⟩
    · have hb1 : ((n : Int) == 0) = false := by simpa using h
      go_wp2
      go_quiet (fail)
      go_wp2
      refine ⟨⟨n, m % n, k + nq, rfl, by go_num, hn, by have := Nat.mod_lt m (Nat.pos_of_ne_zero h); omega, by rw [← gcd_step]; exact HG.out, by rw [World.drewN_drewN]⟩, ?_⟩
      have := Nat.mod_lt m (Nat.pos_of_ne_zero h)
      simp [intOf]; omega

theorem ret_two {k : IntKind} {a b c d : Int} (h : a = b) (h' : c = d) : Ending.returned (.tuple #[.int k a, .int k c]) = .returned (.tuple #[.int k b, .int k d]) := by rw [h, h']

end Go.Proofs.YtcgiibjkonleeaaDoor
