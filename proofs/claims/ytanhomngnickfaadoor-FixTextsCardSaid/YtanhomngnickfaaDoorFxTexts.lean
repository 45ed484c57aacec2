/-
  The walk of FixTexts: it returns true at any integer and string.
-/
-- LAW 02
import Derived.Test.YtanhomngnickfaaDoorFxAwake
import Derived.Test.YtanhomngnickfaaDoorFxL
import Derived.Test.YtanhomngnickfaaDoorFxN
namespace Go.Proofs.YtanhomngnickfaaDoor
open Go.RowKit

set_option maxRecDepth 100000 in
set_option maxHeartbeats 2000000 in
theorem texts_long (a : Int) (s : ByteArray) (w : World) (he : Env w) (hs : 10000 < s.size) (_ws : s.size ≤ maxLen) :
    Calls Tryd.prog 8 #[.int .i64 a, .string s] w fun e w' => e = .returned (.bool true) ∧ Below w.heap.size w w' := by
  have HE := Lib.hid he
  clear he
  go_enter Tryd.func8, Tryd.ntmps8
  go_wp2_with fail
  refine (awake_any _ HE.out).mono ?_; rintro e w1 ⟨rfl, hb⟩
  go_wp2_with fail
  go_ret
  exact ⟨rfl, hb⟩

set_option maxRecDepth 100000 in
set_option maxHeartbeats 2000000 in
theorem texts_short (a : Int) (s : ByteArray) (b : ByteArray) (e1 d g : Int) (w : World) (he : Env w) (hs : s.size ≤ 10000) (_hbl : (b.size : Int) ≤ 9223372036854775807)
    (c1 : ∀ w, Env w → Calls Tryd.prog 32 #[.int .i64 a] w fun e w' => e = .returned (.tuple #[.string b, .int .i64 e1]) ∧ Below w.heap.size w w')
    (c2 : ∀ w, Calls Tryd.prog 33 #[.int .i64 a] w fun e w' => e = .returned (.tuple #[.string b, .int .i64 e1]) ∧ Below w.heap.size w w')
    (c3 : ∀ w, Env w → Calls Tryd.prog 34 #[.string s] w fun e w' => e = .returned (.tuple #[.int .i64 d, .int .i64 g]) ∧ Below w.heap.size w w')
    (c4 : ∀ w, Calls Tryd.prog 35 #[.string s] w fun e w' => e = .returned (.tuple #[.int .i64 d, .int .i64 g]) ∧ Below w.heap.size w w') :
    Calls Tryd.prog 8 #[.int .i64 a, .string s] w fun e w' => e = .returned (.bool true) ∧ Below w.heap.size w w' := by
  have hB := Below.refl w.heap.size w
  have HE := Lib.hid he
  have C1 := Lib.hid c1
  have C2 := Lib.hid c2
  have C3 := Lib.hid c3
  have C4 := Lib.hid c4
  clear he c1 c2 c3 c4
  go_enter Tryd.func8, Tryd.ntmps8
  go_wp2_with fail
  refine (C1.out _ (HE.out.below hB)).mono ?_; rintro e w' ⟨rfl, hb1⟩; replace hB := hB.trans (hb1.mono hB.size); clear hb1; go_wp2_with fail
  refine (C2.out _).mono ?_; rintro e w' ⟨rfl, hb1⟩; replace hB := hB.trans (hb1.mono hB.size); clear hb1; go_wp2_with fail
  refine (C3.out _ (HE.out.below hB)).mono ?_; rintro e w' ⟨rfl, hb1⟩; replace hB := hB.trans (hb1.mono hB.size); clear hb1; go_wp2_with fail
  refine (C4.out _).mono ?_; rintro e w' ⟨rfl, hb1⟩; replace hB := hB.trans (hb1.mono hB.size); clear hb1; go_wp2_with fail
  refine (awake_any _ (HE.out.below hB)).mono ?_; rintro e w' ⟨rfl, hb1⟩; replace hB := hB.trans (hb1.mono hB.size); clear hb1; go_wp2_with fail
  go_ret
  exact ⟨rfl, hB⟩

theorem txN_len (a : Int) : (txN a).length ≤ 40 := by
  unfold txN
  split
  · unfold Fx.txtF
    rename_i h
    have hb := Fx.fxd_bd h
    have LD := Lib.itoa_length_le ((a.natAbs / 65536 : Nat) : Int) (by omega) (by omega)
    rw [itoa_dec _ _ rfl] at LD
    have FL := frac_len ((a.natAbs % 65536 : Nat) : Int)
    generalize Fx.frac ((a.natAbs % 65536 : Nat) : Int) = F at *
    generalize Lib.decDigits (a.natAbs / 65536) = D at *
    split <;> split <;> simp <;> omega
  · simp
theorem fixTexts_walk (a : Int) (s : ByteArray) (w : World) (he : Env w) (_lo : -9223372036854775808 ≤ a) (_hi : a ≤ 9223372036854775807) (ws : s.size ≤ maxLen) :
    Calls Tryd.prog 8 #[.int .i64 a, .string s] w fun e w' => e = .returned (.bool true) ∧ Below w.heap.size w w' := by
  by_cases hs : s.size ≤ 10000
  · exact texts_short a s _ _ _ _ w he hs (by have := txN_len a; simp [Lib.size_eq]; omega) (fun w he => text_any a w he) (fun w => rtext_any a w) (fun w he => parse_any s w he hs) (fun w => rparse_any s w hs)
  · exact texts_long a s w he (by omega) ws
end Go.Proofs.YtanhomngnickfaaDoor
