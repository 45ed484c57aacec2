/-
  The chapter's examples hold: awake returns true, in every world that keeps what the library reads.
-/
-- LAW 02
import Derived.Test.YtanhomngnickfaaDoorFxC
import Derived.Test.YtanhomngnickfaaDoorFxF
import Derived.Test.YtanhomngnickfaaDoorFxG
import Derived.Test.YtanhomngnickfaaDoorFxI
import Derived.Test.YtanhomngnickfaaDoorFxJ
namespace Go.Proofs.YtanhomngnickfaaDoor
open Go.RowKit

theorem rt_eq (n r : Int) (h0 : 0 ≤ n) (h1 : n ≤ 9223372036854775807) (hr : 0 ≤ r) (h2 : r * r ≤ n) (h3 : n < (r + 1) * (r + 1)) : Fx.rt n = r := by
  obtain ⟨a, b, c, d⟩ := Fx.rt_spec n h0 h1
  have l1 : r < Fx.rt n + 1 := Fx.lt_of_sq (by omega) (by omega)
  have l2 : Fx.rt n < r + 1 := Fx.lt_of_sq (by omega) (by omega)
  omega
theorem qS_pos : ∀ j : Fin 26, 0 < Fx.qS (2 ^ j.val) := by decide +kernel
theorem agF_zero (X : Int) (hX : 0 < X) : ∀ k, k ≤ 26 → Fx.agF X 0 k = 0
  | 0, _ => rfl
  | k + 1, hk => by
    have ih := agF_zero X hX k (by omega)
    rw [Fx.agF, ih]
    have h := qS_pos ⟨25 - k, by omega⟩
    simp only [Int.zero_add, Int.mul_zero]
    split
    · rfl
    · rw [if_neg]
      have := Int.mul_pos h hX
      change 0 < Fx.qS (2 ^ (25 - k)) * X at this
      show ¬ Fx.qS (2 ^ (25 - k)) * X ≤ 0
      omega
theorem ag_zero (X : Int) (hX : 0 < X) : Fx.ag X 0 = 0 := by
  unfold Fx.ag; rw [if_neg (by omega)]; exact agF_zero X hX 26 (by omega)
theorem ak_arg1 : Fx.arN 1 1 = 47185920 ∧ Fx.arE 1 1 = 0 := by
  have h : Fx.ag 1 1 = 47185920 := by unfold Fx.ag; rw [if_pos rfl]
  constructor
  · rw [Fx.arN, if_pos (by decide), if_neg (by decide), Fx.agV, if_neg (by decide), Fx.agH, if_neg (by decide), Fx.agQ, if_neg (by decide), show Fx.mx 1 (-1) = 1 by decide, h]
  · decide
theorem ak_arg2 : Fx.arN (-5) 0 = 188743680 ∧ Fx.arE (-5) 0 = 0 := by
  have h := ag_zero 5 (by omega)
  constructor
  · rw [Fx.arN, if_pos (by decide), if_neg (by decide), Fx.agV, if_neg (by decide), Fx.agH, if_pos (by decide), Fx.agQ, if_neg (by decide), show Fx.mx (-5) (- -5) = 5 by decide, show Fx.mx 0 (-0) = 0 by decide, h]; rfl
  · decide
theorem ak_arg3 : Fx.arN 0 (-2) = -94371840 ∧ Fx.arE 0 (-2) = 0 := by
  have h := ag_zero 2 (by omega)
  constructor
  · rw [Fx.arN, if_pos (by decide), if_neg (by decide), Fx.agV, if_pos (by decide), Fx.agH, if_neg (by decide), Fx.agQ, if_pos (by decide), show Fx.mx (-2) (- -2) = 2 by decide, show Fx.mx 0 (-0) = 0 by decide, h]; rfl
  · decide
theorem ak_sqrt : Fx.sqN 131072 = 92682 ∧ Fx.sqE 131072 = 0 := by
  have h := rt_eq 8589934592 92681 (by omega) (by omega) (by omega) (by omega) (by omega)
  have e : Fx.rtd (65536 * 131072) = 92682 := by
    rw [show (65536 : Int) * 131072 = 8589934592 by omega, Fx.rtd, h, if_pos (by omega)]; rfl
  constructor
  · rw [Fx.sqN, if_pos (by decide), if_neg (by decide), e]; decide
  · rw [Fx.sqE, if_pos (by decide), if_neg (by decide), e]; decide
theorem ak_hyp : Fx.hyN 3 4 = 5 ∧ Fx.hyE 3 4 = 0 := by
  have e : Fx.rtd (3 * 3 + 4 * 4) = 5 := Fx.rtd_sq 5 (by omega) (by omega)
  constructor
  · rw [Fx.hyN, if_pos (by decide), e]; decide
  · rw [Fx.hyE, if_pos (by decide), e]; decide
theorem ak_mul : Fx.mulN 98304 98304 = 147456 ∧ Fx.mulE 98304 98304 = 0 := by decide +kernel
theorem ak_div : Fx.divN 65536 196608 = 21845 ∧ Fx.divE 65536 196608 = 0 := by decide +kernel
theorem ak_sine : Fx.siS 94371840 = 268435456 ∧ Fx.siC 94371840 = 0 ∧ Fx.siE 94371840 = 0 := by decide +kernel
theorem ak_dir : Fx.diX 0 = 65536 ∧ Fx.diY 0 = 0 ∧ Fx.siE 0 = 0 := by decide +kernel
theorem ak_turn : Fx.tuX 5 7 94371840 = -7 ∧ Fx.tuY 5 7 94371840 = 5 ∧ Fx.tuE 5 7 94371840 = 0 := by decide +kernel
theorem ak_text : txN 21845 = [48, 46, 51, 51, 51, 51, 51] ∧ txE 21845 = 0 := by
  constructor
  · show Fx.txtF 21845 = _
    have h : Lib.decDigits ((21845 : Int).natAbs / 65536) = [48] := by
      rw [show (21845 : Int).natAbs / 65536 = 0 by decide]; exact Lib.decDigits_one (by omega)
    unfold Fx.txtF
    rw [h]
    decide +kernel
  · decide
theorem ak_parse : Fx.paN [45, 46, 53] = -32768 ∧ Fx.paE [45, 46, 53] = 0 := by decide +kernel

theorem aw_mul (w : World) : Calls Tryd.prog 15 #[.int .i64 98304, .int .i64 98304] w fun e w' => e = .returned (.tuple #[.int .i64 147456, .int .i64 0]) ∧ Below w.heap.size w w' := by
  have h := mul_any 98304 98304 w; rwa [ak_mul.1, ak_mul.2] at h
theorem aw_div (w : World) : Calls Tryd.prog 17 #[.int .i64 65536, .int .i64 196608] w fun e w' => e = .returned (.tuple #[.int .i64 21845, .int .i64 0]) ∧ Below w.heap.size w w' := by
  have h := div_any 65536 196608 w; rwa [ak_div.1, ak_div.2] at h
theorem aw_sqrt (w : World) : Calls Tryd.prog 20 #[.int .i64 131072] w fun e w' => e = .returned (.tuple #[.int .i64 92682, .int .i64 0]) ∧ Below w.heap.size w w' := by
  have h := sqrt_any 131072 w; rwa [ak_sqrt.1, ak_sqrt.2] at h
theorem aw_hypot (w : World) : Calls Tryd.prog 22 #[.int .i64 3, .int .i64 4] w fun e w' => e = .returned (.tuple #[.int .i64 5, .int .i64 0]) ∧ Below w.heap.size w w' := by
  have h := hypot_any 3 4 w; rwa [ak_hyp.1, ak_hyp.2] at h
theorem aw_sine (w : World) : Calls Tryd.prog 24 #[.int .i64 94371840] w fun e w' => e = .returned (.tuple #[.int .i64 268435456, .int .i64 0, .int .i64 0]) ∧ w = w' := by
  have h := sine_any 94371840 w; rwa [ak_sine.1, ak_sine.2.1, ak_sine.2.2] at h
theorem aw_arg1 (w : World) : Calls Tryd.prog 30 #[.int .i64 1, .int .i64 1] w fun e w' => e = .returned (.tuple #[.int .i64 47185920, .int .i64 0]) ∧ Below w.heap.size w w' := by
  have h := arg_any 1 1 w; rwa [ak_arg1.1, ak_arg1.2] at h
theorem aw_arg2 (w : World) : Calls Tryd.prog 30 #[.int .i64 (-5), .int .i64 0] w fun e w' => e = .returned (.tuple #[.int .i64 188743680, .int .i64 0]) ∧ Below w.heap.size w w' := by
  have h := arg_any (-5) 0 w; rwa [ak_arg2.1, ak_arg2.2] at h
theorem aw_arg3 (w : World) : Calls Tryd.prog 30 #[.int .i64 0, .int .i64 (-2)] w fun e w' => e = .returned (.tuple #[.int .i64 (-94371840), .int .i64 0]) ∧ Below w.heap.size w w' := by
  have h := arg_any 0 (-2) w; rwa [ak_arg3.1, ak_arg3.2] at h
theorem aw_text (w : World) (he : Env w) : Calls Tryd.prog 32 #[.int .i64 21845] w fun e w' => e = .returned (.tuple #[.string ⟨#[48, 46, 51, 51, 51, 51, 51]⟩, .int .i64 0]) ∧ Below w.heap.size w w' := by
  have h := text_any 21845 w he; rwa [ak_text.1, ak_text.2] at h
theorem aw_parse (w : World) (he : Env w) : Calls Tryd.prog 34 #[.string ⟨#[45, 46, 53]⟩] w fun e w' => e = .returned (.tuple #[.int .i64 (-32768), .int .i64 0]) ∧ Below w.heap.size w w' := by
  have h := parse_any ⟨#[45, 46, 53]⟩ w he (by decide)
  rw [show (⟨#[45, 46, 53]⟩ : ByteArray).data.toList = [45, 46, 53] from rfl, ak_parse.1, ak_parse.2] at h
  exact h
theorem aw_dir (w : World) : Calls Tryd.prog 26 #[.int .i64 0] w fun e w' => e = .returned (.tuple #[.int .i64 65536, .int .i64 0, .int .i64 0]) ∧ w = w' := by
  have h := dir_any 0 w; rwa [ak_dir.1, ak_dir.2.1, ak_dir.2.2] at h
theorem aw_turn (w : World) : Calls Tryd.prog 28 #[.int .i64 5, .int .i64 7, .int .i64 94371840] w fun e w' => e = .returned (.tuple #[.int .i64 (-7), .int .i64 5, .int .i64 0]) ∧ Below w.heap.size w w' := by
  have h := turn_any 5 7 94371840 w; rwa [ak_turn.1, ak_turn.2.1, ak_turn.2.2] at h

set_option maxRecDepth 100000 in
set_option maxHeartbeats 2000000 in
/-- The chapter's examples hold. -/
theorem awake_any (w : World) (he : Env w) : Calls Tryd.prog 19 #[] w fun e w' => e = .returned (.bool true) ∧ Below w.heap.size w w' := by
  have hB := Below.refl w.heap.size w
  have HE := Lib.hid he
  clear he
  go_enter Tryd.func19, Tryd.ntmps19
  go_wp2_with fail
  refine (aw_mul _).mono ?_; rintro e w' ⟨rfl, hb1⟩; replace hB := hB.trans (hb1.mono hB.size); clear hb1; go_wp2_with fail
  refine (aw_div _).mono ?_; rintro e w' ⟨rfl, hb1⟩; replace hB := hB.trans (hb1.mono hB.size); clear hb1; go_wp2_with fail
  refine (aw_sqrt _).mono ?_; rintro e w' ⟨rfl, hb1⟩; replace hB := hB.trans (hb1.mono hB.size); clear hb1; go_wp2_with fail
  refine (aw_hypot _).mono ?_; rintro e w' ⟨rfl, hb1⟩; replace hB := hB.trans (hb1.mono hB.size); clear hb1; go_wp2_with fail
  refine (aw_sine _).mono ?_; rintro e w1 ⟨rfl, rfl⟩; go_wp2_with fail
  refine (aw_arg1 _).mono ?_; rintro e w' ⟨rfl, hb1⟩; replace hB := hB.trans (hb1.mono hB.size); clear hb1; go_wp2_with fail
  refine (aw_arg2 _).mono ?_; rintro e w' ⟨rfl, hb1⟩; replace hB := hB.trans (hb1.mono hB.size); clear hb1; go_wp2_with fail
  refine (aw_arg3 _).mono ?_; rintro e w' ⟨rfl, hb1⟩; replace hB := hB.trans (hb1.mono hB.size); clear hb1; go_wp2_with fail
  refine (aw_text _ (HE.out.below hB)).mono ?_; rintro e w' ⟨rfl, hb1⟩; replace hB := hB.trans (hb1.mono hB.size); clear hb1; go_wp2_with fail
  refine (aw_parse _ (HE.out.below hB)).mono ?_; rintro e w' ⟨rfl, hb1⟩; replace hB := hB.trans (hb1.mono hB.size); clear hb1; go_wp2_with fail
  refine (aw_dir _).mono ?_; rintro e w1 ⟨rfl, rfl⟩; go_wp2_with fail
  refine (aw_turn _).mono ?_; rintro e w' ⟨rfl, hb1⟩; replace hB := hB.trans (hb1.mono hB.size); clear hb1; go_wp2_with fail
  go_ret
  exact ⟨rfl, hB⟩
end Go.Proofs.YtanhomngnickfaaDoor
