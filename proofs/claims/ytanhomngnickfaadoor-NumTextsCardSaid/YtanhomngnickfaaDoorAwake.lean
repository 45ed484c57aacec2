/-
  The chapter's examples hold: awake returns true, in every world that keeps what the library reads.
-/
-- LAW 01
import Derived.Test.YtanhomngnickfaaDoorDec3
namespace Go.Proofs.YtanhomngnickfaaDoor
open Go.RowKit

/-- A number that lies in a block. -/
structure NumAt (w : World) (b : Nat) (x y : Int) : Prop where
  c0 : w.cell? ⟨b, 0, none⟩ = some (.int .i64 x)
  c1 : w.cell? ⟨b, 1, none⟩ = some (.int .i64 y)
  lt : b < w.heap.size
theorem NumAt.below {w w' : World} {b : Nat} {x y : Int} (h : NumAt w b x y) (hb : Below w.heap.size w w') : NumAt w' b x y :=
  ⟨by rw [(bcell hb).1 _ _ h.lt]; exact h.c0, by rw [(bcell hb).1 _ _ h.lt]; exact h.c1, Nat.lt_of_lt_of_le h.lt hb.size⟩
theorem NumAt.alloc {w : World} {b : Nat} {x y : Int} (h : NumAt w b x y) (o : Obj) : NumAt (w.alloc o) b x y :=
  h.below ((Below.refl _ _).alloc (Nat.le_refl _) o)
theorem numAt_new (w : World) (x y : Int) (t : TypeId) : NumAt (w.alloc (.cells #[.int .i64 x, .int .i64 y] t)) w.heap.size x y :=
  ⟨by simp [go_sem], by simp [go_sem], by simp⟩

theorem aw_make (w : World) : Calls Tryd.prog 66 #[.int .i64 6, .int .i64 (-4)] w fun e w' => e = .returned (numV (-3) 2 0) ∧ Below w.heap.size w w' := by
  have h := make_any 6 (-4) w (by omega) (by omega) (by omega) (by omega)
  rwa [show Nm.mkP 6 (-4) = -3 by decide +kernel, show Nm.mkQ 6 (-4) = 2 by decide +kernel, show Nm.mkE 6 (-4) = 0 by decide +kernel] at h
theorem aw_add (w : World) : Calls Tryd.prog 67 #[.agg #[.int .i64 1, .int .i64 2], .agg #[.int .i64 1, .int .i64 3]] w fun e w' => e = .returned (numV 5 6 0) ∧ Below w.heap.size w w' := by
  have h := add_any 1 2 1 3 w (by omega) (by omega) (by omega) (by omega) (by omega) (by omega) (by omega) (by omega)
  rwa [resV, show Nm.resP (Nm.vld 1 2 && Nm.vld 1 3) (1 * 3 + 1 * 2) (2 * 3) = 5 by decide +kernel, show Nm.resQ (Nm.vld 1 2 && Nm.vld 1 3) (1 * 3 + 1 * 2) (2 * 3) = 6 by decide +kernel, show Nm.resE (Nm.vld 1 2 && Nm.vld 1 3) (1 * 3 + 1 * 2) (2 * 3) = 0 by decide +kernel] at h
theorem aw_mod (w : World) : Calls Tryd.prog 68 #[.agg #[.int .i64 (-7), .int .i64 2], .agg #[.int .i64 2, .int .i64 1]] w fun e w' => e = .returned (numV 1 2 0) ∧ Below w.heap.size w w' := by
  have h := mod_ok (-7) 2 2 1 1 w (by decide +kernel) (by decide +kernel) (by omega) (by decide +kernel)
  rwa [show Nm.mkP 1 (2 * 1) = 1 by decide +kernel, show Nm.mkQ 1 (2 * 1) = 2 by decide +kernel, show Nm.mkE 1 (2 * 1) = 0 by decide +kernel] at h
theorem aw_floor (w : World) : Calls Tryd.prog 69 #[.agg #[.int .i64 (-7), .int .i64 2]] w fun e w' => e = .returned (.tuple #[.int .i64 (-4), .int .i64 0]) ∧ Below w.heap.size w w' := by
  have h := floor_ok (-7) 2 w (by decide +kernel)
  rwa [show (-7 : Int).fdiv 2 = -4 by decide +kernel] at h
theorem aw_fixed (w : World) : Calls Tryd.prog 70 #[.agg #[.int .i64 (-1), .int .i64 3]] w fun e w' => e = .returned (.tuple #[.int .i64 (-21845), .int .i64 0]) ∧ Below w.heap.size w w' := by
  have h := fixed_ok (-1) 3 w (by decide +kernel)
  rwa [show Nm.fx (-1) 3 = -21845 by decide +kernel] at h
theorem aw_decimal (w : World) (he : Env w) : Calls Tryd.prog 41 #[.string ⟨#[48, 46, 53, 48]⟩] w fun e w' => e = .returned (numV 1 2 0) ∧ Below w.heap.size w w' := by
  have h := decimal_G1 ⟨#[48, 46, 53, 48]⟩ w he (by decide +kernel) [48] [53, 48] (by decide +kernel) (by decide) (by decide) (by decide +kernel) (by decide +kernel) (by decide)
  rwa [show Nm.mkP (dval ([48] ++ [53, 48])) ((10 ^ [(53 : UInt8), 48].length : Nat) : Int) = 1 by decide +kernel, show Nm.mkQ (dval ([48] ++ [53, 48])) ((10 ^ [(53 : UInt8), 48].length : Nat) : Int) = 2 by decide +kernel, show Nm.mkE (dval ([48] ++ [53, 48])) ((10 ^ [(53 : UInt8), 48].length : Nat) : Int) = 0 by decide +kernel] at h
theorem aw_mul (w : World) : Calls Tryd.prog 71 #[.agg #[.int .i64 2147483647, .int .i64 1], .agg #[.int .i64 2, .int .i64 1]] w fun e w' => e = .returned (numV 0 0 17) ∧ Below w.heap.size w w' := by
  have h := mul_any 2147483647 1 2 1 w (by omega) (by omega) (by omega) (by omega) (by omega) (by omega) (by omega) (by omega)
  rwa [resV, show Nm.resP (Nm.vld 2147483647 1 && Nm.vld 2 1) (2147483647 * 2) (1 * 1) = 0 by decide +kernel, show Nm.resQ (Nm.vld 2147483647 1 && Nm.vld 2 1) (2147483647 * 2) (1 * 1) = 0 by decide +kernel, show Nm.resE (Nm.vld 2147483647 1 && Nm.vld 2 1) (2147483647 * 2) (1 * 1) = 17 by decide +kernel] at h
theorem aw_near (w : World) : Calls Tryd.prog 72 #[.string ⟨#[42]⟩, .agg #[.int .i64 1, .int .i64 65536], .agg #[.int .i64 1, .int .i64 65536]] w fun e w' => e = .returned (numV 0 1 0) ∧ Below w.heap.size w w' := by
  refine near_near _ 1 65536 1 65536 1 4294967296 0 1 0 w (by omega) (by omega) (by omega) (by omega) (by decide +kernel) (fun w => ?_) (fun w => ?_)
  · have h := exact_mul 1 65536 1 65536 w (by decide +kernel) (by decide +kernel)
    rwa [show (1 : Int) * 1 = 1 by decide, show (65536 : Int) * 65536 = 4294967296 by decide] at h
  · have h := nearest_in 1 4294967296 0 0 w (by omega) (by omega) (by omega) (by omega) (by decide +kernel) (by omega) (by omega) (by decide +kernel)
      (fun w => by rw [show (1 : Int).fmod 4294967296 = 1 by decide +kernel]; exact units_lo 1 4294967296 w (by omega) (by omega) (by omega) (by omega))
    rwa [show (0 : Int) * 65536 + 0 = 0 by decide, show Nm.mkP 0 65536 = 0 by decide +kernel, show Nm.mkQ 0 65536 = 1 by decide +kernel, show Nm.mkE 0 65536 = 0 by decide +kernel] at h
theorem aw_text (w : World) (he : Env w) : Calls Tryd.prog 37 #[.agg #[.int .i64 (-3), .int .i64 2]] w fun e w' => e = .returned (.tuple #[.string ⟨#[45, 51, 47, 50]⟩, .int .i64 0]) ∧ Below w.heap.size w w' := by
  have h := text_two (-3) 2 w he (by decide +kernel) (by omega)
  rwa [show (Lib.itoa (-3) ++ 47 :: Lib.itoa 2).toArray = #[45, 51, 47, 50] by simp [Lib.itoa, Lib.decDigits_one]] at h
theorem aw_valid (w : World) : Calls Tryd.prog 73 #[.agg #[.int .i64 (-3), .int .i64 2]] w fun e w' => e = .returned (.bool true) ∧ Below w.heap.size w w' := by
  have h := valid_any (-3) 2 w (by omega) (by omega) (by omega) (by omega)
  rwa [show Nm.vld (-3) 2 = true by decide +kernel] at h

set_option maxRecDepth 100000 in
set_option maxHeartbeats 2000000 in
/-- The chapter's examples hold. -/
theorem awake_any (w : World) (he : Env w) : Calls Tryd.prog 36 #[] w fun e w' => e = .returned (.bool true) ∧ Below w.heap.size w w' := by
  have hB := Below.refl w.heap.size w
  have HE := Lib.hid he
  clear he
  go_enter Tryd.func36, Tryd.ntmps36
  go_wp2_with fail
  refine (aw_make _).mono ?_; rintro e w' ⟨rfl, hb1⟩
  replace hB := hB.trans (hb1.mono hB.size)
  clear hb1
  simp only [numV]
  go_wp2_with fail
  have na := numAt_new w' (-3) (2) 41
  replace hB := hB.alloc hB.size (.cells #[.int .i64 (-3), .int .i64 (2)] 41)
  generalize w'.alloc (.cells #[.int .i64 (-3), .int .i64 (2)] 41) = W at na hB ⊢
  generalize w'.heap.size = b_na at na ⊢
  clear w'
  refine (aw_add _).mono ?_; rintro e w' ⟨rfl, hb1⟩
  replace hB := hB.trans (hb1.mono hB.size)
  replace na := na.below hb1
  clear hb1
  simp only [numV]
  go_wp2_with fail
  have nb := numAt_new w' (5) (6) 41
  replace hB := hB.alloc hB.size (.cells #[.int .i64 (5), .int .i64 (6)] 41)
  replace na := na.alloc (.cells #[.int .i64 (5), .int .i64 (6)] 41)
  generalize w'.alloc (.cells #[.int .i64 (5), .int .i64 (6)] 41) = W at na nb hB ⊢
  generalize w'.heap.size = b_nb at nb ⊢
  clear w'
  refine (aw_mod _).mono ?_; rintro e w' ⟨rfl, hb1⟩
  replace hB := hB.trans (hb1.mono hB.size)
  replace na := na.below hb1
  replace nb := nb.below hb1
  clear hb1
  simp only [numV]
  go_wp2_with fail
  have nc := numAt_new w' (1) (2) 41
  replace hB := hB.alloc hB.size (.cells #[.int .i64 (1), .int .i64 (2)] 41)
  replace na := na.alloc (.cells #[.int .i64 (1), .int .i64 (2)] 41)
  replace nb := nb.alloc (.cells #[.int .i64 (1), .int .i64 (2)] 41)
  generalize w'.alloc (.cells #[.int .i64 (1), .int .i64 (2)] 41) = W at na nb nc hB ⊢
  generalize w'.heap.size = b_nc at nc ⊢
  clear w'
  refine (aw_floor _).mono ?_; rintro e w' ⟨rfl, hb1⟩
  replace hB := hB.trans (hb1.mono hB.size)
  replace na := na.below hb1
  replace nb := nb.below hb1
  replace nc := nc.below hb1
  clear hb1
  go_wp2_with fail
  refine (aw_fixed _).mono ?_; rintro e w' ⟨rfl, hb1⟩
  replace hB := hB.trans (hb1.mono hB.size)
  replace na := na.below hb1
  replace nb := nb.below hb1
  replace nc := nc.below hb1
  clear hb1
  go_wp2_with fail
  refine (aw_decimal _ (HE.out.below hB)).mono ?_; rintro e w' ⟨rfl, hb1⟩
  replace hB := hB.trans (hb1.mono hB.size)
  replace na := na.below hb1
  replace nb := nb.below hb1
  replace nc := nc.below hb1
  clear hb1
  simp only [numV]
  go_wp2_with fail
  have nk := numAt_new w' (1) (2) 41
  replace hB := hB.alloc hB.size (.cells #[.int .i64 (1), .int .i64 (2)] 41)
  replace na := na.alloc (.cells #[.int .i64 (1), .int .i64 (2)] 41)
  replace nb := nb.alloc (.cells #[.int .i64 (1), .int .i64 (2)] 41)
  replace nc := nc.alloc (.cells #[.int .i64 (1), .int .i64 (2)] 41)
  generalize w'.alloc (.cells #[.int .i64 (1), .int .i64 (2)] 41) = W at na nb nc nk hB ⊢
  generalize w'.heap.size = b_nk at nk ⊢
  clear w'
  refine (aw_mul _).mono ?_; rintro e w' ⟨rfl, hb1⟩
  replace hB := hB.trans (hb1.mono hB.size)
  replace na := na.below hb1
  replace nb := nb.below hb1
  replace nc := nc.below hb1
  replace nk := nk.below hb1
  clear hb1
  simp only [numV]
  go_wp2_with fail
  have nm := numAt_new w' (0) (0) 41
  replace hB := hB.alloc hB.size (.cells #[.int .i64 (0), .int .i64 (0)] 41)
  replace na := na.alloc (.cells #[.int .i64 (0), .int .i64 (0)] 41)
  replace nb := nb.alloc (.cells #[.int .i64 (0), .int .i64 (0)] 41)
  replace nc := nc.alloc (.cells #[.int .i64 (0), .int .i64 (0)] 41)
  replace nk := nk.alloc (.cells #[.int .i64 (0), .int .i64 (0)] 41)
  generalize w'.alloc (.cells #[.int .i64 (0), .int .i64 (0)] 41) = W at na nb nc nk nm hB ⊢
  generalize w'.heap.size = b_nm at nm ⊢
  clear w'
  refine (aw_near _).mono ?_; rintro e w' ⟨rfl, hb1⟩
  replace hB := hB.trans (hb1.mono hB.size)
  replace na := na.below hb1
  replace nb := nb.below hb1
  replace nc := nc.below hb1
  replace nk := nk.below hb1
  clear hb1 nm
  have a0 := na.c0
  have a1 := na.c1
  have al := na.lt
  simp only [numV]
  go_wp2_with fail
  clear a0 a1 al
  have nn := numAt_new w' 0 1 41
  replace hB := hB.alloc hB.size (.cells #[.int .i64 0, .int .i64 1] 41)
  replace na := na.alloc (.cells #[.int .i64 0, .int .i64 1] 41)
  replace nb := nb.alloc (.cells #[.int .i64 0, .int .i64 1] 41)
  replace nc := nc.alloc (.cells #[.int .i64 0, .int .i64 1] 41)
  replace nk := nk.alloc (.cells #[.int .i64 0, .int .i64 1] 41)
  generalize w'.alloc (.cells #[.int .i64 0, .int .i64 1] 41) = W at na nb nc nk nn hB ⊢
  generalize w'.heap.size = b_nn at nn ⊢
  clear w'
  refine (aw_text _ (HE.out.below hB)).mono ?_; rintro e w' ⟨rfl, hb1⟩
  replace hB := hB.trans (hb1.mono hB.size)
  replace na := na.below hb1
  replace nb := nb.below hb1
  replace nc := nc.below hb1
  replace nk := nk.below hb1
  replace nn := nn.below hb1
  clear hb1
  obtain ⟨na0, na1, nal⟩ := na
  clear nal
  obtain ⟨nb0, nb1, nbl⟩ := nb
  clear nbl
  obtain ⟨nc0, nc1, ncl⟩ := nc
  clear ncl
  obtain ⟨nk0, nk1, nkl⟩ := nk
  clear nkl
  obtain ⟨nn0, nn1, nnl⟩ := nn
  clear nnl
  go_wp2_with fail
  refine (aw_valid _).mono ?_; rintro e w'' ⟨rfl, hb1⟩
  replace hB := hB.trans (hb1.mono hB.size)
  clear hb1 na0 na1 nb0 nb1 nc0 nc1 nk0 nk1 nn0 nn1
  go_wp2_with fail
  go_ret
  exact ⟨rfl, hB⟩
end Go.Proofs.YtanhomngnickfaaDoor
