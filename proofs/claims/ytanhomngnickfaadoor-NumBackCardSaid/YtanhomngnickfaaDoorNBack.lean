/-
  The walk of NumBack: it returns true at any numbers and string.
-/
-- LAW 01
import Derived.Test.YtanhomngnickfaaDoorNParse2
namespace Go.Proofs.YtanhomngnickfaaDoor
open Go.RowKit

set_option maxRecDepth 100000 in
set_option maxHeartbeats 4000000 in
theorem back_na_no (aP aQ bP bQ : Int) (vb : Bool) (s : ByteArray) (w : World) (he : Env5 w) (hs : s.size ≤ 10000)
    (v1 : ∀ w, Calls Tryd.prog 43 #[.agg #[.int .i64 aP, .int .i64 aQ]] w fun e w' => e = .returned (.bool false) ∧ Below w.heap.size w w')
    (v2 : ∀ w, Calls Tryd.prog 43 #[.agg #[.int .i64 bP, .int .i64 bQ]] w fun e w' => e = .returned (.bool vb) ∧ Below w.heap.size w w')
    (r2 : ∀ w, Env5 w → Calls Tryd.prog 39 #[.string s] w fun e w' => e = .returned (numV 0 0 30) ∧ Below w.heap.size w w') :
    Calls Tryd.prog 14 #[.agg #[.int .i64 aP, .int .i64 aQ], .agg #[.int .i64 bP, .int .i64 bQ], .string s] w fun e w' => e = .returned (.bool true) ∧ Below w.heap.size w w' := by
  have HE := Lib.hid he
  have V1 := Lib.hid v1
  have V2 := Lib.hid v2
  have R2 := Lib.hid r2
  clear he v1 v2 r2
  go_enter Tryd.func14, Tryd.ntmps14
  go_wp2_with fail
  have fa := (numAt_new w aP aQ 41).alloc (.cells #[.int .i64 bP, .int .i64 bQ] 41)
  have fb := numAt_new (w.alloc (.cells #[.int .i64 aP, .int .i64 aQ] 41)) bP bQ 41
  rw [show (w.alloc (.cells #[.int .i64 aP, .int .i64 aQ] 41)).heap.size = w.heap.size + 1 by simp] at fb
  have hB := ((Below.refl w.heap.size w).alloc (Nat.le_refl _) (.cells #[.int .i64 aP, .int .i64 aQ] 41)).alloc (by simp) (.cells #[.int .i64 bP, .int .i64 bQ] 41)
  generalize (w.alloc (.cells #[.int .i64 aP, .int .i64 aQ] 41)).alloc (.cells #[.int .i64 bP, .int .i64 bQ] 41) = W at fa fb hB ⊢
  refine (V1.out _).mono ?_; rintro e w' ⟨rfl, hb1⟩; replace fa := fa.below hb1; replace fb := fb.below hb1; replace hB := hB.trans (hb1.mono hB.size); clear hb1
  obtain ⟨a0, a1, al⟩ := id fa; obtain ⟨b0, b1, bl⟩ := id fb
  go_wp2_with fail
  clear a0 a1 al b0 b1 bl
  refine (R2.out _ (HE.out.below hB)).mono ?_; rintro e w' ⟨rfl, hb1⟩; replace fa := fa.below hb1; replace fb := fb.below hb1; replace hB := hB.trans (hb1.mono hB.size); clear hb1
  simp only [numV]
  clear fa fb
  go_wp2_with fail
  replace hB := hB.alloc hB.size (.cells #[.int .i64 0, .int .i64 0] 41)
  generalize w'.alloc (.cells #[.int .i64 0, .int .i64 0] 41) = W3 at hB ⊢
  refine (awake_any _ (HE.out.toEnv.below hB)).mono ?_; rintro e w6 ⟨rfl, hb1⟩; replace hB := hB.trans (hb1.mono hB.size); clear hb1
  go_wp2_with fail
  go_ret
  exact ⟨rfl, hB⟩

set_option maxRecDepth 100000 in
set_option maxHeartbeats 4000000 in
theorem back_na_yes (aP aQ bP bQ xP xQ : Int) (vb : Bool) (s : ByteArray) (w : World) (he : Env5 w) (hs : s.size ≤ 10000)
    (v1 : ∀ w, Calls Tryd.prog 43 #[.agg #[.int .i64 aP, .int .i64 aQ]] w fun e w' => e = .returned (.bool false) ∧ Below w.heap.size w w')
    (v2 : ∀ w, Calls Tryd.prog 43 #[.agg #[.int .i64 bP, .int .i64 bQ]] w fun e w' => e = .returned (.bool vb) ∧ Below w.heap.size w w')
    (r2 : ∀ w, Env5 w → Calls Tryd.prog 39 #[.string s] w fun e w' => e = .returned (numV xP xQ 0) ∧ Below w.heap.size w w')
    (t3 : ∀ w, Env5 w → Calls Tryd.prog 37 #[.agg #[.int .i64 xP, .int .i64 xQ]] w fun e w' => e = .returned (.tuple #[.string s, .int .i64 0]) ∧ Below w.heap.size w w')
    (v3 : ∀ w, Calls Tryd.prog 43 #[.agg #[.int .i64 xP, .int .i64 xQ]] w fun e w' => e = .returned (.bool true) ∧ Below w.heap.size w w') :
    Calls Tryd.prog 14 #[.agg #[.int .i64 aP, .int .i64 aQ], .agg #[.int .i64 bP, .int .i64 bQ], .string s] w fun e w' => e = .returned (.bool true) ∧ Below w.heap.size w w' := by
  have HE := Lib.hid he
  have V1 := Lib.hid v1
  have V2 := Lib.hid v2
  have R2 := Lib.hid r2
  have T3 := Lib.hid t3
  have V3 := Lib.hid v3
  clear he v1 v2 r2 t3 v3
  go_enter Tryd.func14, Tryd.ntmps14
  go_wp2_with fail
  have fa := (numAt_new w aP aQ 41).alloc (.cells #[.int .i64 bP, .int .i64 bQ] 41)
  have fb := numAt_new (w.alloc (.cells #[.int .i64 aP, .int .i64 aQ] 41)) bP bQ 41
  rw [show (w.alloc (.cells #[.int .i64 aP, .int .i64 aQ] 41)).heap.size = w.heap.size + 1 by simp] at fb
  have hB := ((Below.refl w.heap.size w).alloc (Nat.le_refl _) (.cells #[.int .i64 aP, .int .i64 aQ] 41)).alloc (by simp) (.cells #[.int .i64 bP, .int .i64 bQ] 41)
  generalize (w.alloc (.cells #[.int .i64 aP, .int .i64 aQ] 41)).alloc (.cells #[.int .i64 bP, .int .i64 bQ] 41) = W at fa fb hB ⊢
  refine (V1.out _).mono ?_; rintro e w' ⟨rfl, hb1⟩; replace fa := fa.below hb1; replace fb := fb.below hb1; replace hB := hB.trans (hb1.mono hB.size); clear hb1
  obtain ⟨a0, a1, al⟩ := id fa; obtain ⟨b0, b1, bl⟩ := id fb
  go_wp2_with fail
  clear a0 a1 al b0 b1 bl
  refine (R2.out _ (HE.out.below hB)).mono ?_; rintro e w' ⟨rfl, hb1⟩; replace fa := fa.below hb1; replace fb := fb.below hb1; replace hB := hB.trans (hb1.mono hB.size); clear hb1
  simp only [numV]
  clear fa fb
  go_wp2_with fail
  have fx := numAt_new w' xP xQ 41
  replace hB := hB.alloc hB.size (.cells #[.int .i64 xP, .int .i64 xQ] 41)
  generalize w'.alloc (.cells #[.int .i64 xP, .int .i64 xQ] 41) = W3 at fx hB ⊢
  generalize w'.heap.size = bx at fx ⊢
  refine (T3.out _ (HE.out.below hB)).mono ?_; rintro e w4 ⟨rfl, hb1⟩; replace fx := fx.below hb1; replace hB := hB.trans (hb1.mono hB.size); clear hb1
  obtain ⟨x0, x1, xl⟩ := id fx
  go_wp2_with fail
  clear x0 x1 xl
  refine (V3.out _).mono ?_; rintro e w5 ⟨rfl, hb1⟩; replace fx := fx.below hb1; replace hB := hB.trans (hb1.mono hB.size); clear hb1
  go_wp2_with fail
  refine (awake_any _ (HE.out.toEnv.below hB)).mono ?_; rintro e w6 ⟨rfl, hb1⟩; replace hB := hB.trans (hb1.mono hB.size); clear hb1
  go_wp2_with fail
  go_ret
  exact ⟨rfl, hB⟩

set_option maxRecDepth 100000 in
set_option maxHeartbeats 4000000 in
theorem back_nb_no (aP aQ bP bQ : Int) (s : ByteArray) (w : World) (he : Env5 w) (hs : s.size ≤ 10000)
    (v1 : ∀ w, Calls Tryd.prog 43 #[.agg #[.int .i64 aP, .int .i64 aQ]] w fun e w' => e = .returned (.bool true) ∧ Below w.heap.size w w')
    (v2 : ∀ w, Calls Tryd.prog 43 #[.agg #[.int .i64 bP, .int .i64 bQ]] w fun e w' => e = .returned (.bool false) ∧ Below w.heap.size w w')
    (r2 : ∀ w, Env5 w → Calls Tryd.prog 39 #[.string s] w fun e w' => e = .returned (numV 0 0 30) ∧ Below w.heap.size w w') :
    Calls Tryd.prog 14 #[.agg #[.int .i64 aP, .int .i64 aQ], .agg #[.int .i64 bP, .int .i64 bQ], .string s] w fun e w' => e = .returned (.bool true) ∧ Below w.heap.size w w' := by
  have HE := Lib.hid he
  have V1 := Lib.hid v1
  have V2 := Lib.hid v2
  have R2 := Lib.hid r2
  clear he v1 v2 r2
  go_enter Tryd.func14, Tryd.ntmps14
  go_wp2_with fail
  have fa := (numAt_new w aP aQ 41).alloc (.cells #[.int .i64 bP, .int .i64 bQ] 41)
  have fb := numAt_new (w.alloc (.cells #[.int .i64 aP, .int .i64 aQ] 41)) bP bQ 41
  rw [show (w.alloc (.cells #[.int .i64 aP, .int .i64 aQ] 41)).heap.size = w.heap.size + 1 by simp] at fb
  have hB := ((Below.refl w.heap.size w).alloc (Nat.le_refl _) (.cells #[.int .i64 aP, .int .i64 aQ] 41)).alloc (by simp) (.cells #[.int .i64 bP, .int .i64 bQ] 41)
  generalize (w.alloc (.cells #[.int .i64 aP, .int .i64 aQ] 41)).alloc (.cells #[.int .i64 bP, .int .i64 bQ] 41) = W at fa fb hB ⊢
  refine (V1.out _).mono ?_; rintro e w' ⟨rfl, hb1⟩; replace fa := fa.below hb1; replace fb := fb.below hb1; replace hB := hB.trans (hb1.mono hB.size); clear hb1
  obtain ⟨a0, a1, al⟩ := id fa; obtain ⟨b0, b1, bl⟩ := id fb
  go_wp2_with fail
  clear a0 a1 al b0 b1 bl
  refine (V2.out _).mono ?_; rintro e w' ⟨rfl, hb1⟩; replace fa := fa.below hb1; replace fb := fb.below hb1; replace hB := hB.trans (hb1.mono hB.size); clear hb1
  obtain ⟨a0, a1, al⟩ := id fa; obtain ⟨b0, b1, bl⟩ := id fb
  go_wp2_with fail
  clear a0 a1 al b0 b1 bl
  refine (R2.out _ (HE.out.below hB)).mono ?_; rintro e w' ⟨rfl, hb1⟩; replace fa := fa.below hb1; replace fb := fb.below hb1; replace hB := hB.trans (hb1.mono hB.size); clear hb1
  simp only [numV]
  clear fa fb
  go_wp2_with fail
  replace hB := hB.alloc hB.size (.cells #[.int .i64 0, .int .i64 0] 41)
  generalize w'.alloc (.cells #[.int .i64 0, .int .i64 0] 41) = W3 at hB ⊢
  refine (awake_any _ (HE.out.toEnv.below hB)).mono ?_; rintro e w6 ⟨rfl, hb1⟩; replace hB := hB.trans (hb1.mono hB.size); clear hb1
  go_wp2_with fail
  go_ret
  exact ⟨rfl, hB⟩

set_option maxRecDepth 100000 in
set_option maxHeartbeats 4000000 in
theorem back_nb_yes (aP aQ bP bQ xP xQ : Int) (s : ByteArray) (w : World) (he : Env5 w) (hs : s.size ≤ 10000)
    (v1 : ∀ w, Calls Tryd.prog 43 #[.agg #[.int .i64 aP, .int .i64 aQ]] w fun e w' => e = .returned (.bool true) ∧ Below w.heap.size w w')
    (v2 : ∀ w, Calls Tryd.prog 43 #[.agg #[.int .i64 bP, .int .i64 bQ]] w fun e w' => e = .returned (.bool false) ∧ Below w.heap.size w w')
    (r2 : ∀ w, Env5 w → Calls Tryd.prog 39 #[.string s] w fun e w' => e = .returned (numV xP xQ 0) ∧ Below w.heap.size w w')
    (t3 : ∀ w, Env5 w → Calls Tryd.prog 37 #[.agg #[.int .i64 xP, .int .i64 xQ]] w fun e w' => e = .returned (.tuple #[.string s, .int .i64 0]) ∧ Below w.heap.size w w')
    (v3 : ∀ w, Calls Tryd.prog 43 #[.agg #[.int .i64 xP, .int .i64 xQ]] w fun e w' => e = .returned (.bool true) ∧ Below w.heap.size w w') :
    Calls Tryd.prog 14 #[.agg #[.int .i64 aP, .int .i64 aQ], .agg #[.int .i64 bP, .int .i64 bQ], .string s] w fun e w' => e = .returned (.bool true) ∧ Below w.heap.size w w' := by
  have HE := Lib.hid he
  have V1 := Lib.hid v1
  have V2 := Lib.hid v2
  have R2 := Lib.hid r2
  have T3 := Lib.hid t3
  have V3 := Lib.hid v3
  clear he v1 v2 r2 t3 v3
  go_enter Tryd.func14, Tryd.ntmps14
  go_wp2_with fail
  have fa := (numAt_new w aP aQ 41).alloc (.cells #[.int .i64 bP, .int .i64 bQ] 41)
  have fb := numAt_new (w.alloc (.cells #[.int .i64 aP, .int .i64 aQ] 41)) bP bQ 41
  rw [show (w.alloc (.cells #[.int .i64 aP, .int .i64 aQ] 41)).heap.size = w.heap.size + 1 by simp] at fb
  have hB := ((Below.refl w.heap.size w).alloc (Nat.le_refl _) (.cells #[.int .i64 aP, .int .i64 aQ] 41)).alloc (by simp) (.cells #[.int .i64 bP, .int .i64 bQ] 41)
  generalize (w.alloc (.cells #[.int .i64 aP, .int .i64 aQ] 41)).alloc (.cells #[.int .i64 bP, .int .i64 bQ] 41) = W at fa fb hB ⊢
  refine (V1.out _).mono ?_; rintro e w' ⟨rfl, hb1⟩; replace fa := fa.below hb1; replace fb := fb.below hb1; replace hB := hB.trans (hb1.mono hB.size); clear hb1
  obtain ⟨a0, a1, al⟩ := id fa; obtain ⟨b0, b1, bl⟩ := id fb
  go_wp2_with fail
  clear a0 a1 al b0 b1 bl
  refine (V2.out _).mono ?_; rintro e w' ⟨rfl, hb1⟩; replace fa := fa.below hb1; replace fb := fb.below hb1; replace hB := hB.trans (hb1.mono hB.size); clear hb1
  obtain ⟨a0, a1, al⟩ := id fa; obtain ⟨b0, b1, bl⟩ := id fb
  go_wp2_with fail
  clear a0 a1 al b0 b1 bl
  refine (R2.out _ (HE.out.below hB)).mono ?_; rintro e w' ⟨rfl, hb1⟩; replace fa := fa.below hb1; replace fb := fb.below hb1; replace hB := hB.trans (hb1.mono hB.size); clear hb1
  simp only [numV]
  clear fa fb
  go_wp2_with fail
  have fx := numAt_new w' xP xQ 41
  replace hB := hB.alloc hB.size (.cells #[.int .i64 xP, .int .i64 xQ] 41)
  generalize w'.alloc (.cells #[.int .i64 xP, .int .i64 xQ] 41) = W3 at fx hB ⊢
  generalize w'.heap.size = bx at fx ⊢
  refine (T3.out _ (HE.out.below hB)).mono ?_; rintro e w4 ⟨rfl, hb1⟩; replace fx := fx.below hb1; replace hB := hB.trans (hb1.mono hB.size); clear hb1
  obtain ⟨x0, x1, xl⟩ := id fx
  go_wp2_with fail
  clear x0 x1 xl
  refine (V3.out _).mono ?_; rintro e w5 ⟨rfl, hb1⟩; replace fx := fx.below hb1; replace hB := hB.trans (hb1.mono hB.size); clear hb1
  go_wp2_with fail
  refine (awake_any _ (HE.out.toEnv.below hB)).mono ?_; rintro e w6 ⟨rfl, hb1⟩; replace hB := hB.trans (hb1.mono hB.size); clear hb1
  go_wp2_with fail
  go_ret
  exact ⟨rfl, hB⟩

set_option maxRecDepth 100000 in
set_option maxHeartbeats 4000000 in
theorem back_eq_no (aP aQ  : Int) (s TA : ByteArray) (w : World) (he : Env5 w) (hs : s.size ≤ 10000)
    (v1 : ∀ w, Calls Tryd.prog 43 #[.agg #[.int .i64 aP, .int .i64 aQ]] w fun e w' => e = .returned (.bool true) ∧ Below w.heap.size w w')
    (v2 : ∀ w, Calls Tryd.prog 43 #[.agg #[.int .i64 aP, .int .i64 aQ]] w fun e w' => e = .returned (.bool true) ∧ Below w.heap.size w w')
    (t1 : ∀ w, Env5 w → Calls Tryd.prog 37 #[.agg #[.int .i64 aP, .int .i64 aQ]] w fun e w' => e = .returned (.tuple #[.string TA, .int .i64 0]) ∧ Below w.heap.size w w')
    (t2 : ∀ w, Env5 w → Calls Tryd.prog 37 #[.agg #[.int .i64 aP, .int .i64 aQ]] w fun e w' => e = .returned (.tuple #[.string TA, .int .i64 0]) ∧ Below w.heap.size w w')
    (r1 : ∀ w, Env5 w → Calls Tryd.prog 39 #[.string TA] w fun e w' => e = .returned (numV aP aQ 0) ∧ Below w.heap.size w w')
    (r2 : ∀ w, Env5 w → Calls Tryd.prog 39 #[.string s] w fun e w' => e = .returned (numV 0 0 30) ∧ Below w.heap.size w w') :
    Calls Tryd.prog 14 #[.agg #[.int .i64 aP, .int .i64 aQ], .agg #[.int .i64 aP, .int .i64 aQ], .string s] w fun e w' => e = .returned (.bool true) ∧ Below w.heap.size w w' := by
  have HE := Lib.hid he
  have V1 := Lib.hid v1
  have V2 := Lib.hid v2
  have T1 := Lib.hid t1
  have T2 := Lib.hid t2
  have R1 := Lib.hid r1
  have R2 := Lib.hid r2
  clear he v1 v2 t1 t2 r1 r2
  go_enter Tryd.func14, Tryd.ntmps14
  go_wp2_with fail
  have fa := (numAt_new w aP aQ 41).alloc (.cells #[.int .i64 aP, .int .i64 aQ] 41)
  have fb := numAt_new (w.alloc (.cells #[.int .i64 aP, .int .i64 aQ] 41)) aP aQ 41
  rw [show (w.alloc (.cells #[.int .i64 aP, .int .i64 aQ] 41)).heap.size = w.heap.size + 1 by simp] at fb
  have hB := ((Below.refl w.heap.size w).alloc (Nat.le_refl _) (.cells #[.int .i64 aP, .int .i64 aQ] 41)).alloc (by simp) (.cells #[.int .i64 aP, .int .i64 aQ] 41)
  generalize (w.alloc (.cells #[.int .i64 aP, .int .i64 aQ] 41)).alloc (.cells #[.int .i64 aP, .int .i64 aQ] 41) = W at fa fb hB ⊢
  refine (V1.out _).mono ?_; rintro e w' ⟨rfl, hb1⟩; replace fa := fa.below hb1; replace fb := fb.below hb1; replace hB := hB.trans (hb1.mono hB.size); clear hb1
  obtain ⟨a0, a1, al⟩ := id fa; obtain ⟨b0, b1, bl⟩ := id fb
  go_wp2_with fail
  clear a0 a1 al b0 b1 bl
  refine (V2.out _).mono ?_; rintro e w' ⟨rfl, hb1⟩; replace fa := fa.below hb1; replace fb := fb.below hb1; replace hB := hB.trans (hb1.mono hB.size); clear hb1
  obtain ⟨a0, a1, al⟩ := id fa; obtain ⟨b0, b1, bl⟩ := id fb
  go_wp2_with fail
  clear a0 a1 al b0 b1 bl
  refine (T1.out _ (HE.out.below hB)).mono ?_; rintro e w' ⟨rfl, hb1⟩; replace fa := fa.below hb1; replace fb := fb.below hb1; replace hB := hB.trans (hb1.mono hB.size); clear hb1
  obtain ⟨a0, a1, al⟩ := id fa; obtain ⟨b0, b1, bl⟩ := id fb
  go_wp2_with fail
  clear a0 a1 al b0 b1 bl
  refine (T2.out _ (HE.out.below hB)).mono ?_; rintro e w' ⟨rfl, hb1⟩; replace fa := fa.below hb1; replace fb := fb.below hb1; replace hB := hB.trans (hb1.mono hB.size); clear hb1
  obtain ⟨a0, a1, al⟩ := id fa; obtain ⟨b0, b1, bl⟩ := id fb
  go_wp2_with fail
  clear a0 a1 al b0 b1 bl
  refine (R1.out _ (HE.out.below hB)).mono ?_; rintro e w' ⟨rfl, hb1⟩; replace fa := fa.below hb1; replace fb := fb.below hb1; replace hB := hB.trans (hb1.mono hB.size); clear hb1
  simp only [numV]
  obtain ⟨a0, a1, al⟩ := id fa; obtain ⟨b0, b1, bl⟩ := id fb
  go_wp2_with fail
  clear a0 a1 al b0 b1 bl
  replace fa := fa.alloc (.cells #[.int .i64 aP, .int .i64 aQ] 41)
  replace fb := fb.alloc (.cells #[.int .i64 aP, .int .i64 aQ] 41)
  replace hB := hB.alloc hB.size (.cells #[.int .i64 aP, .int .i64 aQ] 41)
  generalize w'.alloc (.cells #[.int .i64 aP, .int .i64 aQ] 41) = W2 at fa fb hB ⊢
  refine (R2.out _ (HE.out.below hB)).mono ?_; rintro e w' ⟨rfl, hb1⟩; replace fa := fa.below hb1; replace fb := fb.below hb1; replace hB := hB.trans (hb1.mono hB.size); clear hb1
  simp only [numV]
  clear fa fb
  go_wp2_with fail
  replace hB := hB.alloc hB.size (.cells #[.int .i64 0, .int .i64 0] 41)
  generalize w'.alloc (.cells #[.int .i64 0, .int .i64 0] 41) = W3 at hB ⊢
  refine (awake_any _ (HE.out.toEnv.below hB)).mono ?_; rintro e w6 ⟨rfl, hb1⟩; replace hB := hB.trans (hb1.mono hB.size); clear hb1
  go_wp2_with fail
  go_ret
  exact ⟨rfl, hB⟩

set_option maxRecDepth 100000 in
set_option maxHeartbeats 4000000 in
theorem back_eq_yes (aP aQ  xP xQ : Int) (s TA : ByteArray) (w : World) (he : Env5 w) (hs : s.size ≤ 10000)
    (v1 : ∀ w, Calls Tryd.prog 43 #[.agg #[.int .i64 aP, .int .i64 aQ]] w fun e w' => e = .returned (.bool true) ∧ Below w.heap.size w w')
    (v2 : ∀ w, Calls Tryd.prog 43 #[.agg #[.int .i64 aP, .int .i64 aQ]] w fun e w' => e = .returned (.bool true) ∧ Below w.heap.size w w')
    (t1 : ∀ w, Env5 w → Calls Tryd.prog 37 #[.agg #[.int .i64 aP, .int .i64 aQ]] w fun e w' => e = .returned (.tuple #[.string TA, .int .i64 0]) ∧ Below w.heap.size w w')
    (t2 : ∀ w, Env5 w → Calls Tryd.prog 37 #[.agg #[.int .i64 aP, .int .i64 aQ]] w fun e w' => e = .returned (.tuple #[.string TA, .int .i64 0]) ∧ Below w.heap.size w w')
    (r1 : ∀ w, Env5 w → Calls Tryd.prog 39 #[.string TA] w fun e w' => e = .returned (numV aP aQ 0) ∧ Below w.heap.size w w')
    (r2 : ∀ w, Env5 w → Calls Tryd.prog 39 #[.string s] w fun e w' => e = .returned (numV xP xQ 0) ∧ Below w.heap.size w w')
    (t3 : ∀ w, Env5 w → Calls Tryd.prog 37 #[.agg #[.int .i64 xP, .int .i64 xQ]] w fun e w' => e = .returned (.tuple #[.string s, .int .i64 0]) ∧ Below w.heap.size w w')
    (v3 : ∀ w, Calls Tryd.prog 43 #[.agg #[.int .i64 xP, .int .i64 xQ]] w fun e w' => e = .returned (.bool true) ∧ Below w.heap.size w w') :
    Calls Tryd.prog 14 #[.agg #[.int .i64 aP, .int .i64 aQ], .agg #[.int .i64 aP, .int .i64 aQ], .string s] w fun e w' => e = .returned (.bool true) ∧ Below w.heap.size w w' := by
  have HE := Lib.hid he
  have V1 := Lib.hid v1
  have V2 := Lib.hid v2
  have T1 := Lib.hid t1
  have T2 := Lib.hid t2
  have R1 := Lib.hid r1
  have R2 := Lib.hid r2
  have T3 := Lib.hid t3
  have V3 := Lib.hid v3
  clear he v1 v2 t1 t2 r1 r2 t3 v3
  go_enter Tryd.func14, Tryd.ntmps14
  go_wp2_with fail
  have fa := (numAt_new w aP aQ 41).alloc (.cells #[.int .i64 aP, .int .i64 aQ] 41)
  have fb := numAt_new (w.alloc (.cells #[.int .i64 aP, .int .i64 aQ] 41)) aP aQ 41
  rw [show (w.alloc (.cells #[.int .i64 aP, .int .i64 aQ] 41)).heap.size = w.heap.size + 1 by simp] at fb
  have hB := ((Below.refl w.heap.size w).alloc (Nat.le_refl _) (.cells #[.int .i64 aP, .int .i64 aQ] 41)).alloc (by simp) (.cells #[.int .i64 aP, .int .i64 aQ] 41)
  generalize (w.alloc (.cells #[.int .i64 aP, .int .i64 aQ] 41)).alloc (.cells #[.int .i64 aP, .int .i64 aQ] 41) = W at fa fb hB ⊢
  refine (V1.out _).mono ?_; rintro e w' ⟨rfl, hb1⟩; replace fa := fa.below hb1; replace fb := fb.below hb1; replace hB := hB.trans (hb1.mono hB.size); clear hb1
  obtain ⟨a0, a1, al⟩ := id fa; obtain ⟨b0, b1, bl⟩ := id fb
  go_wp2_with fail
  clear a0 a1 al b0 b1 bl
  refine (V2.out _).mono ?_; rintro e w' ⟨rfl, hb1⟩; replace fa := fa.below hb1; replace fb := fb.below hb1; replace hB := hB.trans (hb1.mono hB.size); clear hb1
  obtain ⟨a0, a1, al⟩ := id fa; obtain ⟨b0, b1, bl⟩ := id fb
  go_wp2_with fail
  clear a0 a1 al b0 b1 bl
  refine (T1.out _ (HE.out.below hB)).mono ?_; rintro e w' ⟨rfl, hb1⟩; replace fa := fa.below hb1; replace fb := fb.below hb1; replace hB := hB.trans (hb1.mono hB.size); clear hb1
  obtain ⟨a0, a1, al⟩ := id fa; obtain ⟨b0, b1, bl⟩ := id fb
  go_wp2_with fail
  clear a0 a1 al b0 b1 bl
  refine (T2.out _ (HE.out.below hB)).mono ?_; rintro e w' ⟨rfl, hb1⟩; replace fa := fa.below hb1; replace fb := fb.below hb1; replace hB := hB.trans (hb1.mono hB.size); clear hb1
  obtain ⟨a0, a1, al⟩ := id fa; obtain ⟨b0, b1, bl⟩ := id fb
  go_wp2_with fail
  clear a0 a1 al b0 b1 bl
  refine (R1.out _ (HE.out.below hB)).mono ?_; rintro e w' ⟨rfl, hb1⟩; replace fa := fa.below hb1; replace fb := fb.below hb1; replace hB := hB.trans (hb1.mono hB.size); clear hb1
  simp only [numV]
  obtain ⟨a0, a1, al⟩ := id fa; obtain ⟨b0, b1, bl⟩ := id fb
  go_wp2_with fail
  clear a0 a1 al b0 b1 bl
  replace fa := fa.alloc (.cells #[.int .i64 aP, .int .i64 aQ] 41)
  replace fb := fb.alloc (.cells #[.int .i64 aP, .int .i64 aQ] 41)
  replace hB := hB.alloc hB.size (.cells #[.int .i64 aP, .int .i64 aQ] 41)
  generalize w'.alloc (.cells #[.int .i64 aP, .int .i64 aQ] 41) = W2 at fa fb hB ⊢
  refine (R2.out _ (HE.out.below hB)).mono ?_; rintro e w' ⟨rfl, hb1⟩; replace fa := fa.below hb1; replace fb := fb.below hb1; replace hB := hB.trans (hb1.mono hB.size); clear hb1
  simp only [numV]
  clear fa fb
  go_wp2_with fail
  have fx := numAt_new w' xP xQ 41
  replace hB := hB.alloc hB.size (.cells #[.int .i64 xP, .int .i64 xQ] 41)
  generalize w'.alloc (.cells #[.int .i64 xP, .int .i64 xQ] 41) = W3 at fx hB ⊢
  generalize w'.heap.size = bx at fx ⊢
  refine (T3.out _ (HE.out.below hB)).mono ?_; rintro e w4 ⟨rfl, hb1⟩; replace fx := fx.below hb1; replace hB := hB.trans (hb1.mono hB.size); clear hb1
  obtain ⟨x0, x1, xl⟩ := id fx
  go_wp2_with fail
  clear x0 x1 xl
  refine (V3.out _).mono ?_; rintro e w5 ⟨rfl, hb1⟩; replace fx := fx.below hb1; replace hB := hB.trans (hb1.mono hB.size); clear hb1
  go_wp2_with fail
  refine (awake_any _ (HE.out.toEnv.below hB)).mono ?_; rintro e w6 ⟨rfl, hb1⟩; replace hB := hB.trans (hb1.mono hB.size); clear hb1
  go_wp2_with fail
  go_ret
  exact ⟨rfl, hB⟩

set_option maxRecDepth 100000 in
set_option maxHeartbeats 4000000 in
theorem back_np_no (aP aQ bP bQ : Int) (s TA TB : ByteArray) (w : World) (he : Env5 w) (hs : s.size ≤ 10000) (hne : (aP == bP) = false) (hst : (TA.toList == TB.toList) = false)
    (v1 : ∀ w, Calls Tryd.prog 43 #[.agg #[.int .i64 aP, .int .i64 aQ]] w fun e w' => e = .returned (.bool true) ∧ Below w.heap.size w w')
    (v2 : ∀ w, Calls Tryd.prog 43 #[.agg #[.int .i64 bP, .int .i64 bQ]] w fun e w' => e = .returned (.bool true) ∧ Below w.heap.size w w')
    (t1 : ∀ w, Env5 w → Calls Tryd.prog 37 #[.agg #[.int .i64 aP, .int .i64 aQ]] w fun e w' => e = .returned (.tuple #[.string TA, .int .i64 0]) ∧ Below w.heap.size w w')
    (t2 : ∀ w, Env5 w → Calls Tryd.prog 37 #[.agg #[.int .i64 bP, .int .i64 bQ]] w fun e w' => e = .returned (.tuple #[.string TB, .int .i64 0]) ∧ Below w.heap.size w w')
    (r1 : ∀ w, Env5 w → Calls Tryd.prog 39 #[.string TA] w fun e w' => e = .returned (numV aP aQ 0) ∧ Below w.heap.size w w')
    (r2 : ∀ w, Env5 w → Calls Tryd.prog 39 #[.string s] w fun e w' => e = .returned (numV 0 0 30) ∧ Below w.heap.size w w') :
    Calls Tryd.prog 14 #[.agg #[.int .i64 aP, .int .i64 aQ], .agg #[.int .i64 bP, .int .i64 bQ], .string s] w fun e w' => e = .returned (.bool true) ∧ Below w.heap.size w w' := by
  have HE := Lib.hid he
  have V1 := Lib.hid v1
  have V2 := Lib.hid v2
  have T1 := Lib.hid t1
  have T2 := Lib.hid t2
  have R1 := Lib.hid r1
  have R2 := Lib.hid r2
  clear he v1 v2 t1 t2 r1 r2
  go_enter Tryd.func14, Tryd.ntmps14
  go_wp2_with fail
  have fa := (numAt_new w aP aQ 41).alloc (.cells #[.int .i64 bP, .int .i64 bQ] 41)
  have fb := numAt_new (w.alloc (.cells #[.int .i64 aP, .int .i64 aQ] 41)) bP bQ 41
  rw [show (w.alloc (.cells #[.int .i64 aP, .int .i64 aQ] 41)).heap.size = w.heap.size + 1 by simp] at fb
  have hB := ((Below.refl w.heap.size w).alloc (Nat.le_refl _) (.cells #[.int .i64 aP, .int .i64 aQ] 41)).alloc (by simp) (.cells #[.int .i64 bP, .int .i64 bQ] 41)
  generalize (w.alloc (.cells #[.int .i64 aP, .int .i64 aQ] 41)).alloc (.cells #[.int .i64 bP, .int .i64 bQ] 41) = W at fa fb hB ⊢
  refine (V1.out _).mono ?_; rintro e w' ⟨rfl, hb1⟩; replace fa := fa.below hb1; replace fb := fb.below hb1; replace hB := hB.trans (hb1.mono hB.size); clear hb1
  obtain ⟨a0, a1, al⟩ := id fa; obtain ⟨b0, b1, bl⟩ := id fb
  go_wp2_with fail
  clear a0 a1 al b0 b1 bl
  refine (V2.out _).mono ?_; rintro e w' ⟨rfl, hb1⟩; replace fa := fa.below hb1; replace fb := fb.below hb1; replace hB := hB.trans (hb1.mono hB.size); clear hb1
  obtain ⟨a0, a1, al⟩ := id fa; obtain ⟨b0, b1, bl⟩ := id fb
  go_wp2_with fail
  clear a0 a1 al b0 b1 bl
  refine (T1.out _ (HE.out.below hB)).mono ?_; rintro e w' ⟨rfl, hb1⟩; replace fa := fa.below hb1; replace fb := fb.below hb1; replace hB := hB.trans (hb1.mono hB.size); clear hb1
  obtain ⟨a0, a1, al⟩ := id fa; obtain ⟨b0, b1, bl⟩ := id fb
  go_wp2_with fail
  clear a0 a1 al b0 b1 bl
  refine (T2.out _ (HE.out.below hB)).mono ?_; rintro e w' ⟨rfl, hb1⟩; replace fa := fa.below hb1; replace fb := fb.below hb1; replace hB := hB.trans (hb1.mono hB.size); clear hb1
  obtain ⟨a0, a1, al⟩ := id fa; obtain ⟨b0, b1, bl⟩ := id fb
  go_wp2_with fail
  clear a0 a1 al b0 b1 bl
  refine (R1.out _ (HE.out.below hB)).mono ?_; rintro e w' ⟨rfl, hb1⟩; replace fa := fa.below hb1; replace fb := fb.below hb1; replace hB := hB.trans (hb1.mono hB.size); clear hb1
  simp only [numV]
  obtain ⟨a0, a1, al⟩ := id fa; obtain ⟨b0, b1, bl⟩ := id fb
  go_wp2_with fail
  clear a0 a1 al b0 b1 bl
  replace fa := fa.alloc (.cells #[.int .i64 aP, .int .i64 aQ] 41)
  replace fb := fb.alloc (.cells #[.int .i64 aP, .int .i64 aQ] 41)
  replace hB := hB.alloc hB.size (.cells #[.int .i64 aP, .int .i64 aQ] 41)
  generalize w'.alloc (.cells #[.int .i64 aP, .int .i64 aQ] 41) = W2 at fa fb hB ⊢
  refine (R2.out _ (HE.out.below hB)).mono ?_; rintro e w' ⟨rfl, hb1⟩; replace fa := fa.below hb1; replace fb := fb.below hb1; replace hB := hB.trans (hb1.mono hB.size); clear hb1
  simp only [numV]
  clear fa fb
  go_wp2_with fail
  replace hB := hB.alloc hB.size (.cells #[.int .i64 0, .int .i64 0] 41)
  generalize w'.alloc (.cells #[.int .i64 0, .int .i64 0] 41) = W3 at hB ⊢
  refine (awake_any _ (HE.out.toEnv.below hB)).mono ?_; rintro e w6 ⟨rfl, hb1⟩; replace hB := hB.trans (hb1.mono hB.size); clear hb1
  go_wp2_with fail
  go_ret
  exact ⟨rfl, hB⟩

set_option maxRecDepth 100000 in
set_option maxHeartbeats 4000000 in
theorem back_np_yes (aP aQ bP bQ xP xQ : Int) (s TA TB : ByteArray) (w : World) (he : Env5 w) (hs : s.size ≤ 10000) (hne : (aP == bP) = false) (hst : (TA.toList == TB.toList) = false)
    (v1 : ∀ w, Calls Tryd.prog 43 #[.agg #[.int .i64 aP, .int .i64 aQ]] w fun e w' => e = .returned (.bool true) ∧ Below w.heap.size w w')
    (v2 : ∀ w, Calls Tryd.prog 43 #[.agg #[.int .i64 bP, .int .i64 bQ]] w fun e w' => e = .returned (.bool true) ∧ Below w.heap.size w w')
    (t1 : ∀ w, Env5 w → Calls Tryd.prog 37 #[.agg #[.int .i64 aP, .int .i64 aQ]] w fun e w' => e = .returned (.tuple #[.string TA, .int .i64 0]) ∧ Below w.heap.size w w')
    (t2 : ∀ w, Env5 w → Calls Tryd.prog 37 #[.agg #[.int .i64 bP, .int .i64 bQ]] w fun e w' => e = .returned (.tuple #[.string TB, .int .i64 0]) ∧ Below w.heap.size w w')
    (r1 : ∀ w, Env5 w → Calls Tryd.prog 39 #[.string TA] w fun e w' => e = .returned (numV aP aQ 0) ∧ Below w.heap.size w w')
    (r2 : ∀ w, Env5 w → Calls Tryd.prog 39 #[.string s] w fun e w' => e = .returned (numV xP xQ 0) ∧ Below w.heap.size w w')
    (t3 : ∀ w, Env5 w → Calls Tryd.prog 37 #[.agg #[.int .i64 xP, .int .i64 xQ]] w fun e w' => e = .returned (.tuple #[.string s, .int .i64 0]) ∧ Below w.heap.size w w')
    (v3 : ∀ w, Calls Tryd.prog 43 #[.agg #[.int .i64 xP, .int .i64 xQ]] w fun e w' => e = .returned (.bool true) ∧ Below w.heap.size w w') :
    Calls Tryd.prog 14 #[.agg #[.int .i64 aP, .int .i64 aQ], .agg #[.int .i64 bP, .int .i64 bQ], .string s] w fun e w' => e = .returned (.bool true) ∧ Below w.heap.size w w' := by
  have HE := Lib.hid he
  have V1 := Lib.hid v1
  have V2 := Lib.hid v2
  have T1 := Lib.hid t1
  have T2 := Lib.hid t2
  have R1 := Lib.hid r1
  have R2 := Lib.hid r2
  have T3 := Lib.hid t3
  have V3 := Lib.hid v3
  clear he v1 v2 t1 t2 r1 r2 t3 v3
  go_enter Tryd.func14, Tryd.ntmps14
  go_wp2_with fail
  have fa := (numAt_new w aP aQ 41).alloc (.cells #[.int .i64 bP, .int .i64 bQ] 41)
  have fb := numAt_new (w.alloc (.cells #[.int .i64 aP, .int .i64 aQ] 41)) bP bQ 41
  rw [show (w.alloc (.cells #[.int .i64 aP, .int .i64 aQ] 41)).heap.size = w.heap.size + 1 by simp] at fb
  have hB := ((Below.refl w.heap.size w).alloc (Nat.le_refl _) (.cells #[.int .i64 aP, .int .i64 aQ] 41)).alloc (by simp) (.cells #[.int .i64 bP, .int .i64 bQ] 41)
  generalize (w.alloc (.cells #[.int .i64 aP, .int .i64 aQ] 41)).alloc (.cells #[.int .i64 bP, .int .i64 bQ] 41) = W at fa fb hB ⊢
  refine (V1.out _).mono ?_; rintro e w' ⟨rfl, hb1⟩; replace fa := fa.below hb1; replace fb := fb.below hb1; replace hB := hB.trans (hb1.mono hB.size); clear hb1
  obtain ⟨a0, a1, al⟩ := id fa; obtain ⟨b0, b1, bl⟩ := id fb
  go_wp2_with fail
  clear a0 a1 al b0 b1 bl
  refine (V2.out _).mono ?_; rintro e w' ⟨rfl, hb1⟩; replace fa := fa.below hb1; replace fb := fb.below hb1; replace hB := hB.trans (hb1.mono hB.size); clear hb1
  obtain ⟨a0, a1, al⟩ := id fa; obtain ⟨b0, b1, bl⟩ := id fb
  go_wp2_with fail
  clear a0 a1 al b0 b1 bl
  refine (T1.out _ (HE.out.below hB)).mono ?_; rintro e w' ⟨rfl, hb1⟩; replace fa := fa.below hb1; replace fb := fb.below hb1; replace hB := hB.trans (hb1.mono hB.size); clear hb1
  obtain ⟨a0, a1, al⟩ := id fa; obtain ⟨b0, b1, bl⟩ := id fb
  go_wp2_with fail
  clear a0 a1 al b0 b1 bl
  refine (T2.out _ (HE.out.below hB)).mono ?_; rintro e w' ⟨rfl, hb1⟩; replace fa := fa.below hb1; replace fb := fb.below hb1; replace hB := hB.trans (hb1.mono hB.size); clear hb1
  obtain ⟨a0, a1, al⟩ := id fa; obtain ⟨b0, b1, bl⟩ := id fb
  go_wp2_with fail
  clear a0 a1 al b0 b1 bl
  refine (R1.out _ (HE.out.below hB)).mono ?_; rintro e w' ⟨rfl, hb1⟩; replace fa := fa.below hb1; replace fb := fb.below hb1; replace hB := hB.trans (hb1.mono hB.size); clear hb1
  simp only [numV]
  obtain ⟨a0, a1, al⟩ := id fa; obtain ⟨b0, b1, bl⟩ := id fb
  go_wp2_with fail
  clear a0 a1 al b0 b1 bl
  replace fa := fa.alloc (.cells #[.int .i64 aP, .int .i64 aQ] 41)
  replace fb := fb.alloc (.cells #[.int .i64 aP, .int .i64 aQ] 41)
  replace hB := hB.alloc hB.size (.cells #[.int .i64 aP, .int .i64 aQ] 41)
  generalize w'.alloc (.cells #[.int .i64 aP, .int .i64 aQ] 41) = W2 at fa fb hB ⊢
  refine (R2.out _ (HE.out.below hB)).mono ?_; rintro e w' ⟨rfl, hb1⟩; replace fa := fa.below hb1; replace fb := fb.below hb1; replace hB := hB.trans (hb1.mono hB.size); clear hb1
  simp only [numV]
  clear fa fb
  go_wp2_with fail
  have fx := numAt_new w' xP xQ 41
  replace hB := hB.alloc hB.size (.cells #[.int .i64 xP, .int .i64 xQ] 41)
  generalize w'.alloc (.cells #[.int .i64 xP, .int .i64 xQ] 41) = W3 at fx hB ⊢
  generalize w'.heap.size = bx at fx ⊢
  refine (T3.out _ (HE.out.below hB)).mono ?_; rintro e w4 ⟨rfl, hb1⟩; replace fx := fx.below hb1; replace hB := hB.trans (hb1.mono hB.size); clear hb1
  obtain ⟨x0, x1, xl⟩ := id fx
  go_wp2_with fail
  clear x0 x1 xl
  refine (V3.out _).mono ?_; rintro e w5 ⟨rfl, hb1⟩; replace fx := fx.below hb1; replace hB := hB.trans (hb1.mono hB.size); clear hb1
  go_wp2_with fail
  refine (awake_any _ (HE.out.toEnv.below hB)).mono ?_; rintro e w6 ⟨rfl, hb1⟩; replace hB := hB.trans (hb1.mono hB.size); clear hb1
  go_wp2_with fail
  go_ret
  exact ⟨rfl, hB⟩

set_option maxRecDepth 100000 in
set_option maxHeartbeats 4000000 in
theorem back_nq_no (aP aQ bQ : Int) (s TA TB : ByteArray) (w : World) (he : Env5 w) (hs : s.size ≤ 10000) (hne : (aQ == bQ) = false) (hst : (TA.toList == TB.toList) = false)
    (v1 : ∀ w, Calls Tryd.prog 43 #[.agg #[.int .i64 aP, .int .i64 aQ]] w fun e w' => e = .returned (.bool true) ∧ Below w.heap.size w w')
    (v2 : ∀ w, Calls Tryd.prog 43 #[.agg #[.int .i64 aP, .int .i64 bQ]] w fun e w' => e = .returned (.bool true) ∧ Below w.heap.size w w')
    (t1 : ∀ w, Env5 w → Calls Tryd.prog 37 #[.agg #[.int .i64 aP, .int .i64 aQ]] w fun e w' => e = .returned (.tuple #[.string TA, .int .i64 0]) ∧ Below w.heap.size w w')
    (t2 : ∀ w, Env5 w → Calls Tryd.prog 37 #[.agg #[.int .i64 aP, .int .i64 bQ]] w fun e w' => e = .returned (.tuple #[.string TB, .int .i64 0]) ∧ Below w.heap.size w w')
    (r1 : ∀ w, Env5 w → Calls Tryd.prog 39 #[.string TA] w fun e w' => e = .returned (numV aP aQ 0) ∧ Below w.heap.size w w')
    (r2 : ∀ w, Env5 w → Calls Tryd.prog 39 #[.string s] w fun e w' => e = .returned (numV 0 0 30) ∧ Below w.heap.size w w') :
    Calls Tryd.prog 14 #[.agg #[.int .i64 aP, .int .i64 aQ], .agg #[.int .i64 aP, .int .i64 bQ], .string s] w fun e w' => e = .returned (.bool true) ∧ Below w.heap.size w w' := by
  have HE := Lib.hid he
  have V1 := Lib.hid v1
  have V2 := Lib.hid v2
  have T1 := Lib.hid t1
  have T2 := Lib.hid t2
  have R1 := Lib.hid r1
  have R2 := Lib.hid r2
  clear he v1 v2 t1 t2 r1 r2
  go_enter Tryd.func14, Tryd.ntmps14
  go_wp2_with fail
  have fa := (numAt_new w aP aQ 41).alloc (.cells #[.int .i64 aP, .int .i64 bQ] 41)
  have fb := numAt_new (w.alloc (.cells #[.int .i64 aP, .int .i64 aQ] 41)) aP bQ 41
  rw [show (w.alloc (.cells #[.int .i64 aP, .int .i64 aQ] 41)).heap.size = w.heap.size + 1 by simp] at fb
  have hB := ((Below.refl w.heap.size w).alloc (Nat.le_refl _) (.cells #[.int .i64 aP, .int .i64 aQ] 41)).alloc (by simp) (.cells #[.int .i64 aP, .int .i64 bQ] 41)
  generalize (w.alloc (.cells #[.int .i64 aP, .int .i64 aQ] 41)).alloc (.cells #[.int .i64 aP, .int .i64 bQ] 41) = W at fa fb hB ⊢
  refine (V1.out _).mono ?_; rintro e w' ⟨rfl, hb1⟩; replace fa := fa.below hb1; replace fb := fb.below hb1; replace hB := hB.trans (hb1.mono hB.size); clear hb1
  obtain ⟨a0, a1, al⟩ := id fa; obtain ⟨b0, b1, bl⟩ := id fb
  go_wp2_with fail
  clear a0 a1 al b0 b1 bl
  refine (V2.out _).mono ?_; rintro e w' ⟨rfl, hb1⟩; replace fa := fa.below hb1; replace fb := fb.below hb1; replace hB := hB.trans (hb1.mono hB.size); clear hb1
  obtain ⟨a0, a1, al⟩ := id fa; obtain ⟨b0, b1, bl⟩ := id fb
  go_wp2_with fail
  clear a0 a1 al b0 b1 bl
  refine (T1.out _ (HE.out.below hB)).mono ?_; rintro e w' ⟨rfl, hb1⟩; replace fa := fa.below hb1; replace fb := fb.below hb1; replace hB := hB.trans (hb1.mono hB.size); clear hb1
  obtain ⟨a0, a1, al⟩ := id fa; obtain ⟨b0, b1, bl⟩ := id fb
  go_wp2_with fail
  clear a0 a1 al b0 b1 bl
  refine (T2.out _ (HE.out.below hB)).mono ?_; rintro e w' ⟨rfl, hb1⟩; replace fa := fa.below hb1; replace fb := fb.below hb1; replace hB := hB.trans (hb1.mono hB.size); clear hb1
  obtain ⟨a0, a1, al⟩ := id fa; obtain ⟨b0, b1, bl⟩ := id fb
  go_wp2_with fail
  clear a0 a1 al b0 b1 bl
  refine (R1.out _ (HE.out.below hB)).mono ?_; rintro e w' ⟨rfl, hb1⟩; replace fa := fa.below hb1; replace fb := fb.below hb1; replace hB := hB.trans (hb1.mono hB.size); clear hb1
  simp only [numV]
  obtain ⟨a0, a1, al⟩ := id fa; obtain ⟨b0, b1, bl⟩ := id fb
  go_wp2_with fail
  clear a0 a1 al b0 b1 bl
  replace fa := fa.alloc (.cells #[.int .i64 aP, .int .i64 aQ] 41)
  replace fb := fb.alloc (.cells #[.int .i64 aP, .int .i64 aQ] 41)
  replace hB := hB.alloc hB.size (.cells #[.int .i64 aP, .int .i64 aQ] 41)
  generalize w'.alloc (.cells #[.int .i64 aP, .int .i64 aQ] 41) = W2 at fa fb hB ⊢
  refine (R2.out _ (HE.out.below hB)).mono ?_; rintro e w' ⟨rfl, hb1⟩; replace fa := fa.below hb1; replace fb := fb.below hb1; replace hB := hB.trans (hb1.mono hB.size); clear hb1
  simp only [numV]
  clear fa fb
  go_wp2_with fail
  replace hB := hB.alloc hB.size (.cells #[.int .i64 0, .int .i64 0] 41)
  generalize w'.alloc (.cells #[.int .i64 0, .int .i64 0] 41) = W3 at hB ⊢
  refine (awake_any _ (HE.out.toEnv.below hB)).mono ?_; rintro e w6 ⟨rfl, hb1⟩; replace hB := hB.trans (hb1.mono hB.size); clear hb1
  go_wp2_with fail
  go_ret
  exact ⟨rfl, hB⟩

set_option maxRecDepth 100000 in
set_option maxHeartbeats 4000000 in
theorem back_nq_yes (aP aQ bQ xP xQ : Int) (s TA TB : ByteArray) (w : World) (he : Env5 w) (hs : s.size ≤ 10000) (hne : (aQ == bQ) = false) (hst : (TA.toList == TB.toList) = false)
    (v1 : ∀ w, Calls Tryd.prog 43 #[.agg #[.int .i64 aP, .int .i64 aQ]] w fun e w' => e = .returned (.bool true) ∧ Below w.heap.size w w')
    (v2 : ∀ w, Calls Tryd.prog 43 #[.agg #[.int .i64 aP, .int .i64 bQ]] w fun e w' => e = .returned (.bool true) ∧ Below w.heap.size w w')
    (t1 : ∀ w, Env5 w → Calls Tryd.prog 37 #[.agg #[.int .i64 aP, .int .i64 aQ]] w fun e w' => e = .returned (.tuple #[.string TA, .int .i64 0]) ∧ Below w.heap.size w w')
    (t2 : ∀ w, Env5 w → Calls Tryd.prog 37 #[.agg #[.int .i64 aP, .int .i64 bQ]] w fun e w' => e = .returned (.tuple #[.string TB, .int .i64 0]) ∧ Below w.heap.size w w')
    (r1 : ∀ w, Env5 w → Calls Tryd.prog 39 #[.string TA] w fun e w' => e = .returned (numV aP aQ 0) ∧ Below w.heap.size w w')
    (r2 : ∀ w, Env5 w → Calls Tryd.prog 39 #[.string s] w fun e w' => e = .returned (numV xP xQ 0) ∧ Below w.heap.size w w')
    (t3 : ∀ w, Env5 w → Calls Tryd.prog 37 #[.agg #[.int .i64 xP, .int .i64 xQ]] w fun e w' => e = .returned (.tuple #[.string s, .int .i64 0]) ∧ Below w.heap.size w w')
    (v3 : ∀ w, Calls Tryd.prog 43 #[.agg #[.int .i64 xP, .int .i64 xQ]] w fun e w' => e = .returned (.bool true) ∧ Below w.heap.size w w') :
    Calls Tryd.prog 14 #[.agg #[.int .i64 aP, .int .i64 aQ], .agg #[.int .i64 aP, .int .i64 bQ], .string s] w fun e w' => e = .returned (.bool true) ∧ Below w.heap.size w w' := by
  have HE := Lib.hid he
  have V1 := Lib.hid v1
  have V2 := Lib.hid v2
  have T1 := Lib.hid t1
  have T2 := Lib.hid t2
  have R1 := Lib.hid r1
  have R2 := Lib.hid r2
  have T3 := Lib.hid t3
  have V3 := Lib.hid v3
  clear he v1 v2 t1 t2 r1 r2 t3 v3
  go_enter Tryd.func14, Tryd.ntmps14
  go_wp2_with fail
  have fa := (numAt_new w aP aQ 41).alloc (.cells #[.int .i64 aP, .int .i64 bQ] 41)
  have fb := numAt_new (w.alloc (.cells #[.int .i64 aP, .int .i64 aQ] 41)) aP bQ 41
  rw [show (w.alloc (.cells #[.int .i64 aP, .int .i64 aQ] 41)).heap.size = w.heap.size + 1 by simp] at fb
  have hB := ((Below.refl w.heap.size w).alloc (Nat.le_refl _) (.cells #[.int .i64 aP, .int .i64 aQ] 41)).alloc (by simp) (.cells #[.int .i64 aP, .int .i64 bQ] 41)
  generalize (w.alloc (.cells #[.int .i64 aP, .int .i64 aQ] 41)).alloc (.cells #[.int .i64 aP, .int .i64 bQ] 41) = W at fa fb hB ⊢
  refine (V1.out _).mono ?_; rintro e w' ⟨rfl, hb1⟩; replace fa := fa.below hb1; replace fb := fb.below hb1; replace hB := hB.trans (hb1.mono hB.size); clear hb1
  obtain ⟨a0, a1, al⟩ := id fa; obtain ⟨b0, b1, bl⟩ := id fb
  go_wp2_with fail
  clear a0 a1 al b0 b1 bl
  refine (V2.out _).mono ?_; rintro e w' ⟨rfl, hb1⟩; replace fa := fa.below hb1; replace fb := fb.below hb1; replace hB := hB.trans (hb1.mono hB.size); clear hb1
  obtain ⟨a0, a1, al⟩ := id fa; obtain ⟨b0, b1, bl⟩ := id fb
  go_wp2_with fail
  clear a0 a1 al b0 b1 bl
  refine (T1.out _ (HE.out.below hB)).mono ?_; rintro e w' ⟨rfl, hb1⟩; replace fa := fa.below hb1; replace fb := fb.below hb1; replace hB := hB.trans (hb1.mono hB.size); clear hb1
  obtain ⟨a0, a1, al⟩ := id fa; obtain ⟨b0, b1, bl⟩ := id fb
  go_wp2_with fail
  clear a0 a1 al b0 b1 bl
  refine (T2.out _ (HE.out.below hB)).mono ?_; rintro e w' ⟨rfl, hb1⟩; replace fa := fa.below hb1; replace fb := fb.below hb1; replace hB := hB.trans (hb1.mono hB.size); clear hb1
  obtain ⟨a0, a1, al⟩ := id fa; obtain ⟨b0, b1, bl⟩ := id fb
  go_wp2_with fail
  clear a0 a1 al b0 b1 bl
  refine (R1.out _ (HE.out.below hB)).mono ?_; rintro e w' ⟨rfl, hb1⟩; replace fa := fa.below hb1; replace fb := fb.below hb1; replace hB := hB.trans (hb1.mono hB.size); clear hb1
  simp only [numV]
  obtain ⟨a0, a1, al⟩ := id fa; obtain ⟨b0, b1, bl⟩ := id fb
  go_wp2_with fail
  clear a0 a1 al b0 b1 bl
  replace fa := fa.alloc (.cells #[.int .i64 aP, .int .i64 aQ] 41)
  replace fb := fb.alloc (.cells #[.int .i64 aP, .int .i64 aQ] 41)
  replace hB := hB.alloc hB.size (.cells #[.int .i64 aP, .int .i64 aQ] 41)
  generalize w'.alloc (.cells #[.int .i64 aP, .int .i64 aQ] 41) = W2 at fa fb hB ⊢
  refine (R2.out _ (HE.out.below hB)).mono ?_; rintro e w' ⟨rfl, hb1⟩; replace fa := fa.below hb1; replace fb := fb.below hb1; replace hB := hB.trans (hb1.mono hB.size); clear hb1
  simp only [numV]
  clear fa fb
  go_wp2_with fail
  have fx := numAt_new w' xP xQ 41
  replace hB := hB.alloc hB.size (.cells #[.int .i64 xP, .int .i64 xQ] 41)
  generalize w'.alloc (.cells #[.int .i64 xP, .int .i64 xQ] 41) = W3 at fx hB ⊢
  generalize w'.heap.size = bx at fx ⊢
  refine (T3.out _ (HE.out.below hB)).mono ?_; rintro e w4 ⟨rfl, hb1⟩; replace fx := fx.below hb1; replace hB := hB.trans (hb1.mono hB.size); clear hb1
  obtain ⟨x0, x1, xl⟩ := id fx
  go_wp2_with fail
  clear x0 x1 xl
  refine (V3.out _).mono ?_; rintro e w5 ⟨rfl, hb1⟩; replace fx := fx.below hb1; replace hB := hB.trans (hb1.mono hB.size); clear hb1
  go_wp2_with fail
  refine (awake_any _ (HE.out.toEnv.below hB)).mono ?_; rintro e w6 ⟨rfl, hb1⟩; replace hB := hB.trans (hb1.mono hB.size); clear hb1
  go_wp2_with fail
  go_ret
  exact ⟨rfl, hB⟩

set_option maxRecDepth 100000 in
set_option maxHeartbeats 2000000 in
theorem back_long (aP aQ bP bQ : Int) (s : ByteArray) (w : World) (he : Env5 w) (hs : 10000 < s.size) (_ws : s.size ≤ maxLen) :
    Calls Tryd.prog 14 #[.agg #[.int .i64 aP, .int .i64 aQ], .agg #[.int .i64 bP, .int .i64 bQ], .string s] w fun e w' => e = .returned (.bool true) ∧ Below w.heap.size w w' := by
  have HE := Lib.hid he
  clear he
  go_enter Tryd.func14, Tryd.ntmps14
  go_wp2_with fail
  have hB := ((Below.refl w.heap.size w).alloc (Nat.le_refl _) (.cells #[.int .i64 aP, .int .i64 aQ] 41)).alloc (by simp) (.cells #[.int .i64 bP, .int .i64 bQ] 41)
  refine (awake_any _ (HE.out.toEnv.below hB)).mono ?_; rintro e w6 ⟨rfl, hb1⟩; replace hB := hB.trans (hb1.mono hB.size); clear hb1
  go_wp2_with fail
  go_ret
  exact ⟨rfl, hB⟩

theorem txt_size {p q : Int} (hv : Nm.vld p q = true) : (⟨(txt p q).toArray⟩ : ByteArray).size ≤ 10000 := by
  obtain ⟨a1, a2, a3, a4⟩ := vld_bd hv
  have l1 := Lib.itoa_length_le p (by omega) (by omega)
  have l2 := Lib.itoa_length_le q (by omega) (by omega)
  rw [Lib.size_eq]
  unfold txt
  split <;> simp <;> omega
theorem strs_ne {p q p' q' : Int} (hv : Nm.vld p q = true) (hv' : Nm.vld p' q' = true) (h : ¬ (p = p' ∧ q = q')) : ((⟨(txt p q).toArray⟩ : ByteArray).toList == (⟨(txt p' q').toArray⟩ : ByteArray).toList) = false := by
  rw [beq_eq_false_iff_ne, Lib.toList_data, Lib.toList_data]
  intro e
  exact h (txt_inj hv hv' (by simpa using e))
theorem numBack_walk (aP aQ bP bQ : Int) (s : ByteArray) (w : World) (he : Env5 w) (h1 : -9223372036854775808 ≤ aP) (h2 : aP ≤ 9223372036854775807) (h3 : -9223372036854775808 ≤ aQ) (h4 : aQ ≤ 9223372036854775807) (k1 : -9223372036854775808 ≤ bP) (k2 : bP ≤ 9223372036854775807) (k3 : -9223372036854775808 ≤ bQ) (k4 : bQ ≤ 9223372036854775807) (ws : s.size ≤ maxLen) :
    Calls Tryd.prog 14 #[.agg #[.int .i64 aP, .int .i64 aQ], .agg #[.int .i64 bP, .int .i64 bQ], .string s] w fun e w' => e = .returned (.bool true) ∧ Below w.heap.size w w' := by
  by_cases hs : s.size ≤ 10000
  case neg => exact back_long aP aQ bP bQ s w he (by omega) ws
  have v1 := fun w => rvalid_any aP aQ w h1 h2 h3 h4
  have v2 := fun w => rvalid_any bP bQ w k1 k2 k3 k4
  by_cases hy : ∃ p q, Nm.vld p q = true ∧ txt p q = s.data.toList
  · obtain ⟨xP, xQ, hvx, hx⟩ := hy
    obtain ⟨x1, x2, x3, x4⟩ := vld_bd hvx
    have r2 := fun w he => nparse_yes s w he hs xP xQ hvx hx
    have t3 : ∀ w, Env5 w → Calls Tryd.prog 37 #[.agg #[.int .i64 xP, .int .i64 xQ]] w fun e w' => e = .returned (.tuple #[.string s, .int .i64 0]) ∧ Below w.heap.size w w' := fun w he => by
      have := text_ok xP xQ w he.toEnv hvx
      rwa [hx, show (⟨s.data.toList.toArray⟩ : ByteArray) = s by apply ByteArray.ext; simp] at this
    have v3 : ∀ w, Calls Tryd.prog 43 #[.agg #[.int .i64 xP, .int .i64 xQ]] w fun e w' => e = .returned (.bool true) ∧ Below w.heap.size w w' := fun w => by
      have := rvalid_any xP xQ w (by omega) (by omega) (by omega) (by omega)
      rwa [hvx] at this
    cases hva : Nm.vld aP aQ
    · rw [hva] at v1
      exact back_na_yes aP aQ bP bQ xP xQ _ s w he hs v1 v2 r2 t3 v3
    cases hvb : Nm.vld bP bQ
    · rw [hva] at v1; rw [hvb] at v2
      exact back_nb_yes aP aQ bP bQ xP xQ s w he hs v1 v2 r2 t3 v3
    rw [hva] at v1; rw [hvb] at v2
    have t1 := fun w (he : Env5 w) => text_ok aP aQ w he.toEnv hva
    have t2 := fun w (he : Env5 w) => text_ok bP bQ w he.toEnv hvb
    have r1 := fun w he => nparse_yes ⟨(txt aP aQ).toArray⟩ w he (txt_size hva) aP aQ hva (by simp)
    by_cases e1 : aP = bP
    · subst e1
      by_cases e2 : aQ = bQ
      · subst e2
        exact back_eq_yes aP aQ xP xQ s _ w he hs v1 v2 t1 t2 r1 r2 t3 v3
      · exact back_nq_yes aP aQ bQ xP xQ s _ _ w he hs (by simpa using e2) (strs_ne hva hvb (fun h => e2 h.2)) v1 v2 t1 t2 r1 r2 t3 v3
    · exact back_np_yes aP aQ bP bQ xP xQ s _ _ w he hs (by simpa using e1) (strs_ne hva hvb (fun h => e1 h.1)) v1 v2 t1 t2 r1 r2 t3 v3
  · have r2 := fun w he => nparse_no s w he hs (fun p q hv h => hy ⟨p, q, hv, h⟩)
    cases hva : Nm.vld aP aQ
    · rw [hva] at v1
      exact back_na_no aP aQ bP bQ _ s w he hs v1 v2 r2
    cases hvb : Nm.vld bP bQ
    · rw [hva] at v1; rw [hvb] at v2
      exact back_nb_no aP aQ bP bQ s w he hs v1 v2 r2
    rw [hva] at v1; rw [hvb] at v2
    have t1 := fun w (he : Env5 w) => text_ok aP aQ w he.toEnv hva
    have t2 := fun w (he : Env5 w) => text_ok bP bQ w he.toEnv hvb
    have r1 := fun w he => nparse_yes ⟨(txt aP aQ).toArray⟩ w he (txt_size hva) aP aQ hva (by simp)
    by_cases e1 : aP = bP
    · subst e1
      by_cases e2 : aQ = bQ
      · subst e2
        exact back_eq_no aP aQ s _ w he hs v1 v2 t1 t2 r1 r2
      · exact back_nq_no aP aQ bQ s _ _ w he hs (by simpa using e2) (strs_ne hva hvb (fun h => e2 h.2)) v1 v2 t1 t2 r1 r2
    · exact back_np_no aP aQ bP bQ s _ _ w he hs (by simpa using e1) (strs_ne hva hvb (fun h => e1 h.1)) v1 v2 t1 t2 r1 r2
end Go.Proofs.YtanhomngnickfaaDoor
