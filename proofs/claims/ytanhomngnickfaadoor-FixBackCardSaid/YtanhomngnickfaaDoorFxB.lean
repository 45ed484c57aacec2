/-
  Contracts of package fix and of the reference: products and quotients.
-/
-- LAW 02
import Derived.Test.YtanhomngnickfaaDoorFxA
namespace Go.Proofs.YtanhomngnickfaaDoor
open Go.RowKit

set_option maxHeartbeats 400000 in
theorem mul_any (a b : Int) (w : World) : Calls Tryd.prog 15 #[.int .i64 a, .int .i64 b] w fun e w' => e = .returned (.tuple #[.int .i64 (Fx.mulN a b), .int .i64 (Fx.mulE a b)]) ∧ Below w.heap.size w w' := by
  cases hv : (Fx.fxd a && Fx.fxd b)
  · have HV := Lib.hid hv
    clear hv
    rw [Fx.mulN, Fx.mulE, HV.out, if_neg (by decide), if_neg (by decide)]
    go_enter Tryd.func15, Tryd.ntmps15
    go_wp2_with fail
    refine (fixed2_any _ a b _ (by simp) (by simp [go_sem]) (by simp [go_sem])).mono ?_; rintro e w' ⟨rfl, hb⟩; have hsz := hb.size; simp at hsz
    rw [HV.out]
    go_wp2_with fail
    go_ret2
    exact ⟨rfl, (by repeat (first | exact Below.refl _ _ | refine Below.setCell ?_ (by first | (simp; done) | (simp; omega) | omega) _ | refine below_drewN ?_ _ | refine Below.alloc ?_ (by first | (simp; done) | (simp; omega) | omega) _ | refine Below.trans ?_ (hb2.mono (by first | (simp; done) | (simp; omega) | omega)) | refine Below.trans ?_ (hb.mono (by first | (simp; done) | (simp; omega) | omega))))⟩
  · have HV := Lib.hid hv
    obtain ⟨⟨x1, x2⟩, y1, y2⟩ := Fx.and_bd hv
    obtain ⟨z1, z2⟩ := Fx.mul_bd a b x1 x2 y1 y2
    have w1 : IntKind.i64.wrap (a * b) = a * b := IntWalk.i64_in _ (by omega)
    clear hv
    rw [Fx.mulN, Fx.mulE, HV.out, if_pos rfl, if_pos rfl]
    go_enter Tryd.func15, Tryd.ntmps15
    go_wp2_with fail
    refine (fixed2_any _ a b _ (by simp) (by simp [go_sem]) (by simp [go_sem])).mono ?_; rintro e w' ⟨rfl, hb⟩; have hsz := hb.size; simp at hsz
    rw [HV.out]
    go_wp2_with fail
    refine (rounded_any (a * b) 65536 _ (by omega) (by omega) (by omega) (by omega) (by omega) (by omega)).mono ?_; rintro e w1 ⟨rfl, rfl⟩
    go_wp2_with fail
    refine (bounded_any (Fx.rnd (a * b) 65536) _).mono ?_; rintro e w2 ⟨rfl, hb2⟩
    go_wp2_with fail
    go_ret2
    exact ⟨rfl, (by repeat (first | exact Below.refl _ _ | refine Below.setCell ?_ (by first | (simp; done) | (simp; omega) | omega) _ | refine below_drewN ?_ _ | refine Below.alloc ?_ (by first | (simp; done) | (simp; omega) | omega) _ | refine Below.trans ?_ (hb2.mono (by first | (simp; done) | (simp; omega) | omega)) | refine Below.trans ?_ (hb.mono (by first | (simp; done) | (simp; omega) | omega))))⟩

set_option maxHeartbeats 400000 in
theorem rmul_any (a b : Int) (w : World) : Calls Tryd.prog 16 #[.int .i64 a, .int .i64 b] w fun e w' => e = .returned (.tuple #[.int .i64 (Fx.mulN a b), .int .i64 (Fx.mulE a b)]) ∧ Below w.heap.size w w' := by
  cases hv : (Fx.fxd a && Fx.fxd b)
  · have HV := Lib.hid hv
    clear hv
    rw [Fx.mulN, Fx.mulE, HV.out, if_neg (by decide), if_neg (by decide)]
    go_enter Tryd.func16, Tryd.ntmps16
    go_wp2_with fail
    refine (is2_any _ a b _ (by simp) (by simp [go_sem]) (by simp [go_sem])).mono ?_; rintro e w' ⟨rfl, hb⟩; have hsz := hb.size; simp at hsz
    rw [HV.out]
    go_wp2_with fail
    go_ret2
    exact ⟨rfl, (by repeat (first | exact Below.refl _ _ | refine Below.setCell ?_ (by first | (simp; done) | (simp; omega) | omega) _ | refine below_drewN ?_ _ | refine Below.alloc ?_ (by first | (simp; done) | (simp; omega) | omega) _ | refine Below.trans ?_ (hb2.mono (by first | (simp; done) | (simp; omega) | omega)) | refine Below.trans ?_ (hb.mono (by first | (simp; done) | (simp; omega) | omega))))⟩
  · have HV := Lib.hid hv
    obtain ⟨⟨x1, x2⟩, y1, y2⟩ := Fx.and_bd hv
    obtain ⟨z1, z2⟩ := Fx.mul_bd a b x1 x2 y1 y2
    have w1 : IntKind.i64.wrap (a * b) = a * b := IntWalk.i64_in _ (by omega)
    clear hv
    rw [Fx.mulN, Fx.mulE, HV.out, if_pos rfl, if_pos rfl]
    go_enter Tryd.func16, Tryd.ntmps16
    go_wp2_with fail
    refine (is2_any _ a b _ (by simp) (by simp [go_sem]) (by simp [go_sem])).mono ?_; rintro e w' ⟨rfl, hb⟩; have hsz := hb.size; simp at hsz
    rw [HV.out]
    go_wp2_with fail
    refine (near_any (a * b) 65536 _ (by omega) (by omega) (by omega) (by omega)).mono ?_; rintro e w1 ⟨rfl, rfl⟩
    go_wp2_with fail
    refine (told_any (Fx.rnd (a * b) 65536) _).mono ?_; rintro e w2 ⟨rfl, hb2⟩
    go_wp2_with fail
    go_ret2
    exact ⟨rfl, (by repeat (first | exact Below.refl _ _ | refine Below.setCell ?_ (by first | (simp; done) | (simp; omega) | omega) _ | refine below_drewN ?_ _ | refine Below.alloc ?_ (by first | (simp; done) | (simp; omega) | omega) _ | refine Below.trans ?_ (hb2.mono (by first | (simp; done) | (simp; omega) | omega)) | refine Below.trans ?_ (hb.mono (by first | (simp; done) | (simp; omega) | omega))))⟩

set_option maxHeartbeats 400000 in
theorem div_any (a b : Int) (w : World) : Calls Tryd.prog 17 #[.int .i64 a, .int .i64 b] w fun e w' => e = .returned (.tuple #[.int .i64 (Fx.divN a b), .int .i64 (Fx.divE a b)]) ∧ Below w.heap.size w w' := by
  cases hv : (Fx.fxd a && Fx.fxd b)
  · have HV := Lib.hid hv
    clear hv
    rw [Fx.divN, Fx.divE, HV.out, if_neg (by decide), if_neg (by decide)]
    go_enter Tryd.func17, Tryd.ntmps17
    go_wp2_with fail
    refine (fixed2_any _ a b _ (by simp) (by simp [go_sem]) (by simp [go_sem])).mono ?_; rintro e w' ⟨rfl, hb⟩; have hsz := hb.size; simp at hsz
    rw [HV.out]
    go_wp2_with fail
    go_ret2
    exact ⟨rfl, (by repeat (first | exact Below.refl _ _ | refine Below.setCell ?_ (by first | (simp; done) | (simp; omega) | omega) _ | refine below_drewN ?_ _ | refine Below.alloc ?_ (by first | (simp; done) | (simp; omega) | omega) _ | refine Below.trans ?_ (hb2.mono (by first | (simp; done) | (simp; omega) | omega)) | refine Below.trans ?_ (hb.mono (by first | (simp; done) | (simp; omega) | omega))))⟩
  · have HV := Lib.hid hv
    obtain ⟨⟨x1, x2⟩, y1, y2⟩ := Fx.and_bd hv
    clear hv
    rw [Fx.divN, Fx.divE, HV.out, if_pos rfl, if_pos rfl]
    by_cases hb0 : b = 0
    · subst hb0
      rw [if_pos rfl, if_pos rfl]
      go_enter Tryd.func17, Tryd.ntmps17
      go_wp2_with fail
      refine (fixed2_any _ a 0 _ (by simp) (by simp [go_sem]) (by simp [go_sem])).mono ?_; rintro e w' ⟨rfl, hb⟩; have hsz := hb.size; simp at hsz
      rw [HV.out]
      go_wp2_with fail
      go_ret2
      exact ⟨rfl, (by repeat (first | exact Below.refl _ _ | refine Below.setCell ?_ (by first | (simp; done) | (simp; omega) | omega) _ | refine below_drewN ?_ _ | refine Below.alloc ?_ (by first | (simp; done) | (simp; omega) | omega) _ | refine Below.trans ?_ (hb2.mono (by first | (simp; done) | (simp; omega) | omega)) | refine Below.trans ?_ (hb.mono (by first | (simp; done) | (simp; omega) | omega))))⟩
    have hbb : (b == 0) = false := by simpa using hb0
    rw [if_neg hb0, if_neg hb0, Fx.quo]
    by_cases hn : b < 0
    · rw [if_pos hn]
      go_enter Tryd.func17, Tryd.ntmps17
      go_wp2_with fail
      refine (fixed2_any _ a b _ (by simp) (by simp [go_sem]) (by simp [go_sem])).mono ?_; rintro e w' ⟨rfl, hb⟩; have hsz := hb.size; simp at hsz
      rw [HV.out]
      go_wp2_with fail
      refine (rounded_any (65536 * -a) (-b) _ (by omega) (by omega) (by omega) (by omega) (by omega) (by omega)).mono ?_; rintro e w1 ⟨rfl, rfl⟩
      go_wp2_with fail
      refine (bounded_any (Fx.rnd (65536 * -a) (-b)) _).mono ?_; rintro e w2 ⟨rfl, hb2⟩
      go_wp2_with fail
      go_ret2
      exact ⟨rfl, (by repeat (first | exact Below.refl _ _ | refine Below.setCell ?_ (by first | (simp; done) | (simp; omega) | omega) _ | refine below_drewN ?_ _ | refine Below.alloc ?_ (by first | (simp; done) | (simp; omega) | omega) _ | refine Below.trans ?_ (hb2.mono (by first | (simp; done) | (simp; omega) | omega)) | refine Below.trans ?_ (hb.mono (by first | (simp; done) | (simp; omega) | omega))))⟩
    · rw [if_neg hn]
      go_enter Tryd.func17, Tryd.ntmps17
      go_wp2_with fail
      refine (fixed2_any _ a b _ (by simp) (by simp [go_sem]) (by simp [go_sem])).mono ?_; rintro e w' ⟨rfl, hb⟩; have hsz := hb.size; simp at hsz
      rw [HV.out]
      go_wp2_with fail
      refine (rounded_any (65536 * a) b _ (by omega) (by omega) (by omega) (by omega) (by omega) (by omega)).mono ?_; rintro e w1 ⟨rfl, rfl⟩
      go_wp2_with fail
      refine (bounded_any (Fx.rnd (65536 * a) b) _).mono ?_; rintro e w2 ⟨rfl, hb2⟩
      go_wp2_with fail
      go_ret2
      exact ⟨rfl, (by repeat (first | exact Below.refl _ _ | refine Below.setCell ?_ (by first | (simp; done) | (simp; omega) | omega) _ | refine below_drewN ?_ _ | refine Below.alloc ?_ (by first | (simp; done) | (simp; omega) | omega) _ | refine Below.trans ?_ (hb2.mono (by first | (simp; done) | (simp; omega) | omega)) | refine Below.trans ?_ (hb.mono (by first | (simp; done) | (simp; omega) | omega))))⟩

set_option maxHeartbeats 400000 in
theorem rdiv_any (a b : Int) (w : World) : Calls Tryd.prog 18 #[.int .i64 a, .int .i64 b] w fun e w' => e = .returned (.tuple #[.int .i64 (Fx.divN a b), .int .i64 (Fx.divE a b)]) ∧ Below w.heap.size w w' := by
  cases hv : (Fx.fxd a && Fx.fxd b)
  · have HV := Lib.hid hv
    clear hv
    rw [Fx.divN, Fx.divE, HV.out, if_neg (by decide), if_neg (by decide)]
    go_enter Tryd.func18, Tryd.ntmps18
    go_wp2_with fail
    refine (is2_any _ a b _ (by simp) (by simp [go_sem]) (by simp [go_sem])).mono ?_; rintro e w' ⟨rfl, hb⟩; have hsz := hb.size; simp at hsz
    rw [HV.out]
    go_wp2_with fail
    go_ret2
    exact ⟨rfl, (by repeat (first | exact Below.refl _ _ | refine Below.setCell ?_ (by first | (simp; done) | (simp; omega) | omega) _ | refine below_drewN ?_ _ | refine Below.alloc ?_ (by first | (simp; done) | (simp; omega) | omega) _ | refine Below.trans ?_ (hb2.mono (by first | (simp; done) | (simp; omega) | omega)) | refine Below.trans ?_ (hb.mono (by first | (simp; done) | (simp; omega) | omega))))⟩
  · have HV := Lib.hid hv
    obtain ⟨⟨x1, x2⟩, y1, y2⟩ := Fx.and_bd hv
    clear hv
    rw [Fx.divN, Fx.divE, HV.out, if_pos rfl, if_pos rfl]
    by_cases hb0 : b = 0
    · subst hb0
      rw [if_pos rfl, if_pos rfl]
      go_enter Tryd.func18, Tryd.ntmps18
      go_wp2_with fail
      refine (is2_any _ a 0 _ (by simp) (by simp [go_sem]) (by simp [go_sem])).mono ?_; rintro e w' ⟨rfl, hb⟩; have hsz := hb.size; simp at hsz
      rw [HV.out]
      go_wp2_with fail
      go_ret2
      exact ⟨rfl, (by repeat (first | exact Below.refl _ _ | refine Below.setCell ?_ (by first | (simp; done) | (simp; omega) | omega) _ | refine below_drewN ?_ _ | refine Below.alloc ?_ (by first | (simp; done) | (simp; omega) | omega) _ | refine Below.trans ?_ (hb2.mono (by first | (simp; done) | (simp; omega) | omega)) | refine Below.trans ?_ (hb.mono (by first | (simp; done) | (simp; omega) | omega))))⟩
    have hbb : (b == 0) = false := by simpa using hb0
    rw [if_neg hb0, if_neg hb0, Fx.quo]
    by_cases hn : b < 0
    · rw [if_pos hn]
      have hcm : 65536 * -a = -a * 65536 := Int.mul_comm _ _
      rw [hcm]
      clear hcm
      go_enter Tryd.func18, Tryd.ntmps18
      go_wp2_with fail
      refine (is2_any _ a b _ (by simp) (by simp [go_sem]) (by simp [go_sem])).mono ?_; rintro e w' ⟨rfl, hb⟩; have hsz := hb.size; simp at hsz
      rw [HV.out]
      go_wp2_with fail
      refine (near_any (-a * 65536) (-b) _ (by omega) (by omega) (by omega) (by omega)).mono ?_; rintro e w1 ⟨rfl, rfl⟩
      go_wp2_with fail
      refine (told_any (Fx.rnd (-a * 65536) (-b)) _).mono ?_; rintro e w2 ⟨rfl, hb2⟩
      go_wp2_with fail
      go_ret2
      exact ⟨rfl, (by repeat (first | exact Below.refl _ _ | refine Below.setCell ?_ (by first | (simp; done) | (simp; omega) | omega) _ | refine below_drewN ?_ _ | refine Below.alloc ?_ (by first | (simp; done) | (simp; omega) | omega) _ | refine Below.trans ?_ (hb2.mono (by first | (simp; done) | (simp; omega) | omega)) | refine Below.trans ?_ (hb.mono (by first | (simp; done) | (simp; omega) | omega))))⟩
    · rw [if_neg hn]
      have hcm : 65536 * a = a * 65536 := Int.mul_comm _ _
      rw [hcm]
      clear hcm
      go_enter Tryd.func18, Tryd.ntmps18
      go_wp2_with fail
      refine (is2_any _ a b _ (by simp) (by simp [go_sem]) (by simp [go_sem])).mono ?_; rintro e w' ⟨rfl, hb⟩; have hsz := hb.size; simp at hsz
      rw [HV.out]
      go_wp2_with fail
      refine (near_any (a * 65536) b _ (by omega) (by omega) (by omega) (by omega)).mono ?_; rintro e w1 ⟨rfl, rfl⟩
      go_wp2_with fail
      refine (told_any (Fx.rnd (a * 65536) b) _).mono ?_; rintro e w2 ⟨rfl, hb2⟩
      go_wp2_with fail
      go_ret2
      exact ⟨rfl, (by repeat (first | exact Below.refl _ _ | refine Below.setCell ?_ (by first | (simp; done) | (simp; omega) | omega) _ | refine below_drewN ?_ _ | refine Below.alloc ?_ (by first | (simp; done) | (simp; omega) | omega) _ | refine Below.trans ?_ (hb2.mono (by first | (simp; done) | (simp; omega) | omega)) | refine Below.trans ?_ (hb.mono (by first | (simp; done) | (simp; omega) | omega))))⟩
end Go.Proofs.YtanhomngnickfaaDoor
