/-
  Contracts of package fix and of the reference: sines, directions, turns.
-/
-- LAW 02
import Derived.Test.YtanhomngnickfaaDoorFxE
namespace Go.Proofs.YtanhomngnickfaaDoor
open Go.RowKit

set_option maxHeartbeats 400000 in
theorem sine_any (a : Int) (w : World) : Calls Tryd.prog 24 #[.int .i64 a] w fun e w' => e = .returned (.tuple #[.int .i64 (Fx.siS a), .int .i64 (Fx.siC a), .int .i64 (Fx.siE a)]) ∧ w = w' := by
  cases hv : Fx.ang a
  · have HV := Lib.hid hv
    clear hv
    rw [Fx.siS, Fx.siC, Fx.siE, HV.out, if_neg (by decide), if_neg (by decide), if_neg (by decide)]
    go_enter Tryd.func24, Tryd.ntmps24
    go_wp2_with fail
    refine (angle_any a _).mono ?_; rintro e w1 ⟨rfl, rfl⟩
    rw [HV.out]
    go_wp2_with fail
    go_ret3
    exact ⟨rfl, rfl⟩
  · have HV := Lib.hid hv
    obtain ⟨x1, x2⟩ := of_decide_eq_true hv
    clear hv
    rw [Fx.siS, Fx.siC, Fx.siE, HV.out, if_pos rfl, if_pos rfl, if_pos rfl]
    go_enter Tryd.func24, Tryd.ntmps24
    go_wp2_with fail
    refine (angle_any a _).mono ?_; rintro e w1 ⟨rfl, rfl⟩
    rw [HV.out]
    go_wp2_with fail
    refine (circle_any a _ (by omega) (by omega)).mono ?_; rintro e w1 ⟨rfl, rfl⟩
    go_wp2_with fail
    go_ret3
    exact ⟨rfl, rfl⟩

set_option maxHeartbeats 400000 in
theorem rsine_any (a : Int) (w : World) : Calls Tryd.prog 25 #[.int .i64 a] w fun e w' => e = .returned (.tuple #[.int .i64 (Fx.siS a), .int .i64 (Fx.siC a), .int .i64 (Fx.siE a)]) ∧ w = w' := by
  cases hv : Fx.ang a
  · have HV := Lib.hid hv
    clear hv
    rw [Fx.siS, Fx.siC, Fx.siE, HV.out, if_neg (by decide), if_neg (by decide), if_neg (by decide)]
    go_enter Tryd.func25, Tryd.ntmps25
    go_wp2_with fail
    refine (rangle_any a _).mono ?_; rintro e w1 ⟨rfl, rfl⟩
    rw [HV.out]
    go_wp2_with fail
    go_ret3
    exact ⟨rfl, rfl⟩
  · have HV := Lib.hid hv
    obtain ⟨x1, x2⟩ := of_decide_eq_true hv
    clear hv
    rw [Fx.siS, Fx.siC, Fx.siE, HV.out, if_pos rfl, if_pos rfl, if_pos rfl]
    go_enter Tryd.func25, Tryd.ntmps25
    go_wp2_with fail
    refine (rangle_any a _).mono ?_; rintro e w1 ⟨rfl, rfl⟩
    rw [HV.out]
    go_wp2_with fail
    refine (rcircle_any a _ (by omega) (by omega)).mono ?_; rintro e w1 ⟨rfl, rfl⟩
    go_wp2_with fail
    go_ret3
    exact ⟨rfl, rfl⟩

set_option maxHeartbeats 400000 in
theorem dir_any (a : Int) (w : World) : Calls Tryd.prog 26 #[.int .i64 a] w fun e w' => e = .returned (.tuple #[.int .i64 (Fx.diX a), .int .i64 (Fx.diY a), .int .i64 (Fx.siE a)]) ∧ w = w' := by
  cases hv : Fx.ang a
  · have HV := Lib.hid hv
    clear hv
    rw [Fx.diX, Fx.diY, Fx.siE, HV.out, if_neg (by decide), if_neg (by decide), if_neg (by decide)]
    go_enter Tryd.func26, Tryd.ntmps26
    go_wp2_with fail
    refine (angle_any a _).mono ?_; rintro e w1 ⟨rfl, rfl⟩
    rw [HV.out]
    go_wp2_with fail
    go_ret3
    exact ⟨rfl, rfl⟩
  · have HV := Lib.hid hv
    obtain ⟨x1, x2⟩ := of_decide_eq_true hv
    obtain ⟨c1, c2, c3, c4⟩ := Fx.c_bd a
    clear hv
    rw [Fx.diX, Fx.diY, Fx.siE, HV.out, if_pos rfl, if_pos rfl, if_pos rfl]
    go_enter Tryd.func26, Tryd.ntmps26
    go_wp2_with fail
    refine (angle_any a _).mono ?_; rintro e w1 ⟨rfl, rfl⟩
    rw [HV.out]
    go_wp2_with fail
    refine (circle_any a _ (by omega) (by omega)).mono ?_; rintro e w1 ⟨rfl, rfl⟩
    go_wp2_with fail
    refine (rounded_any (65536 * Fx.cC a) 268435456 _ (by omega) (by omega) (by omega) (by omega) (by omega) (by omega)).mono ?_; rintro e w1 ⟨rfl, rfl⟩
    go_wp2_with fail
    refine (rounded_any (65536 * Fx.cS a) 268435456 _ (by omega) (by omega) (by omega) (by omega) (by omega) (by omega)).mono ?_; rintro e w1 ⟨rfl, rfl⟩
    go_wp2_with fail
    go_ret3
    exact ⟨rfl, rfl⟩

set_option maxHeartbeats 400000 in
theorem rdir_any (a : Int) (w : World) : Calls Tryd.prog 27 #[.int .i64 a] w fun e w' => e = .returned (.tuple #[.int .i64 (Fx.diX a), .int .i64 (Fx.diY a), .int .i64 (Fx.siE a)]) ∧ w = w' := by
  cases hv : Fx.ang a
  · have HV := Lib.hid hv
    clear hv
    rw [Fx.diX, Fx.diY, Fx.siE, HV.out, if_neg (by decide), if_neg (by decide), if_neg (by decide)]
    go_enter Tryd.func27, Tryd.ntmps27
    go_wp2_with fail
    refine (rangle_any a _).mono ?_; rintro e w1 ⟨rfl, rfl⟩
    rw [HV.out]
    go_wp2_with fail
    go_ret3
    exact ⟨rfl, rfl⟩
  · have HV := Lib.hid hv
    obtain ⟨x1, x2⟩ := of_decide_eq_true hv
    obtain ⟨c1, c2, c3, c4⟩ := Fx.c_bd a
    clear hv
    rw [Fx.diX, Fx.diY, Fx.siE, HV.out, if_pos rfl, if_pos rfl, if_pos rfl]
    rw [Int.mul_comm 65536 (Fx.cC a), Int.mul_comm 65536 (Fx.cS a)]
    go_enter Tryd.func27, Tryd.ntmps27
    go_wp2_with fail
    refine (rangle_any a _).mono ?_; rintro e w1 ⟨rfl, rfl⟩
    rw [HV.out]
    go_wp2_with fail
    refine (rcircle_any a _ (by omega) (by omega)).mono ?_; rintro e w1 ⟨rfl, rfl⟩
    go_wp2_with fail
    refine (near_any (Fx.cC a * 65536) 268435456 _ (by omega) (by omega) (by omega) (by omega)).mono ?_; rintro e w1 ⟨rfl, rfl⟩
    go_wp2_with fail
    refine (near_any (Fx.cS a * 65536) 268435456 _ (by omega) (by omega) (by omega) (by omega)).mono ?_; rintro e w1 ⟨rfl, rfl⟩
    go_wp2_with fail
    go_ret3
    exact ⟨rfl, rfl⟩

set_option maxHeartbeats 800000 in
theorem turn_any (x y a : Int) (w : World) : Calls Tryd.prog 28 #[.int .i64 x, .int .i64 y, .int .i64 a] w fun e w' => e = .returned (.tuple #[.int .i64 (Fx.tuX x y a), .int .i64 (Fx.tuY x y a), .int .i64 (Fx.tuE x y a)]) ∧ Below w.heap.size w w' := by
  cases hv : (Fx.fxd x && Fx.fxd y)
  · have HV := Lib.hid hv
    clear hv
    rw [Fx.tuX, Fx.tuY, Fx.tuE, HV.out, Bool.false_and, if_neg (by decide), if_neg (by decide), if_neg (by decide)]
    go_enter Tryd.func28, Tryd.ntmps28
    go_wp2_with fail
    refine (fixed2_any _ x y _ (by simp) (by simp [go_sem]) (by simp [go_sem])).mono ?_; rintro e w' ⟨rfl, hb⟩; have hsz := hb.size; simp at hsz
    rw [HV.out]
    go_wp2_with fail
    go_ret3
    exact ⟨rfl, (by repeat (first | exact Below.refl _ _ | refine Below.setCell ?_ (by first | (simp; done) | (simp; omega) | omega) _ | refine below_drewN ?_ _ | refine Below.alloc ?_ (by first | (simp; done) | (simp; omega) | omega) _ | refine Below.trans ?_ (hb2.mono (by first | (simp; done) | (simp; omega) | omega)) | refine Below.trans ?_ (hb.mono (by first | (simp; done) | (simp; omega) | omega))))⟩
  have HV := Lib.hid hv
  obtain ⟨⟨x1, x2⟩, y1, y2⟩ := Fx.and_bd hv
  clear hv
  cases hg : Fx.ang a
  · have HG := Lib.hid hg
    clear hg
    rw [Fx.tuX, Fx.tuY, Fx.tuE, HV.out, HG.out, Bool.true_and, if_neg (by decide), if_neg (by decide), if_neg (by decide)]
    go_enter Tryd.func28, Tryd.ntmps28
    go_wp2_with fail
    refine (fixed2_any _ x y _ (by simp) (by simp [go_sem]) (by simp [go_sem])).mono ?_; rintro e w' ⟨rfl, hb⟩; have hsz := hb.size; simp at hsz
    rw [HV.out]
    go_wp2_with fail
    refine (angle_any a _).mono ?_; rintro e w1 ⟨rfl, rfl⟩
    rw [HG.out]
    go_wp2_with fail
    go_ret3
    exact ⟨rfl, (by repeat (first | exact Below.refl _ _ | refine Below.setCell ?_ (by first | (simp; done) | (simp; omega) | omega) _ | refine below_drewN ?_ _ | refine Below.alloc ?_ (by first | (simp; done) | (simp; omega) | omega) _ | refine Below.trans ?_ (hb2.mono (by first | (simp; done) | (simp; omega) | omega)) | refine Below.trans ?_ (hb.mono (by first | (simp; done) | (simp; omega) | omega))))⟩
  have HG := Lib.hid hg
  obtain ⟨g1, g2⟩ := of_decide_eq_true hg
  clear hg
  rw [Fx.tuX, Fx.tuY, Fx.tuE, HV.out, HG.out, Bool.true_and, if_pos rfl, if_pos rfl, if_pos rfl]
  obtain ⟨c1, c2, c3, c4⟩ := Fx.c_bd a
  have EU : Hid (Fx.tuU x y a = Fx.rnd (Fx.cC a * x - Fx.cS a * y) 268435456) := rfl
  have EV : Hid (Fx.tuV x y a = Fx.rnd (Fx.cS a * x + Fx.cC a * y) 268435456) := rfl
  obtain ⟨m1, m2⟩ := Fx.prod_bd (Fx.cC a) x 268435456 2147483647 c3 c4 x1 x2
  obtain ⟨n1, n2⟩ := Fx.prod_bd (Fx.cS a) y 268435456 2147483647 c1 c2 y1 y2
  obtain ⟨o1, o2⟩ := Fx.prod_bd (Fx.cS a) x 268435456 2147483647 c1 c2 x1 x2
  obtain ⟨p1, p2⟩ := Fx.prod_bd (Fx.cC a) y 268435456 2147483647 c3 c4 y1 y2
  have w1 : IntKind.i64.wrap (Fx.cC a * x) = Fx.cC a * x := IntWalk.i64_in _ (by omega)
  have w2 : IntKind.i64.wrap (Fx.cS a * y) = Fx.cS a * y := IntWalk.i64_in _ (by omega)
  have w3 : IntKind.i64.wrap (Fx.cS a * x) = Fx.cS a * x := IntWalk.i64_in _ (by omega)
  have w4 : IntKind.i64.wrap (Fx.cC a * y) = Fx.cC a * y := IntWalk.i64_in _ (by omega)
  have w5 : IntKind.i64.wrap (Fx.cC a * x - Fx.cS a * y) = Fx.cC a * x - Fx.cS a * y := IntWalk.i64_in _ (by omega)
  have w6 : IntKind.i64.wrap (Fx.cS a * x + Fx.cC a * y) = Fx.cS a * x + Fx.cC a * y := IntWalk.i64_in _ (by omega)
  cases hu : (Fx.fxd (Fx.tuU x y a) && Fx.fxd (Fx.tuV x y a))
  · have HU := Lib.hid hu
    clear hu
    rw [if_neg (by decide), if_neg (by decide), if_neg (by decide)]
    go_enter Tryd.func28, Tryd.ntmps28
    go_wp2_with fail
    refine (fixed2_any _ x y _ (by simp) (by simp [go_sem]) (by simp [go_sem])).mono ?_; rintro e w' ⟨rfl, hb⟩; have hsz := hb.size; simp at hsz
    rw [HV.out]
    go_wp2_with fail
    refine (angle_any a _).mono ?_; rintro e w1 ⟨rfl, rfl⟩
    rw [HG.out]
    go_wp2_with fail
    refine (circle_any a _ (by omega) (by omega)).mono ?_; rintro e w1 ⟨rfl, rfl⟩
    go_wp2_with fail
    refine (rounded_any (Fx.cC a * x - Fx.cS a * y) 268435456 _ (by omega) (by omega) (by omega) (by omega) (by omega) (by omega)).mono ?_; rintro e w1 ⟨rfl, rfl⟩
    rw [← EU.out]
    go_wp2_with fail
    refine (rounded_any (Fx.cS a * x + Fx.cC a * y) 268435456 _ (by omega) (by omega) (by omega) (by omega) (by omega) (by omega)).mono ?_; rintro e w1 ⟨rfl, rfl⟩
    rw [← EV.out]
    go_wp2_with fail
    refine (fixed2_any _ (Fx.tuU x y a) (Fx.tuV x y a) _ (by simp) (by simp [go_sem]) (by simp [go_sem])).mono ?_; rintro e w2 ⟨rfl, hb2⟩
    rw [HU.out]
    go_wp2_with fail
    go_ret3
    exact ⟨rfl, (by repeat (first | exact Below.refl _ _ | refine Below.setCell ?_ (by first | (simp; done) | (simp; omega) | omega) _ | refine below_drewN ?_ _ | refine Below.alloc ?_ (by first | (simp; done) | (simp; omega) | omega) _ | refine Below.trans ?_ (hb2.mono (by first | (simp; done) | (simp; omega) | omega)) | refine Below.trans ?_ (hb.mono (by first | (simp; done) | (simp; omega) | omega))))⟩
  · have HU := Lib.hid hu
    clear hu
    rw [if_pos rfl, if_pos rfl, if_pos rfl]
    go_enter Tryd.func28, Tryd.ntmps28
    go_wp2_with fail
    refine (fixed2_any _ x y _ (by simp) (by simp [go_sem]) (by simp [go_sem])).mono ?_; rintro e w' ⟨rfl, hb⟩; have hsz := hb.size; simp at hsz
    rw [HV.out]
    go_wp2_with fail
    refine (angle_any a _).mono ?_; rintro e w1 ⟨rfl, rfl⟩
    rw [HG.out]
    go_wp2_with fail
    refine (circle_any a _ (by omega) (by omega)).mono ?_; rintro e w1 ⟨rfl, rfl⟩
    go_wp2_with fail
    refine (rounded_any (Fx.cC a * x - Fx.cS a * y) 268435456 _ (by omega) (by omega) (by omega) (by omega) (by omega) (by omega)).mono ?_; rintro e w1 ⟨rfl, rfl⟩
    rw [← EU.out]
    go_wp2_with fail
    refine (rounded_any (Fx.cS a * x + Fx.cC a * y) 268435456 _ (by omega) (by omega) (by omega) (by omega) (by omega) (by omega)).mono ?_; rintro e w1 ⟨rfl, rfl⟩
    rw [← EV.out]
    go_wp2_with fail
    refine (fixed2_any _ (Fx.tuU x y a) (Fx.tuV x y a) _ (by simp) (by simp [go_sem]) (by simp [go_sem])).mono ?_; rintro e w2 ⟨rfl, hb2⟩
    rw [HU.out]
    go_wp2_with fail
    go_ret3
    exact ⟨rfl, (by repeat (first | exact Below.refl _ _ | refine Below.setCell ?_ (by first | (simp; done) | (simp; omega) | omega) _ | refine below_drewN ?_ _ | refine Below.alloc ?_ (by first | (simp; done) | (simp; omega) | omega) _ | refine Below.trans ?_ (hb2.mono (by first | (simp; done) | (simp; omega) | omega)) | refine Below.trans ?_ (hb.mono (by first | (simp; done) | (simp; omega) | omega))))⟩

set_option maxHeartbeats 800000 in
theorem rturn_any (x y a : Int) (w : World) : Calls Tryd.prog 29 #[.int .i64 x, .int .i64 y, .int .i64 a] w fun e w' => e = .returned (.tuple #[.int .i64 (Fx.tuX x y a), .int .i64 (Fx.tuY x y a), .int .i64 (Fx.tuE x y a)]) ∧ Below w.heap.size w w' := by
  cases hv : (Fx.fxd x && Fx.fxd y)
  · have HV := Lib.hid hv
    clear hv
    rw [Fx.tuX, Fx.tuY, Fx.tuE, HV.out, Bool.false_and, if_neg (by decide), if_neg (by decide), if_neg (by decide)]
    go_enter Tryd.func29, Tryd.ntmps29
    go_wp2_with fail
    refine (is2_any _ x y _ (by simp) (by simp [go_sem]) (by simp [go_sem])).mono ?_; rintro e w' ⟨rfl, hb⟩; have hsz := hb.size; simp at hsz
    rw [HV.out]
    go_wp2_with fail
    go_ret3
    exact ⟨rfl, (by repeat (first | exact Below.refl _ _ | refine Below.setCell ?_ (by first | (simp; done) | (simp; omega) | omega) _ | refine below_drewN ?_ _ | refine Below.alloc ?_ (by first | (simp; done) | (simp; omega) | omega) _ | refine Below.trans ?_ (hb2.mono (by first | (simp; done) | (simp; omega) | omega)) | refine Below.trans ?_ (hb.mono (by first | (simp; done) | (simp; omega) | omega))))⟩
  have HV := Lib.hid hv
  obtain ⟨⟨x1, x2⟩, y1, y2⟩ := Fx.and_bd hv
  clear hv
  cases hg : Fx.ang a
  · have HG := Lib.hid hg
    clear hg
    rw [Fx.tuX, Fx.tuY, Fx.tuE, HV.out, HG.out, Bool.true_and, if_neg (by decide), if_neg (by decide), if_neg (by decide)]
    go_enter Tryd.func29, Tryd.ntmps29
    go_wp2_with fail
    refine (is2_any _ x y _ (by simp) (by simp [go_sem]) (by simp [go_sem])).mono ?_; rintro e w' ⟨rfl, hb⟩; have hsz := hb.size; simp at hsz
    rw [HV.out]
    go_wp2_with fail
    refine (rangle_any a _).mono ?_; rintro e w1 ⟨rfl, rfl⟩
    rw [HG.out]
    go_wp2_with fail
    go_ret3
    exact ⟨rfl, (by repeat (first | exact Below.refl _ _ | refine Below.setCell ?_ (by first | (simp; done) | (simp; omega) | omega) _ | refine below_drewN ?_ _ | refine Below.alloc ?_ (by first | (simp; done) | (simp; omega) | omega) _ | refine Below.trans ?_ (hb2.mono (by first | (simp; done) | (simp; omega) | omega)) | refine Below.trans ?_ (hb.mono (by first | (simp; done) | (simp; omega) | omega))))⟩
  have HG := Lib.hid hg
  obtain ⟨g1, g2⟩ := of_decide_eq_true hg
  clear hg
  rw [Fx.tuX, Fx.tuY, Fx.tuE, HV.out, HG.out, Bool.true_and, if_pos rfl, if_pos rfl, if_pos rfl]
  obtain ⟨c1, c2, c3, c4⟩ := Fx.c_bd a
  have EU : Hid (Fx.tuU x y a = Fx.rnd (Fx.cC a * x - Fx.cS a * y) 268435456) := rfl
  have EV : Hid (Fx.tuV x y a = Fx.rnd (Fx.cS a * x + Fx.cC a * y) 268435456) := rfl
  obtain ⟨m1, m2⟩ := Fx.prod_bd (Fx.cC a) x 268435456 2147483647 c3 c4 x1 x2
  obtain ⟨n1, n2⟩ := Fx.prod_bd (Fx.cS a) y 268435456 2147483647 c1 c2 y1 y2
  obtain ⟨o1, o2⟩ := Fx.prod_bd (Fx.cS a) x 268435456 2147483647 c1 c2 x1 x2
  obtain ⟨p1, p2⟩ := Fx.prod_bd (Fx.cC a) y 268435456 2147483647 c3 c4 y1 y2
  have w1 : IntKind.i64.wrap (Fx.cC a * x) = Fx.cC a * x := IntWalk.i64_in _ (by omega)
  have w2 : IntKind.i64.wrap (Fx.cS a * y) = Fx.cS a * y := IntWalk.i64_in _ (by omega)
  have w3 : IntKind.i64.wrap (Fx.cS a * x) = Fx.cS a * x := IntWalk.i64_in _ (by omega)
  have w4 : IntKind.i64.wrap (Fx.cC a * y) = Fx.cC a * y := IntWalk.i64_in _ (by omega)
  have w5 : IntKind.i64.wrap (Fx.cC a * x - Fx.cS a * y) = Fx.cC a * x - Fx.cS a * y := IntWalk.i64_in _ (by omega)
  have w6 : IntKind.i64.wrap (Fx.cS a * x + Fx.cC a * y) = Fx.cS a * x + Fx.cC a * y := IntWalk.i64_in _ (by omega)
  cases hu : (Fx.fxd (Fx.tuU x y a) && Fx.fxd (Fx.tuV x y a))
  · have HU := Lib.hid hu
    clear hu
    rw [if_neg (by decide), if_neg (by decide), if_neg (by decide)]
    go_enter Tryd.func29, Tryd.ntmps29
    go_wp2_with fail
    refine (is2_any _ x y _ (by simp) (by simp [go_sem]) (by simp [go_sem])).mono ?_; rintro e w' ⟨rfl, hb⟩; have hsz := hb.size; simp at hsz
    rw [HV.out]
    go_wp2_with fail
    refine (rangle_any a _).mono ?_; rintro e w1 ⟨rfl, rfl⟩
    rw [HG.out]
    go_wp2_with fail
    refine (rcircle_any a _ (by omega) (by omega)).mono ?_; rintro e w1 ⟨rfl, rfl⟩
    go_wp2_with fail
    refine (near_any (Fx.cC a * x - Fx.cS a * y) 268435456 _ (by omega) (by omega) (by omega) (by omega)).mono ?_; rintro e w1 ⟨rfl, rfl⟩
    rw [← EU.out]
    go_wp2_with fail
    refine (near_any (Fx.cS a * x + Fx.cC a * y) 268435456 _ (by omega) (by omega) (by omega) (by omega)).mono ?_; rintro e w1 ⟨rfl, rfl⟩
    rw [← EV.out]
    go_wp2_with fail
    refine (is2_any _ (Fx.tuU x y a) (Fx.tuV x y a) _ (by simp) (by simp [go_sem]) (by simp [go_sem])).mono ?_; rintro e w2 ⟨rfl, hb2⟩
    rw [HU.out]
    go_wp2_with fail
    go_ret3
    exact ⟨rfl, (by repeat (first | exact Below.refl _ _ | refine Below.setCell ?_ (by first | (simp; done) | (simp; omega) | omega) _ | refine below_drewN ?_ _ | refine Below.alloc ?_ (by first | (simp; done) | (simp; omega) | omega) _ | refine Below.trans ?_ (hb2.mono (by first | (simp; done) | (simp; omega) | omega)) | refine Below.trans ?_ (hb.mono (by first | (simp; done) | (simp; omega) | omega))))⟩
  · have HU := Lib.hid hu
    clear hu
    rw [if_pos rfl, if_pos rfl, if_pos rfl]
    go_enter Tryd.func29, Tryd.ntmps29
    go_wp2_with fail
    refine (is2_any _ x y _ (by simp) (by simp [go_sem]) (by simp [go_sem])).mono ?_; rintro e w' ⟨rfl, hb⟩; have hsz := hb.size; simp at hsz
    rw [HV.out]
    go_wp2_with fail
    refine (rangle_any a _).mono ?_; rintro e w1 ⟨rfl, rfl⟩
    rw [HG.out]
    go_wp2_with fail
    refine (rcircle_any a _ (by omega) (by omega)).mono ?_; rintro e w1 ⟨rfl, rfl⟩
    go_wp2_with fail
    refine (near_any (Fx.cC a * x - Fx.cS a * y) 268435456 _ (by omega) (by omega) (by omega) (by omega)).mono ?_; rintro e w1 ⟨rfl, rfl⟩
    rw [← EU.out]
    go_wp2_with fail
    refine (near_any (Fx.cS a * x + Fx.cC a * y) 268435456 _ (by omega) (by omega) (by omega) (by omega)).mono ?_; rintro e w1 ⟨rfl, rfl⟩
    rw [← EV.out]
    go_wp2_with fail
    refine (is2_any _ (Fx.tuU x y a) (Fx.tuV x y a) _ (by simp) (by simp [go_sem]) (by simp [go_sem])).mono ?_; rintro e w2 ⟨rfl, hb2⟩
    rw [HU.out]
    go_wp2_with fail
    go_ret3
    exact ⟨rfl, (by repeat (first | exact Below.refl _ _ | refine Below.setCell ?_ (by first | (simp; done) | (simp; omega) | omega) _ | refine below_drewN ?_ _ | refine Below.alloc ?_ (by first | (simp; done) | (simp; omega) | omega) _ | refine Below.trans ?_ (hb2.mono (by first | (simp; done) | (simp; omega) | omega)) | refine Below.trans ?_ (hb.mono (by first | (simp; done) | (simp; omega) | omega))))⟩

end Go.Proofs.YtanhomngnickfaaDoor
