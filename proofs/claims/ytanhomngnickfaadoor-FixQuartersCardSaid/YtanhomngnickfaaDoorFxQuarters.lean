/-
  The walk of FixQuarters: it returns true at any integer.
-/
-- LAW 02
import Derived.Test.YtanhomngnickfaaDoorFxAwake
import Derived.Test.YtanhomngnickfaaDoorFxCirc
import Derived.Deep.DeepCutAuto
import Derived.Deep.CutBlock
namespace Go.Proofs.YtanhomngnickfaaDoor
open Go.RowKit

set_option maxRecDepth 100000 in
set_option maxHeartbeats 2000000 in
theorem quarters_no (a : Int) (w : World) (he : Env w)
    (c1 : ∀ w, Calls Tryd.prog 24 #[.int .i64 a] w fun e w' => e = .returned (.tuple #[.int .i64 0, .int .i64 0, .int .i64 2]) ∧ w = w') :
    Calls Tryd.prog 9 #[.int .i64 a] w fun e w' => e = .returned (.bool true) ∧ Below w.heap.size w w' := by
  have HE := Lib.hid he
  have C1 := Lib.hid c1
  clear he c1
  go_enter Tryd.func9, Tryd.ntmps9
  go_wp2_with fail
  refine (C1.out _).mono ?_; rintro e w1 ⟨rfl, rfl⟩
  go_wp2_with fail
  refine (awake_any _ HE.out).mono ?_; rintro e w1 ⟨rfl, hb⟩
  go_wp2_with fail
  go_ret
  exact ⟨rfl, hb⟩

theorem ne_bool {x y : Int} (h : x = y) : (x != y) = false := by simp [h]
set_option maxRecDepth 100000 in
set_option maxHeartbeats 2000000 in
theorem quarters_ok (a s c u v e2 t t2 : Int) (w : World) (he : Env w)
    (c1 : ∀ w, Calls Tryd.prog 24 #[.int .i64 a] w fun e w' => e = .returned (.tuple #[.int .i64 s, .int .i64 c, .int .i64 0]) ∧ w = w')
    (c2 : ∀ w, Calls Tryd.prog 24 #[.int .i64 (a + 94371840)] w fun e w' => e = .returned (.tuple #[.int .i64 u, .int .i64 v, .int .i64 e2]) ∧ w = w')
    (c3 : ∀ w, Calls Tryd.prog 24 #[.int .i64 (-a)] w fun e w' => e = .returned (.tuple #[.int .i64 t, .int .i64 t2, .int .i64 0]) ∧ w = w')
    (x1 : -1099511627776 ≤ a) (x2 : a ≤ 1099511627776)
    (hq : a.tmod 94371840 = 0 → (s = 0 ∨ s = 268435456 ∨ s = -268435456) ∧ (c = 0 ∨ c = 268435456 ∨ c = -268435456))
    (h2 : e2 = 0 ∧ u = c ∧ v = -s ∨ e2 = 2) (t0 : -2 ≤ t + s) (t1 : t + s ≤ 2)
    (s0 : -268435456 ≤ s) (s1 : s ≤ 268435456) (k0 : -268435456 ≤ c) (k1 : c ≤ 268435456) (_u0 : -268435456 ≤ t) (_u1 : t ≤ 268435456)
    (n0 : -8589934592 < s * s + c * c - 72057594037927936) (n1 : s * s + c * c - 72057594037927936 < 8589934592) :
    Calls Tryd.prog 9 #[.int .i64 a] w fun e w' => e = .returned (.bool true) ∧ Below w.heap.size w w' := by
  have HE := Lib.hid he
  have C1 := Lib.hid c1
  have C2 := Lib.hid c2
  have C3 := Lib.hid c3
  have HQ := Lib.hid hq
  have H2 := Lib.hid h2
  have ss := Fx.sq_nn s
  have cc := Fx.sq_nn c
  have w1 : IntKind.i64.wrap (s * s) = s * s := IntWalk.i64_in _ (by omega)
  have w2 : IntKind.i64.wrap (c * c) = c * c := IntWalk.i64_in _ (by omega)
  have w3 : IntKind.i64.wrap (s * s + c * c) = s * s + c * c := IntWalk.i64_in _ (by omega)
  have w4 : IntKind.i64.wrap (s * s + c * c - 72057594037927936) = s * s + c * c - 72057594037927936 := IntWalk.i64_in _ (by omega)
  clear he c1 c2 c3 hq h2
  go_enter Tryd.func9, Tryd.ntmps9
  go_wp2_with fail
  refine (C1.out _).mono ?_; rintro e w1 ⟨rfl, rfl⟩
  go_upto_region 4 with fail
  go_cut [60] (fun r wx => r = .bool false ∧ w = wx)
  case first =>
    by_cases hz : a.tmod 94371840 = 0
    · have hzb : (a.tmod 94371840 == 0) = true := by simpa using hz
      have hv := HQ.out hz
      clear HQ H2 C1 C2 C3 w1 w2 w3 w4 n0 n1 ss cc t0 t1
      obtain ⟨hs, hcc⟩ := hv
      rcases hs with rfl | rfl | rfl <;> rcases hcc with rfl | rfl | rfl <;> (go_wp2_with fail; go_meet; exact ⟨rfl, rfl⟩)
    · have hzb : (a.tmod 94371840 == 0) = false := by simpa using hz
      go_wp2_with fail
      go_meet
      exact ⟨rfl, rfl⟩
  case rest =>
    obtain ⟨rfl, rfl⟩ := hcut
    clear HQ
    go_wp2_with fail
    refine (C2.out _).mono ?_; rintro e w1 ⟨rfl, rfl⟩
    go_upto_region 7 with fail
    go_cut [80] (fun r wx => r = .bool false ∧ w = wx)
    case first =>
      rcases H2.out with ⟨rfl, rfl, rfl⟩ | rfl
      · go_wp2_with fail
        go_meet
        exact ⟨rfl, rfl⟩
      · go_wp2_with fail
        go_meet
        exact ⟨rfl, rfl⟩
    case rest =>
      obtain ⟨rfl, rfl⟩ := hcut
      clear H2
      go_wp2_with fail
      refine (C3.out _).mono ?_; rintro e w1 ⟨rfl, rfl⟩
      go_wp2_with fail
      refine (awake_any _ HE.out).mono ?_; rintro e w1 ⟨rfl, hb⟩
      go_wp2_with fail
      go_ret
      exact ⟨rfl, hb⟩

theorem tmod_emod (a F : Int) (hF : 0 < F) (h : a.tmod F = 0) : a % F = 0 := by
  rw [← Fx.emod_tnn a F hF (by omega)]; exact h
theorem fixQuarters_walk (a : Int) (w : World) (he : Env w) (_lo : -9223372036854775808 ≤ a) (_hi : a ≤ 9223372036854775807) :
    Calls Tryd.prog 9 #[.int .i64 a] w fun e w' => e = .returned (.bool true) ∧ Below w.heap.size w w' := by
  cases hv : Fx.ang a
  · refine quarters_no a w he fun w => ?_
    have h := sine_any a w
    rw [Fx.siS, Fx.siC, Fx.siE, hv, if_neg (by decide), if_neg (by decide), if_neg (by decide)] at h
    exact h
  · obtain ⟨x1, x2⟩ := of_decide_eq_true hv
    obtain ⟨b1, b2, b3, b4⟩ := Fx.c_bd a
    obtain ⟨d1, d2, d3, d4⟩ := Fx.c_bd (-a)
    obtain ⟨n0, n1⟩ := Fx.circle_near a
    obtain ⟨m0, m1⟩ := Fx.minus_near a
    have hq := Fx.quarter_more a
    have hv3 : Fx.ang (-a) = true := decide_eq_true (by omega)
    refine quarters_ok a (Fx.cS a) (Fx.cC a) (Fx.siS (a + 94371840)) (Fx.siC (a + 94371840)) (Fx.siE (a + 94371840)) (Fx.cS (-a)) (Fx.cC (-a)) w he (fun w => ?_) (fun w => sine_any _ w) (fun w => ?_) x1 x2 (fun hz => Fx.quarter_exact a (tmod_emod _ _ (by omega) hz)) ?_ m0 m1 b1 b2 b3 b4 d1 d2 n0 n1
    · have h := sine_any a w
      rw [Fx.siS, Fx.siC, Fx.siE, hv, if_pos rfl, if_pos rfl, if_pos rfl] at h
      exact h
    · have h := sine_any (-a) w
      rw [Fx.siS, Fx.siC, Fx.siE, hv3, if_pos rfl, if_pos rfl, if_pos rfl] at h
      exact h
    · cases hv2 : Fx.ang (a + 94371840)
      · right; rw [Fx.siE, hv2]; rfl
      · left; rw [Fx.siS, Fx.siC, Fx.siE, hv2, if_pos rfl, if_pos rfl, if_pos rfl]
        exact ⟨rfl, hq.1, hq.2⟩
end Go.Proofs.YtanhomngnickfaaDoor
