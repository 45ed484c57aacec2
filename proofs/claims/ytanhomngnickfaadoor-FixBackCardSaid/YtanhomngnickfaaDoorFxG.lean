/-
  Contracts of package fix and of the reference: the argument.
-/
-- LAW 02
import Derived.Test.YtanhomngnickfaaDoorFxE
namespace Go.Proofs.YtanhomngnickfaaDoor
open Go.RowKit

set_option maxHeartbeats 800000 in
theorem shallow_any (X Y : Int) (w : World) (h0 : 0 ≤ Y) (h1 : Y ≤ X) (h2 : X ≤ 2147483647) :
    Calls Tryd.prog 56 #[.int .i64 X, .int .i64 Y] w fun e w' => e = .returned (.int .i64 (Fx.ag X Y)) ∧ w = w' := by
  by_cases hxy : X = Y
  · subst hxy
    have HA : Hid (Fx.ag X X = 47185920) := if_pos rfl
    go_enter Tryd.func56, Tryd.ntmps56
    go_wp2
    go_ret
    exact ⟨ret_int HA.out.symm, rfl⟩
  have HA : Hid (Fx.ag X Y = Fx.agF X Y 26) := if_neg hxy
  have hxb : (X == Y) = false := by simpa using hxy
  clear hxy
  go_enter Tryd.func56, Tryd.ntmps56
  go_wp2
  go_loop [13, 5] (fun vi va => ∃ k : Nat, vi = .int .i64 k ∧ k ≤ 26 ∧ va = .int .i64 (Fx.agF X Y k)) (fun vi _ => 26 - (intOf vi).toNat)
  case atStart => exact ⟨0, rfl, by omega, rfl⟩
  case round =>
    obtain ⟨k, rfl, hk, rfl⟩ := hrel
    by_cases hkn : k < 26
    · obtain ⟨a0, a1⟩ := Fx.agF_bd X Y k
      have s3 := Fx.p2 (25 - k)
      have s4 := Fx.p2le (25 - k) (by omega)
      have w1 : IntKind.i64.wrap (2 ^ (25 - k)) = 2 ^ (25 - k) := IntWalk.i64_in _ (by omega)
      have w2 : IntKind.i64.wrap (Fx.agF X Y k + 2 ^ (25 - k)) = Fx.agF X Y k + 2 ^ (25 - k) := IntWalk.i64_in _ (by omega)
      by_cases hfar : 47185920 < Fx.agF X Y k + 2 ^ (25 - k)
      · have HS := Lib.hid (Fx.agF_far hfar)
        go_wp2
        exact ⟨⟨k + 1, by go_num, by omega, by rw [HS.out]⟩, by simp [intOf]; omega⟩
      obtain ⟨b1, b2, b3, b4⟩ := Fx.q_bd (Fx.agF X Y k + 2 ^ (25 - k)) (by omega) (by omega)
      have HL := Lib.hid (Fx.c_lo (Fx.agF X Y k + 2 ^ (25 - k)) (by omega) (by omega))
      have HY := Lib.hid (Fx.agF_yes hfar)
      have HN := Lib.hid (Fx.agF_no hfar)
      have c0 : 0 ≤ Fx.agF X Y k + 2 ^ (25 - k) := by omega
      have c1 : Fx.agF X Y k + 2 ^ (25 - k) ≤ 47185920 := by omega
      go_wp2_with fail
      refine (quarter_any (Fx.agF X Y k + 2 ^ (25 - k)) _ (by omega) (by omega)).mono ?_; rintro e w1 ⟨rfl, rfl⟩
      obtain ⟨s, hs⟩ : ∃ s, s = Fx.qS (Fx.agF X Y k + 2 ^ (25 - k)) := ⟨_, rfl⟩
      obtain ⟨c, hcc⟩ : ∃ c, c = Fx.qC (Fx.agF X Y k + 2 ^ (25 - k)) := ⟨_, rfl⟩
      rw [← hs, ← hcc] at HY HN ⊢
      rw [← hs] at b1 b2
      rw [← hcc] at b3 b4
      clear hs hcc HL
      obtain ⟨m1, m2⟩ := Fx.prod_bd s X 268435456 2147483647 (by omega) (by omega) (by omega) (by omega)
      obtain ⟨n1, n2⟩ := Fx.prod_bd c Y 268435456 2147483647 (by omega) (by omega) (by omega) (by omega)
      have w3 : IntKind.i64.wrap (s * X) = s * X := IntWalk.i64_in _ (by omega)
      have w4 : IntKind.i64.wrap (c * Y) = c * Y := IntWalk.i64_in _ (by omega)
      by_cases hle : s * X ≤ c * Y
      · have HS := Lib.hid (HY.out hle)
        clear HY HN
        go_wp2_with fail
        exact ⟨⟨k + 1, by go_num, by omega, by rw [HS.out]⟩, by simp [intOf]; omega⟩
      · have HS := Lib.hid (HN.out (by omega))
        clear HY HN
        go_wp2_with fail
        exact ⟨⟨k + 1, by go_num, by omega, by rw [HS.out]⟩, by simp [intOf]; omega⟩
    · have e : k = 26 := by omega
      subst e
      go_wp2
      go_ret
      exact ⟨ret_int HA.out.symm, rfl⟩

set_option maxHeartbeats 800000 in
theorem first_any (X Y : Int) (w : World) (h0 : 0 ≤ Y) (h1 : Y ≤ X) (h2 : X ≤ 2147483647) :
    Calls Tryd.prog 57 #[.int .i64 X, .int .i64 Y] w fun e w' => e = .returned (.int .i64 (Fx.ag X Y)) ∧ w = w' := by
  by_cases hxy : X = Y
  · subst hxy
    have HA : Hid (Fx.ag X X = 47185920) := if_pos rfl
    go_enter Tryd.func57, Tryd.ntmps57
    go_wp2
    go_ret
    exact ⟨ret_int HA.out.symm, rfl⟩
  have HA : Hid (Fx.ag X Y = Fx.agF X Y 26) := if_neg hxy
  have hxb : (X == Y) = false := by simpa using hxy
  clear hxy
  go_enter Tryd.func57, Tryd.ntmps57
  go_wp2
  go_loop [6, 5] (fun vi va => ∃ k : Nat, vi = .int .i64 (25 - (k : Int)) ∧ k ≤ 26 ∧ va = .int .i64 (Fx.agF X Y k)) (fun vi _ => (intOf vi + 1).toNat)
  case atStart => exact ⟨0, rfl, by omega, rfl⟩
  case round =>
    obtain ⟨k, rfl, hk, rfl⟩ := hrel
    by_cases hkn : k < 26
    · obtain ⟨a0, a1⟩ := Fx.agF_bd X Y k
      have s3 := Fx.p2 (25 - k)
      have s4 := Fx.p2le (25 - k) (by omega)
      have w1 : IntKind.i64.wrap (2 ^ (25 - k)) = 2 ^ (25 - k) := IntWalk.i64_in _ (by omega)
      have w2 : IntKind.i64.wrap (Fx.agF X Y k + 2 ^ (25 - k)) = Fx.agF X Y k + 2 ^ (25 - k) := IntWalk.i64_in _ (by omega)
      have e31 : (25 - (k : Int)).toNat = 25 - k := by omega
      have g0 : 0 ≤ 25 - (k : Int) := by omega
      by_cases hfar : 47185920 < Fx.agF X Y k + 2 ^ (25 - k)
      · have HS := Lib.hid (Fx.agF_far hfar)
        go_wp2
        exact ⟨⟨k + 1, by congr 1; omega, by omega, by rw [HS.out]⟩, by simp [intOf]; omega⟩
      obtain ⟨b1, b2, b3, b4⟩ := Fx.q_bd (Fx.agF X Y k + 2 ^ (25 - k)) (by omega) (by omega)
      have HL := Lib.hid (Fx.c_lo (Fx.agF X Y k + 2 ^ (25 - k)) (by omega) (by omega))
      have HY := Lib.hid (Fx.agF_yes hfar)
      have HN := Lib.hid (Fx.agF_no hfar)
      have c0 : 0 ≤ Fx.agF X Y k + 2 ^ (25 - k) := by omega
      have c1 : Fx.agF X Y k + 2 ^ (25 - k) ≤ 47185920 := by omega
      go_wp2_with fail
      refine (rcircle_any (Fx.agF X Y k + 2 ^ (25 - k)) _ (by omega) (by omega)).mono ?_; rintro e w1 ⟨rfl, rfl⟩
      rw [HL.out.1, HL.out.2]
      obtain ⟨s, hs⟩ : ∃ s, s = Fx.qS (Fx.agF X Y k + 2 ^ (25 - k)) := ⟨_, rfl⟩
      obtain ⟨c, hcc⟩ : ∃ c, c = Fx.qC (Fx.agF X Y k + 2 ^ (25 - k)) := ⟨_, rfl⟩
      rw [← hs, ← hcc] at HY HN ⊢
      rw [← hs] at b1 b2
      rw [← hcc] at b3 b4
      clear hs hcc HL
      obtain ⟨m1, m2⟩ := Fx.prod_bd s X 268435456 2147483647 (by omega) (by omega) (by omega) (by omega)
      obtain ⟨n1, n2⟩ := Fx.prod_bd c Y 268435456 2147483647 (by omega) (by omega) (by omega) (by omega)
      have w3 : IntKind.i64.wrap (s * X) = s * X := IntWalk.i64_in _ (by omega)
      have w4 : IntKind.i64.wrap (c * Y) = c * Y := IntWalk.i64_in _ (by omega)
      by_cases hle : s * X ≤ c * Y
      · have HS := Lib.hid (HY.out hle)
        clear HY HN
        go_wp2_with fail
        exact ⟨⟨k + 1, by congr 1; omega, by omega, by rw [HS.out]⟩, by simp [intOf]; omega⟩
      · have HS := Lib.hid (HN.out (by omega))
        clear HY HN
        go_wp2_with fail
        exact ⟨⟨k + 1, by congr 1; omega, by omega, by rw [HS.out]⟩, by simp [intOf]; omega⟩
    · have e : k = 26 := by omega
      subst e
      go_wp2
      go_ret
      exact ⟨ret_int HA.out.symm, rfl⟩

theorem shallow_v (X Y : Int) (w : World) (h0 : 0 ≤ Y) (h1 : Y ≤ X) (h2 : X ≤ 2147483647) :
    Calls Tryd.prog 56 #[.int .i64 X, .int .i64 Y] w fun e w' => (∃ g, e = .returned (.int .i64 g) ∧ Hid (g = Fx.ag X Y) ∧ 0 ≤ g ∧ g ≤ 47185920) ∧ w = w' :=
  (shallow_any X Y w h0 h1 h2).mono fun _ _ ⟨h, k⟩ => ⟨⟨_, h, rfl, Fx.ag_bd X Y⟩, k⟩
set_option maxHeartbeats 1600000 in
theorem arg_any_core (x y : Int) (w : World) (x1 : -2147483647 ≤ x) (x2 : x ≤ 2147483647) (y1 : -2147483647 ≤ y) (y2 : y ≤ 2147483647) (hz : ¬ (x = 0 ∧ y = 0)) (HV : Hid ((Fx.fxd x && Fx.fxd y) = true)) :
    Calls Tryd.prog 30 #[.int .i64 x, .int .i64 y] w fun e w' => e = .returned (.tuple #[.int .i64 (Fx.agV x y), .int .i64 0]) ∧ Below w.heap.size w w' := by
  have hzb : (x == 0 && y == 0) = false := by
    cases h : (x == 0 && y == 0)
    · rfl
    · simp at h; exact absurd h hz
  by_cases hx : x < 0
  · have xb : (x == 0) = false := by simp; omega
    clear hz hzb
    by_cases hy : y < 0
    · (go_enter Tryd.func30, Tryd.ntmps30
       go_wp2_with fail
       refine (fixed2_any _ x y _ (by simp) (by simp [go_sem]) (by simp [go_sem])).mono ?_; rintro e w' ⟨rfl, hb⟩; have hsz := hb.size; simp at hsz
       rw [HV.out]
       go_wp2_with fail
       all_goals (refine (shallow_v _ _ _ (by omega) (by omega) (by omega)).mono ?_; rintro e w1 ⟨⟨g, rfl, HG, g0, g1⟩, rfl⟩; go_wp2_with fail)
       all_goals (go_ret2; exact ⟨ret_two (Fx.agV_is _ _ _ _ g _ HG.out (by (simp only [Fx.mx]; repeat' split <;> omega)) (by (simp only [Fx.mx, Fx.mn]; repeat' split <;> omega)) (by (simp only [Fx.mx]; repeat' split <;> omega))) rfl, (by repeat (first | exact Below.refl _ _ | refine Below.setCell ?_ (by first | (simp; done) | (simp; omega) | omega) _ | refine below_drewN ?_ _ | refine Below.alloc ?_ (by first | (simp; done) | (simp; omega) | omega) _ | refine Below.trans ?_ (hb2.mono (by first | (simp; done) | (simp; omega) | omega)) | refine Below.trans ?_ (hb.mono (by first | (simp; done) | (simp; omega) | omega))))⟩))
    · (go_enter Tryd.func30, Tryd.ntmps30
       go_wp2_with fail
       refine (fixed2_any _ x y _ (by simp) (by simp [go_sem]) (by simp [go_sem])).mono ?_; rintro e w' ⟨rfl, hb⟩; have hsz := hb.size; simp at hsz
       rw [HV.out]
       go_wp2_with fail
       all_goals (refine (shallow_v _ _ _ (by omega) (by omega) (by omega)).mono ?_; rintro e w1 ⟨⟨g, rfl, HG, g0, g1⟩, rfl⟩; go_wp2_with fail)
       all_goals (go_ret2; exact ⟨ret_two (Fx.agV_is _ _ _ _ g _ HG.out (by (simp only [Fx.mx]; repeat' split <;> omega)) (by (simp only [Fx.mx, Fx.mn]; repeat' split <;> omega)) (by (simp only [Fx.mx]; repeat' split <;> omega))) rfl, (by repeat (first | exact Below.refl _ _ | refine Below.setCell ?_ (by first | (simp; done) | (simp; omega) | omega) _ | refine below_drewN ?_ _ | refine Below.alloc ?_ (by first | (simp; done) | (simp; omega) | omega) _ | refine Below.trans ?_ (hb2.mono (by first | (simp; done) | (simp; omega) | omega)) | refine Below.trans ?_ (hb.mono (by first | (simp; done) | (simp; omega) | omega))))⟩))
  by_cases hx0 : x = 0
  · subst hx0
    have yb : (y == 0) = false := by simp; omega
    clear hz hzb
    by_cases hy : y < 0
    · (go_enter Tryd.func30, Tryd.ntmps30
       go_wp2_with fail
       refine (fixed2_any _ 0 y _ (by simp) (by simp [go_sem]) (by simp [go_sem])).mono ?_; rintro e w' ⟨rfl, hb⟩; have hsz := hb.size; simp at hsz
       rw [HV.out]
       go_wp2_with fail
       all_goals (refine (shallow_v _ _ _ (by omega) (by omega) (by omega)).mono ?_; rintro e w1 ⟨⟨g, rfl, HG, g0, g1⟩, rfl⟩; go_wp2_with fail)
       all_goals (go_ret2; exact ⟨ret_two (Fx.agV_is _ _ _ _ g _ HG.out (by (simp only [Fx.mx]; repeat' split <;> omega)) (by (simp only [Fx.mx, Fx.mn]; repeat' split <;> omega)) (by (simp only [Fx.mx]; repeat' split <;> omega))) rfl, (by repeat (first | exact Below.refl _ _ | refine Below.setCell ?_ (by first | (simp; done) | (simp; omega) | omega) _ | refine below_drewN ?_ _ | refine Below.alloc ?_ (by first | (simp; done) | (simp; omega) | omega) _ | refine Below.trans ?_ (hb2.mono (by first | (simp; done) | (simp; omega) | omega)) | refine Below.trans ?_ (hb.mono (by first | (simp; done) | (simp; omega) | omega))))⟩))
    · (go_enter Tryd.func30, Tryd.ntmps30
       go_wp2_with fail
       refine (fixed2_any _ 0 y _ (by simp) (by simp [go_sem]) (by simp [go_sem])).mono ?_; rintro e w' ⟨rfl, hb⟩; have hsz := hb.size; simp at hsz
       rw [HV.out]
       go_wp2_with fail
       all_goals (refine (shallow_v _ _ _ (by omega) (by omega) (by omega)).mono ?_; rintro e w1 ⟨⟨g, rfl, HG, g0, g1⟩, rfl⟩; go_wp2_with fail)
       all_goals (go_ret2; exact ⟨ret_two (Fx.agV_is _ _ _ _ g _ HG.out (by (simp only [Fx.mx]; repeat' split <;> omega)) (by (simp only [Fx.mx, Fx.mn]; repeat' split <;> omega)) (by (simp only [Fx.mx]; repeat' split <;> omega))) rfl, (by repeat (first | exact Below.refl _ _ | refine Below.setCell ?_ (by first | (simp; done) | (simp; omega) | omega) _ | refine below_drewN ?_ _ | refine Below.alloc ?_ (by first | (simp; done) | (simp; omega) | omega) _ | refine Below.trans ?_ (hb2.mono (by first | (simp; done) | (simp; omega) | omega)) | refine Below.trans ?_ (hb.mono (by first | (simp; done) | (simp; omega) | omega))))⟩))
  · have xb : (x == 0) = false := by simp; omega
    clear hz hzb
    by_cases hy : y < 0
    · (go_enter Tryd.func30, Tryd.ntmps30
       go_wp2_with fail
       refine (fixed2_any _ x y _ (by simp) (by simp [go_sem]) (by simp [go_sem])).mono ?_; rintro e w' ⟨rfl, hb⟩; have hsz := hb.size; simp at hsz
       rw [HV.out]
       go_wp2_with fail
       all_goals (refine (shallow_v _ _ _ (by omega) (by omega) (by omega)).mono ?_; rintro e w1 ⟨⟨g, rfl, HG, g0, g1⟩, rfl⟩; go_wp2_with fail)
       all_goals (go_ret2; exact ⟨ret_two (Fx.agV_is _ _ _ _ g _ HG.out (by (simp only [Fx.mx]; repeat' split <;> omega)) (by (simp only [Fx.mx, Fx.mn]; repeat' split <;> omega)) (by (simp only [Fx.mx]; repeat' split <;> omega))) rfl, (by repeat (first | exact Below.refl _ _ | refine Below.setCell ?_ (by first | (simp; done) | (simp; omega) | omega) _ | refine below_drewN ?_ _ | refine Below.alloc ?_ (by first | (simp; done) | (simp; omega) | omega) _ | refine Below.trans ?_ (hb2.mono (by first | (simp; done) | (simp; omega) | omega)) | refine Below.trans ?_ (hb.mono (by first | (simp; done) | (simp; omega) | omega))))⟩))
    · (go_enter Tryd.func30, Tryd.ntmps30
       go_wp2_with fail
       refine (fixed2_any _ x y _ (by simp) (by simp [go_sem]) (by simp [go_sem])).mono ?_; rintro e w' ⟨rfl, hb⟩; have hsz := hb.size; simp at hsz
       rw [HV.out]
       go_wp2_with fail
       all_goals (refine (shallow_v _ _ _ (by omega) (by omega) (by omega)).mono ?_; rintro e w1 ⟨⟨g, rfl, HG, g0, g1⟩, rfl⟩; go_wp2_with fail)
       all_goals (go_ret2; exact ⟨ret_two (Fx.agV_is _ _ _ _ g _ HG.out (by (simp only [Fx.mx]; repeat' split <;> omega)) (by (simp only [Fx.mx, Fx.mn]; repeat' split <;> omega)) (by (simp only [Fx.mx]; repeat' split <;> omega))) rfl, (by repeat (first | exact Below.refl _ _ | refine Below.setCell ?_ (by first | (simp; done) | (simp; omega) | omega) _ | refine below_drewN ?_ _ | refine Below.alloc ?_ (by first | (simp; done) | (simp; omega) | omega) _ | refine Below.trans ?_ (hb2.mono (by first | (simp; done) | (simp; omega) | omega)) | refine Below.trans ?_ (hb.mono (by first | (simp; done) | (simp; omega) | omega))))⟩))

set_option maxHeartbeats 400000 in
theorem arg_any (x y : Int) (w : World) : Calls Tryd.prog 30 #[.int .i64 x, .int .i64 y] w fun e w' => e = .returned (.tuple #[.int .i64 (Fx.arN x y), .int .i64 (Fx.arE x y)]) ∧ Below w.heap.size w w' := by
  cases hv : (Fx.fxd x && Fx.fxd y)
  · have HV := Lib.hid hv
    clear hv
    rw [Fx.arN, Fx.arE, HV.out, if_neg (by decide), if_neg (by decide)]
    go_enter Tryd.func30, Tryd.ntmps30
    go_wp2_with fail
    refine (fixed2_any _ x y _ (by simp) (by simp [go_sem]) (by simp [go_sem])).mono ?_; rintro e w' ⟨rfl, hb⟩; have hsz := hb.size; simp at hsz
    rw [HV.out]
    go_wp2_with fail
    go_ret2
    exact ⟨rfl, (by repeat (first | exact Below.refl _ _ | refine Below.setCell ?_ (by first | (simp; done) | (simp; omega) | omega) _ | refine below_drewN ?_ _ | refine Below.alloc ?_ (by first | (simp; done) | (simp; omega) | omega) _ | refine Below.trans ?_ (hb2.mono (by first | (simp; done) | (simp; omega) | omega)) | refine Below.trans ?_ (hb.mono (by first | (simp; done) | (simp; omega) | omega))))⟩
  have HV := Lib.hid hv
  obtain ⟨⟨x1, x2⟩, y1, y2⟩ := Fx.and_bd hv
  clear hv
  rw [Fx.arN, Fx.arE, HV.out, if_pos rfl, if_pos rfl]
  by_cases hz : x = 0 ∧ y = 0
  · obtain ⟨rfl, rfl⟩ := hz
    rw [if_pos ⟨rfl, rfl⟩, if_pos ⟨rfl, rfl⟩]
    go_enter Tryd.func30, Tryd.ntmps30
    go_wp2_with fail
    refine (fixed2_any _ 0 0 _ (by simp) (by simp [go_sem]) (by simp [go_sem])).mono ?_; rintro e w' ⟨rfl, hb⟩; have hsz := hb.size; simp at hsz
    rw [HV.out]
    go_wp2_with fail
    go_ret2
    exact ⟨rfl, (by repeat (first | exact Below.refl _ _ | refine Below.setCell ?_ (by first | (simp; done) | (simp; omega) | omega) _ | refine below_drewN ?_ _ | refine Below.alloc ?_ (by first | (simp; done) | (simp; omega) | omega) _ | refine Below.trans ?_ (hb2.mono (by first | (simp; done) | (simp; omega) | omega)) | refine Below.trans ?_ (hb.mono (by first | (simp; done) | (simp; omega) | omega))))⟩
  · rw [if_neg hz, if_neg hz]
    exact arg_any_core x y w x1 x2 y1 y2 hz HV

theorem first_v (X Y : Int) (w : World) (h0 : 0 ≤ Y) (h1 : Y ≤ X) (h2 : X ≤ 2147483647) :
    Calls Tryd.prog 57 #[.int .i64 X, .int .i64 Y] w fun e w' => (∃ g, e = .returned (.int .i64 g) ∧ Hid (g = Fx.ag X Y) ∧ 0 ≤ g ∧ g ≤ 47185920) ∧ w = w' :=
  (first_any X Y w h0 h1 h2).mono fun _ _ ⟨h, k⟩ => ⟨⟨_, h, rfl, Fx.ag_bd X Y⟩, k⟩
set_option maxHeartbeats 1600000 in
theorem rarg_any_core (x y : Int) (w : World) (x1 : -2147483647 ≤ x) (x2 : x ≤ 2147483647) (y1 : -2147483647 ≤ y) (y2 : y ≤ 2147483647) (hz : ¬ (x = 0 ∧ y = 0)) (HV : Hid ((Fx.fxd x && Fx.fxd y) = true)) :
    Calls Tryd.prog 31 #[.int .i64 x, .int .i64 y] w fun e w' => e = .returned (.tuple #[.int .i64 (Fx.agV x y), .int .i64 0]) ∧ Below w.heap.size w w' := by
  have hzb : (x == 0 && y == 0) = false := by
    cases h : (x == 0 && y == 0)
    · rfl
    · simp at h; exact absurd h hz
  by_cases hx : x < 0
  · have xb : (x == 0) = false := by simp; omega
    clear hz hzb
    by_cases hy : y < 0
    · (go_enter Tryd.func31, Tryd.ntmps31
       go_wp2_with fail
       refine (is2_any _ x y _ (by simp) (by simp [go_sem]) (by simp [go_sem])).mono ?_; rintro e w' ⟨rfl, hb⟩; have hsz := hb.size; simp at hsz
       rw [HV.out]
       go_wp2_with fail
       all_goals (refine (first_v _ _ _ (by omega) (by omega) (by omega)).mono ?_; rintro e w1 ⟨⟨g, rfl, HG, g0, g1⟩, rfl⟩; go_wp2_with fail)
       all_goals (go_ret2; exact ⟨ret_two (Fx.agV_is _ _ _ _ g _ HG.out (by (simp only [Fx.mx]; repeat' split <;> omega)) (by (simp only [Fx.mx, Fx.mn]; repeat' split <;> omega)) (by (simp only [Fx.mx]; repeat' split <;> omega))) rfl, (by repeat (first | exact Below.refl _ _ | refine Below.setCell ?_ (by first | (simp; done) | (simp; omega) | omega) _ | refine below_drewN ?_ _ | refine Below.alloc ?_ (by first | (simp; done) | (simp; omega) | omega) _ | refine Below.trans ?_ (hb2.mono (by first | (simp; done) | (simp; omega) | omega)) | refine Below.trans ?_ (hb.mono (by first | (simp; done) | (simp; omega) | omega))))⟩))
    · (go_enter Tryd.func31, Tryd.ntmps31
       go_wp2_with fail
       refine (is2_any _ x y _ (by simp) (by simp [go_sem]) (by simp [go_sem])).mono ?_; rintro e w' ⟨rfl, hb⟩; have hsz := hb.size; simp at hsz
       rw [HV.out]
       go_wp2_with fail
       all_goals (refine (first_v _ _ _ (by omega) (by omega) (by omega)).mono ?_; rintro e w1 ⟨⟨g, rfl, HG, g0, g1⟩, rfl⟩; go_wp2_with fail)
       all_goals (go_ret2; exact ⟨ret_two (Fx.agV_is _ _ _ _ g _ HG.out (by (simp only [Fx.mx]; repeat' split <;> omega)) (by (simp only [Fx.mx, Fx.mn]; repeat' split <;> omega)) (by (simp only [Fx.mx]; repeat' split <;> omega))) rfl, (by repeat (first | exact Below.refl _ _ | refine Below.setCell ?_ (by first | (simp; done) | (simp; omega) | omega) _ | refine below_drewN ?_ _ | refine Below.alloc ?_ (by first | (simp; done) | (simp; omega) | omega) _ | refine Below.trans ?_ (hb2.mono (by first | (simp; done) | (simp; omega) | omega)) | refine Below.trans ?_ (hb.mono (by first | (simp; done) | (simp; omega) | omega))))⟩))
  by_cases hx0 : x = 0
  · subst hx0
    have yb : (y == 0) = false := by simp; omega
    clear hz hzb
    by_cases hy : y < 0
    · (go_enter Tryd.func31, Tryd.ntmps31
       go_wp2_with fail
       refine (is2_any _ 0 y _ (by simp) (by simp [go_sem]) (by simp [go_sem])).mono ?_; rintro e w' ⟨rfl, hb⟩; have hsz := hb.size; simp at hsz
       rw [HV.out]
       go_wp2_with fail
       all_goals (refine (first_v _ _ _ (by omega) (by omega) (by omega)).mono ?_; rintro e w1 ⟨⟨g, rfl, HG, g0, g1⟩, rfl⟩; go_wp2_with fail)
       all_goals (go_ret2; exact ⟨ret_two (Fx.agV_is _ _ _ _ g _ HG.out (by (simp only [Fx.mx]; repeat' split <;> omega)) (by (simp only [Fx.mx, Fx.mn]; repeat' split <;> omega)) (by (simp only [Fx.mx]; repeat' split <;> omega))) rfl, (by repeat (first | exact Below.refl _ _ | refine Below.setCell ?_ (by first | (simp; done) | (simp; omega) | omega) _ | refine below_drewN ?_ _ | refine Below.alloc ?_ (by first | (simp; done) | (simp; omega) | omega) _ | refine Below.trans ?_ (hb2.mono (by first | (simp; done) | (simp; omega) | omega)) | refine Below.trans ?_ (hb.mono (by first | (simp; done) | (simp; omega) | omega))))⟩))
    · (go_enter Tryd.func31, Tryd.ntmps31
       go_wp2_with fail
       refine (is2_any _ 0 y _ (by simp) (by simp [go_sem]) (by simp [go_sem])).mono ?_; rintro e w' ⟨rfl, hb⟩; have hsz := hb.size; simp at hsz
       rw [HV.out]
       go_wp2_with fail
       all_goals (refine (first_v _ _ _ (by omega) (by omega) (by omega)).mono ?_; rintro e w1 ⟨⟨g, rfl, HG, g0, g1⟩, rfl⟩; go_wp2_with fail)
       all_goals (go_ret2; exact ⟨ret_two (Fx.agV_is _ _ _ _ g _ HG.out (by (simp only [Fx.mx]; repeat' split <;> omega)) (by (simp only [Fx.mx, Fx.mn]; repeat' split <;> omega)) (by (simp only [Fx.mx]; repeat' split <;> omega))) rfl, (by repeat (first | exact Below.refl _ _ | refine Below.setCell ?_ (by first | (simp; done) | (simp; omega) | omega) _ | refine below_drewN ?_ _ | refine Below.alloc ?_ (by first | (simp; done) | (simp; omega) | omega) _ | refine Below.trans ?_ (hb2.mono (by first | (simp; done) | (simp; omega) | omega)) | refine Below.trans ?_ (hb.mono (by first | (simp; done) | (simp; omega) | omega))))⟩))
  · have xb : (x == 0) = false := by simp; omega
    clear hz hzb
    by_cases hy : y < 0
    · (go_enter Tryd.func31, Tryd.ntmps31
       go_wp2_with fail
       refine (is2_any _ x y _ (by simp) (by simp [go_sem]) (by simp [go_sem])).mono ?_; rintro e w' ⟨rfl, hb⟩; have hsz := hb.size; simp at hsz
       rw [HV.out]
       go_wp2_with fail
       all_goals (refine (first_v _ _ _ (by omega) (by omega) (by omega)).mono ?_; rintro e w1 ⟨⟨g, rfl, HG, g0, g1⟩, rfl⟩; go_wp2_with fail)
       all_goals (go_ret2; exact ⟨ret_two (Fx.agV_is _ _ _ _ g _ HG.out (by (simp only [Fx.mx]; repeat' split <;> omega)) (by (simp only [Fx.mx, Fx.mn]; repeat' split <;> omega)) (by (simp only [Fx.mx]; repeat' split <;> omega))) rfl, (by repeat (first | exact Below.refl _ _ | refine Below.setCell ?_ (by first | (simp; done) | (simp; omega) | omega) _ | refine below_drewN ?_ _ | refine Below.alloc ?_ (by first | (simp; done) | (simp; omega) | omega) _ | refine Below.trans ?_ (hb2.mono (by first | (simp; done) | (simp; omega) | omega)) | refine Below.trans ?_ (hb.mono (by first | (simp; done) | (simp; omega) | omega))))⟩))
    · (go_enter Tryd.func31, Tryd.ntmps31
       go_wp2_with fail
       refine (is2_any _ x y _ (by simp) (by simp [go_sem]) (by simp [go_sem])).mono ?_; rintro e w' ⟨rfl, hb⟩; have hsz := hb.size; simp at hsz
       rw [HV.out]
       go_wp2_with fail
       all_goals (refine (first_v _ _ _ (by omega) (by omega) (by omega)).mono ?_; rintro e w1 ⟨⟨g, rfl, HG, g0, g1⟩, rfl⟩; go_wp2_with fail)
       all_goals (go_ret2; exact ⟨ret_two (Fx.agV_is _ _ _ _ g _ HG.out (by (simp only [Fx.mx]; repeat' split <;> omega)) (by (simp only [Fx.mx, Fx.mn]; repeat' split <;> omega)) (by (simp only [Fx.mx]; repeat' split <;> omega))) rfl, (by repeat (first | exact Below.refl _ _ | refine Below.setCell ?_ (by first | (simp; done) | (simp; omega) | omega) _ | refine below_drewN ?_ _ | refine Below.alloc ?_ (by first | (simp; done) | (simp; omega) | omega) _ | refine Below.trans ?_ (hb2.mono (by first | (simp; done) | (simp; omega) | omega)) | refine Below.trans ?_ (hb.mono (by first | (simp; done) | (simp; omega) | omega))))⟩))

set_option maxHeartbeats 400000 in
theorem rarg_any (x y : Int) (w : World) : Calls Tryd.prog 31 #[.int .i64 x, .int .i64 y] w fun e w' => e = .returned (.tuple #[.int .i64 (Fx.arN x y), .int .i64 (Fx.arE x y)]) ∧ Below w.heap.size w w' := by
  cases hv : (Fx.fxd x && Fx.fxd y)
  · have HV := Lib.hid hv
    clear hv
    rw [Fx.arN, Fx.arE, HV.out, if_neg (by decide), if_neg (by decide)]
    go_enter Tryd.func31, Tryd.ntmps31
    go_wp2_with fail
    refine (is2_any _ x y _ (by simp) (by simp [go_sem]) (by simp [go_sem])).mono ?_; rintro e w' ⟨rfl, hb⟩; have hsz := hb.size; simp at hsz
    rw [HV.out]
    go_wp2_with fail
    go_ret2
    exact ⟨rfl, (by repeat (first | exact Below.refl _ _ | refine Below.setCell ?_ (by first | (simp; done) | (simp; omega) | omega) _ | refine below_drewN ?_ _ | refine Below.alloc ?_ (by first | (simp; done) | (simp; omega) | omega) _ | refine Below.trans ?_ (hb2.mono (by first | (simp; done) | (simp; omega) | omega)) | refine Below.trans ?_ (hb.mono (by first | (simp; done) | (simp; omega) | omega))))⟩
  have HV := Lib.hid hv
  obtain ⟨⟨x1, x2⟩, y1, y2⟩ := Fx.and_bd hv
  clear hv
  rw [Fx.arN, Fx.arE, HV.out, if_pos rfl, if_pos rfl]
  by_cases hz : x = 0 ∧ y = 0
  · obtain ⟨rfl, rfl⟩ := hz
    rw [if_pos ⟨rfl, rfl⟩, if_pos ⟨rfl, rfl⟩]
    go_enter Tryd.func31, Tryd.ntmps31
    go_wp2_with fail
    refine (is2_any _ 0 0 _ (by simp) (by simp [go_sem]) (by simp [go_sem])).mono ?_; rintro e w' ⟨rfl, hb⟩; have hsz := hb.size; simp at hsz
    rw [HV.out]
    go_wp2_with fail
    go_ret2
    exact ⟨rfl, (by repeat (first | exact Below.refl _ _ | refine Below.setCell ?_ (by first | (simp; done) | (simp; omega) | omega) _ | refine below_drewN ?_ _ | refine Below.alloc ?_ (by first | (simp; done) | (simp; omega) | omega) _ | refine Below.trans ?_ (hb2.mono (by first | (simp; done) | (simp; omega) | omega)) | refine Below.trans ?_ (hb.mono (by first | (simp; done) | (simp; omega) | omega))))⟩
  · rw [if_neg hz, if_neg hz]
    exact rarg_any_core x y w x1 x2 y1 y2 hz HV

end Go.Proofs.YtanhomngnickfaaDoor
