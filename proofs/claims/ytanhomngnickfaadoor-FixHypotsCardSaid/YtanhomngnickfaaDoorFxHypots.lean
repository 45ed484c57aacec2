/-
  The walk of FixHypots: it returns true at any integers.
-/
-- LAW 02
import Derived.Test.YtanhomngnickfaaDoorFxAwake
import Derived.Deep.DeepCutAuto
import Derived.Deep.CutBlock
namespace Go.Proofs.YtanhomngnickfaaDoor
open Go.RowKit

/-- What is said of a length: no error, or between the sides and their sum. -/
def HypOk (a b h e : Int) : Prop := e ≠ 0 ∨ e = 0 ∧ -2147483647 ≤ a ∧ a ≤ 2147483647 ∧ -2147483647 ≤ b ∧ b ≤ 2147483647 ∧ a ≤ h ∧ -a ≤ h ∧ b ≤ h ∧ -b ≤ h ∧ (h ≤ a + b ∨ h ≤ a - b ∨ h ≤ -a + b ∨ h ≤ -a - b)
/-- What is said of a root: no error, or its square is near. -/
def SqOk (a r e : Int) : Prop := e ≠ 0 ∨ e = 0 ∧ 0 ≤ a ∧ a ≤ 2147483647 ∧ 0 ≤ r ∧ r ≤ 2147483647 ∧ r * r - a * 65536 ≤ r ∧ -r ≤ r * r - a * 65536
theorem hyp_ok (a b : Int) : HypOk a b (Fx.hyN a b) (Fx.hyE a b) := by
  unfold HypOk Fx.hyN Fx.hyE
  cases hv : (Fx.fxd a && Fx.fxd b)
  · left; rw [if_neg (by decide)]; decide
  · rw [if_pos rfl, if_pos rfl]
    obtain ⟨⟨x1, x2⟩, y1, y2⟩ := Fx.and_bd hv
    obtain ⟨m1, m2⟩ := Fx.mul_bd a a x1 x2 x1 x2
    obtain ⟨n1, n2⟩ := Fx.mul_bd b b y1 y2 y1 y2
    obtain ⟨h1, h2, h3⟩ := Fx.hyp_bd a b (by omega)
    unfold Fx.tolE Fx.tolN
    cases hf : Fx.fxd (Fx.rtd (a * a + b * b))
    · left; decide
    · right
      rw [if_pos rfl, if_pos rfl]
      generalize Fx.rtd (a * a + b * b) = h at *
      refine ⟨rfl, x1, x2, y1, y2, by omega, by omega, by omega, by omega, by omega⟩
theorem sq_ok (a : Int) : SqOk a (Fx.sqN a) (Fx.sqE a) := by
  unfold SqOk Fx.sqN Fx.sqE
  cases hv : Fx.fxd a
  · left; rw [if_neg (by decide)]; decide
  · rw [if_pos rfl, if_pos rfl]
    obtain ⟨x1, x2⟩ := Fx.fxd_bd hv
    by_cases hn : a < 0
    · rw [if_pos hn]; left; decide
    · rw [if_neg hn, if_neg hn]
      have h := Fx.rtd_near (65536 * a) (by omega) (by omega)
      have h2 := (Fx.rtd_bd (65536 * a) (by omega) (by omega)).1
      unfold Fx.tolE Fx.tolN
      cases hf : Fx.fxd (Fx.rtd (65536 * a))
      · left; decide
      · right
        rw [if_pos rfl, if_pos rfl]
        have h3 := Fx.fxd_bd hf
        generalize Fx.rtd (65536 * a) = r at *
        refine ⟨rfl, by omega, x2, h2, h3.2, by omega, by omega⟩
theorem hyp_345 (s : Int) (h0 : -429496729 ≤ s) (h1 : s ≤ 429496729) : Fx.hyN (3 * s) (4 * s) = Fx.mx (5 * s) (-5 * s) ∧ Fx.hyE (3 * s) (4 * s) = 0 := by
  have e1 : Fx.fxd (3 * s) = true := decide_eq_true (by omega)
  have e2 : Fx.fxd (4 * s) = true := decide_eq_true (by omega)
  have e3 : 3 * s * (3 * s) + 4 * s * (4 * s) = (Fx.mx (5 * s) (-5 * s)) * (Fx.mx (5 * s) (-5 * s)) := by
    unfold Fx.mx; split <;> grind
  have b0 : 0 ≤ Fx.mx (5 * s) (-5 * s) ∧ Fx.mx (5 * s) (-5 * s) ≤ 2147483645 := by unfold Fx.mx; split <;> omega
  have b1 : Fx.mx (5 * s) (-5 * s) * Fx.mx (5 * s) (-5 * s) ≤ 9223372036854775807 := by
    have := (Fx.mul_bd (Fx.mx (5 * s) (-5 * s)) (Fx.mx (5 * s) (-5 * s)) (by omega) (by omega) (by omega) (by omega)).2
    omega
  have e4 := Fx.rtd_sq _ b0.1 b1
  have e5 : Fx.fxd (Fx.mx (5 * s) (-5 * s)) = true := decide_eq_true (by omega)
  unfold Fx.hyN Fx.hyE
  rw [e1, e2, e3, e4, Bool.true_and, if_pos rfl, if_pos rfl, Fx.tolN, Fx.tolE, e5]
  exact ⟨rfl, rfl⟩

theorem ne_bool {x y : Int} (h : x = y) : (x != y) = false := by simp [h]
set_option maxRecDepth 100000 in
set_option maxHeartbeats 4000000 in
theorem hypots_core (a b s h e1 g e2 r e3 : Int) (w : World) (he : Env w)
    (c1 : ∀ w, Calls Tryd.prog 22 #[.int .i64 a, .int .i64 b] w fun e w' => e = .returned (.tuple #[.int .i64 h, .int .i64 e1]) ∧ Below w.heap.size w w')
    (c2 : -429496729 ≤ s → s ≤ 429496729 → ∀ w, Calls Tryd.prog 22 #[.int .i64 (3 * s), .int .i64 (4 * s)] w fun e w' => e = .returned (.tuple #[.int .i64 g, .int .i64 0]) ∧ Below w.heap.size w w')
    (c3 : ∀ w, Calls Tryd.prog 20 #[.int .i64 a] w fun e w' => e = .returned (.tuple #[.int .i64 r, .int .i64 e3]) ∧ Below w.heap.size w w')
    (q1 : HypOk a b h e1) (q2 : g = Fx.mx (5 * s) (-5 * s)) (q3 : SqOk a r e3) (_k : e2 = 0)
    (lo_a : -9223372036854775808 ≤ a) (hi_a : a ≤ 9223372036854775807) (lo_b : -9223372036854775808 ≤ b) (hi_b : b ≤ 9223372036854775807) (lo_s : -9223372036854775808 ≤ s) (hi_s : s ≤ 9223372036854775807) :
    Calls Tryd.prog 10 #[.int .i64 a, .int .i64 b, .int .i64 s] w fun e w' => e = .returned (.bool true) ∧ Below w.heap.size w w' := by
  have HE := Lib.hid he
  have C1 := Lib.hid c1
  have C2 := Lib.hid c2
  have C3 := Lib.hid c3
  have Q1 := Lib.hid q1
  have Q2 := Lib.hid q2
  have Q3 := Lib.hid q3
  clear he c1 c2 c3 q1 q2 q3
  go_enter Tryd.func10, Tryd.ntmps10
  go_wp2_with fail
  refine (C1.out _).mono ?_; rintro e w1 ⟨rfl, hb⟩
  go_upto_if 23 with fail
  go_cut [] (fun wx => w1 = wx)
  case first =>
    clear C1 C2 C3 Q2 Q3 HE
    rcases Q1.out with he1 | ⟨he1, x1, x2, y1, y2, k1, k2, k3, k4, k5⟩
    · have eb : (e1 == 0) = false := by simpa using he1
      clear Q1
      go_wp2_with fail
      go_meet
      rfl
    · have eb : (e1 == 0) = true := by simpa using he1
      clear Q1 he1
      by_cases ha : a < 0
      · by_cases hb0 : b < 0
        · have k6 : h ≤ -a + -b := by omega
          clear k5
          go_wp2_with fail
          all_goals (go_meet; rfl)
        · have k6 : h ≤ -a + b := by omega
          clear k5
          go_wp2_with fail
          all_goals (go_meet; rfl)
      · by_cases hb0 : b < 0
        · have k6 : h ≤ a + -b := by omega
          clear k5
          go_wp2_with fail
          all_goals (go_meet; rfl)
        · have k6 : h ≤ a + b := by omega
          clear k5
          go_wp2_with fail
          all_goals (go_meet; rfl)
  case rest =>
    subst hcut
    clear Q1 C1
    go_upto_region 6 with fail
    go_cut [49] (fun q wx => (∃ bb : Bool, q = .bool bb ∧ (bb = true → -429496729 ≤ s ∧ s ≤ 429496729)) ∧ w1 = wx)
    case first =>
      by_cases hs1 : -429496729 ≤ s
      · by_cases hs2 : s ≤ 429496729
        · go_wp2_with fail
          go_meet
          exact ⟨⟨true, rfl, fun _ => ⟨hs1, hs2⟩⟩, rfl⟩
        · go_wp2_with fail
          go_meet
          exact ⟨⟨false, rfl, fun h => by cases h⟩, rfl⟩
      · go_wp2_with fail
        go_meet
        exact ⟨⟨false, rfl, fun h => by cases h⟩, rfl⟩
    case rest =>
      obtain ⟨⟨bb, rfl, hbb⟩, hw⟩ := hcut
      subst hw
      have HBB := Lib.hid hbb
      clear hbb
      go_upto_if 49 with fail
      go_cut [] (fun wx => Below w.heap.size w wx)
      case first =>
        cases bb
        · clear HBB C2
          go_wp2_with fail
          go_meet
          exact hb
        · obtain ⟨s1, s2⟩ := HBB.out rfl
          have HC := Lib.hid (C2.out s1 s2)
          clear HBB C2
          by_cases hs : s < 0
          · have eg : g = -5 * s := by rw [Q2.out]; unfold Fx.mx; rw [if_pos (by omega)]
            clear Q2
            subst eg
            go_wp2_with fail
            refine (HC.out _).mono ?_; rintro e w2 ⟨rfl, hb2⟩; replace hb := hb.trans (hb2.mono hb.size); clear hb2
            go_wp2_with fail
            all_goals (go_meet; exact hb)
          · have eg : g = 5 * s := by rw [Q2.out]; unfold Fx.mx; split <;> omega
            clear Q2
            subst eg
            go_wp2_with fail
            refine (HC.out _).mono ?_; rintro e w2 ⟨rfl, hb2⟩; replace hb := hb.trans (hb2.mono hb.size); clear hb2
            go_wp2_with fail
            all_goals (go_meet; exact hb)
      case rest =>
        clear hb HBB
        rename_i wy
        have HB := Lib.hid hcut
        clear hcut
        go_wp2_with fail
        refine (C3.out _).mono ?_; rintro e w2 ⟨rfl, hb2⟩; replace HB := Lib.hid (HB.out.trans (hb2.mono HB.out.size)); clear hb2
        go_upto_if 75 with fail
        go_cut [] (fun wx => w2 = wx)
        case first =>
          clear C2 C3 HE Q2
          rcases Q3.out with he1 | ⟨he1, x1, x2, y1, y2, k1, k2⟩
          · have eb : (e3 == 0) = false := by simpa using he1
            clear Q3
            go_wp2_with fail
            go_meet
            rfl
          · have eb : (e3 == 0) = true := by simpa using he1
            have rr := (Fx.mul_bd r r (by omega) y2 (by omega) y2)
            have rn := Fx.sq_nn r
            have ww : IntKind.i64.wrap (r * r) = r * r := IntWalk.i64_in _ (by omega)
            have w3 : IntKind.i64.wrap (r * r - a * 65536) = r * r - a * 65536 := IntWalk.i64_in _ (by omega)
            clear Q3 he1 rr rn
            go_wp2_with fail
            all_goals (go_meet; rfl)
        case rest =>
          subst hcut
          go_wp2_with fail
          refine (awake_any _ (HE.out.below HB.out)).mono ?_; rintro e w3 ⟨rfl, hb3⟩
          go_wp2_with fail
          go_ret
          exact ⟨rfl, HB.out.trans (hb3.mono HB.out.size)⟩

theorem fixHypots_walk (a b s : Int) (w : World) (he : Env w) (lo_a : -9223372036854775808 ≤ a) (hi_a : a ≤ 9223372036854775807) (lo_b : -9223372036854775808 ≤ b) (hi_b : b ≤ 9223372036854775807) (lo_s : -9223372036854775808 ≤ s) (hi_s : s ≤ 9223372036854775807) :
    Calls Tryd.prog 10 #[.int .i64 a, .int .i64 b, .int .i64 s] w fun e w' => e = .returned (.bool true) ∧ Below w.heap.size w w' :=
  hypots_core a b s _ _ _ 0 _ _ w he (fun w => hypot_any a b w) (fun h0 h1 w => by
      have h := hypot_any (3 * s) (4 * s) w
      rw [(hyp_345 s h0 h1).1, (hyp_345 s h0 h1).2] at h
      exact h) (fun w => sqrt_any a w) (hyp_ok a b) rfl (sq_ok a) rfl lo_a hi_a lo_b hi_b lo_s hi_s
end Go.Proofs.YtanhomngnickfaaDoor
