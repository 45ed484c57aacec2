/-
  Contracts of package fix and of the reference: square roots.
-/
-- LAW 02
import Derived.Test.YtanhomngnickfaaDoorFxB
import Derived.Laws.ShiftsVarLaws
namespace Go.Proofs.YtanhomngnickfaaDoor
open Go.RowKit

theorem rtF_succ_le {n : Int} {k : Nat} (h : (Fx.rtF n k + 2 ^ (31 - k)) * (Fx.rtF n k + 2 ^ (31 - k)) ≤ n) : Fx.rtF n (k + 1) = Fx.rtF n k + 2 ^ (31 - k) := by rw [Fx.rtF, if_pos h]
theorem rtF_succ_gt {n : Int} {k : Nat} (h : ¬ (Fx.rtF n k + 2 ^ (31 - k)) * (Fx.rtF n k + 2 ^ (31 - k)) ≤ n) : Fx.rtF n (k + 1) = Fx.rtF n k := by rw [Fx.rtF, if_neg h]
/-- What a round of the bits needs: no number is too large. -/
theorem rtF_step (n : Int) (h0 : 0 ≤ n) (h1 : n ≤ 9223372036854775807) (k : Nat) (hk : k < 32) :
    0 ≤ Fx.rtF n k ∧ Fx.rtF n k ≤ 4294967295 ∧ 1 ≤ (2 : Int) ^ (31 - k) ∧ (2 : Int) ^ (31 - k) ≤ 2147483648 ∧ Fx.rtF n k + 2 ^ (31 - k) ≤ 4294967295 ∧ 0 ≤ (Fx.rtF n k + 2 ^ (31 - k)) * (Fx.rtF n k + 2 ^ (31 - k)) ∧ (Fx.rtF n k + 2 ^ (31 - k)) * (Fx.rtF n k + 2 ^ (31 - k)) ≤ 18446744065119617025 := by
  obtain ⟨a1, a2, a3, a4⟩ := Fx.rtF_inv n h0 h1 k (by omega)
  rw [Fx.p2s k hk] at a2
  have hp := Fx.p2 (31 - k)
  have hp2 := Fx.p2le (31 - k) (by omega)
  generalize (2 : Int) ^ (31 - k) = p at *
  have b : Fx.rtF n k + p ≤ 4294967295 := by omega
  exact ⟨a1, by omega, hp, hp2, b, Int.mul_nonneg (by omega) (by omega), Int.mul_le_mul b b (by omega) (by omega)⟩

set_option maxHeartbeats 400000 in
theorem root_any (n : Int) (w : World) (h0 : 0 ≤ n) (h1 : n ≤ 9223372036854775807) :
    Calls Tryd.prog 50 #[.int .i64 n] w fun e w' => e = .returned (.int .i64 (Fx.rtd n)) ∧ w = w' := by
  obtain ⟨r0, r1, r2, r3⟩ := Fx.rt_spec n h0 h1
  have er : Fx.rt n = Fx.rtF n 32 := rfl
  have HD : Hid (Fx.rtd n = if Fx.rt n < n - Fx.rt n * Fx.rt n then Fx.rt n + 1 else Fx.rt n) := rfl
  go_enter Tryd.func50, Tryd.ntmps50
  go_wp2
  go_loop [9, 4] (fun vi vr => ∃ k : Nat, vi = .int .i64 k ∧ k ≤ 32 ∧ vr = .int .u64 (Fx.rtF n k)) (fun vi _ => 32 - (intOf vi).toNat)
  case atStart => exact ⟨0, rfl, by omega, rfl⟩
  case round =>
    obtain ⟨k, rfl, hk, rfl⟩ := hrel
    by_cases hkn : k < 32
    · obtain ⟨s1, s2, s3, s4, s5, s6, s7⟩ := rtF_step n h0 h1 k hkn
      have w1 : IntKind.u64.wrap (2 ^ (31 - k)) = 2 ^ (31 - k) := IntWalk.u64_in _ (by omega)
      have w2 : IntKind.u64.wrap (Fx.rtF n k + 2 ^ (31 - k)) = Fx.rtF n k + 2 ^ (31 - k) := IntWalk.u64_in _ (by omega)
      have w3 : IntKind.u64.wrap ((Fx.rtF n k + 2 ^ (31 - k)) * (Fx.rtF n k + 2 ^ (31 - k))) = (Fx.rtF n k + 2 ^ (31 - k)) * (Fx.rtF n k + 2 ^ (31 - k)) := IntWalk.u64_in _ (by omega)
      clear r0 r1 r2 r3 er HD
      by_cases hle : (Fx.rtF n k + 2 ^ (31 - k)) * (Fx.rtF n k + 2 ^ (31 - k)) ≤ n
      · have HS := Lib.hid (rtF_succ_le hle)
        go_wp2
        exact ⟨⟨k + 1, by go_num, by omega, by rw [HS.out]⟩, by simp [intOf]; omega⟩
      · have HS := Lib.hid (rtF_succ_gt hle)
        go_wp2
        exact ⟨⟨k + 1, by go_num, by omega, by rw [HS.out]⟩, by simp [intOf]; omega⟩
    · have e : k = 32 := by omega
      subst e
      rw [← er]
      clear er hk hkn
      generalize Fx.rt n = r at *
      have q : 0 ≤ r * r := Int.mul_nonneg r0 r0
      have w1 : IntKind.u64.wrap (r * r) = r * r := IntWalk.u64_in _ (by omega)
      have b1 : 0 ≤ n - r * r := by omega
      by_cases hlt : r < n - r * r
      · rw [if_pos hlt] at HD
        go_wp2
        go_ret
        exact ⟨ret_int HD.out.symm, rfl⟩
      · rw [if_neg hlt] at HD
        go_wp2
        go_ret
        exact ⟨ret_int HD.out.symm, rfl⟩

theorem sq_cap (x n : Int) (h0 : 0 ≤ x) (hn : n ≤ 9223372036854775807) (h : x * x ≤ n) : x ≤ 3037000499 := by
  have : x < 3037000500 := Fx.lt_of_sq (by omega) (by omega)
  omega

set_option maxHeartbeats 400000 in
theorem rroot_any (n : Int) (w : World) (h0 : 0 ≤ n) (h1 : n ≤ 9223372036854775807) :
    Calls Tryd.prog 84 #[.int .i64 n] w fun e w' => e = .returned (.int .i64 (Fx.rt n)) ∧ w = w' := by
  have HD : Hid (Fx.rt n = Fx.rtF n 32) := rfl
  go_enter Tryd.func84, Tryd.ntmps84
  go_wp2
  go_loop [4, 3] (fun vi vr => ∃ k : Nat, vi = .int .i64 (31 - (k : Int)) ∧ k ≤ 32 ∧ vr = .int .i64 (Fx.rtF n k)) (fun vi _ => (intOf vi + 1).toNat)
  case atStart => exact ⟨0, rfl, by omega, rfl⟩
  case round =>
    obtain ⟨k, rfl, hk, rfl⟩ := hrel
    by_cases hkn : k < 32
    · obtain ⟨s1, s2, s3, s4, s5, s6, s7⟩ := rtF_step n h0 h1 k hkn
      have w1 : IntKind.i64.wrap (2 ^ (31 - k)) = 2 ^ (31 - k) := IntWalk.i64_in _ (by omega)
      have w2 : IntKind.i64.wrap (Fx.rtF n k + 2 ^ (31 - k)) = Fx.rtF n k + 2 ^ (31 - k) := IntWalk.i64_in _ (by omega)
      have e31 : (31 - (k : Int)).toNat = 31 - k := by omega
      have g0 : 0 ≤ 31 - (k : Int) := by omega
      clear HD
      by_cases hle : (Fx.rtF n k + 2 ^ (31 - k)) * (Fx.rtF n k + 2 ^ (31 - k)) ≤ n
      · have HS := Lib.hid (rtF_succ_le hle)
        have hcap := sq_cap _ n (by omega) h1 hle
        have w3 : IntKind.i64.wrap ((Fx.rtF n k + 2 ^ (31 - k)) * (Fx.rtF n k + 2 ^ (31 - k))) = (Fx.rtF n k + 2 ^ (31 - k)) * (Fx.rtF n k + 2 ^ (31 - k)) := IntWalk.i64_in _ (by omega)
        go_wp2
        exact ⟨⟨k + 1, by go_num, by omega, by rw [HS.out]⟩, by simp [intOf]; omega⟩
      · have HS := Lib.hid (rtF_succ_gt hle)
        by_cases hcap : Fx.rtF n k + 2 ^ (31 - k) ≤ 3037000499
        · have s8 : (Fx.rtF n k + 2 ^ (31 - k)) * (Fx.rtF n k + 2 ^ (31 - k)) ≤ 9223372036854775807 := by
            have := Fx.sq_le (a := Fx.rtF n k + 2 ^ (31 - k)) (b := 3037000499) (by omega) hcap
            omega
          have w3 : IntKind.i64.wrap ((Fx.rtF n k + 2 ^ (31 - k)) * (Fx.rtF n k + 2 ^ (31 - k))) = (Fx.rtF n k + 2 ^ (31 - k)) * (Fx.rtF n k + 2 ^ (31 - k)) := IntWalk.i64_in _ (by omega)
          go_wp2
          exact ⟨⟨k + 1, by go_num, by omega, by rw [HS.out]⟩, by simp [intOf]; omega⟩
        · go_wp2
          exact ⟨⟨k + 1, by go_num, by omega, by rw [HS.out]⟩, by simp [intOf]; omega⟩
    · have e : k = 32 := by omega
      subst e
      go_wp2
      go_ret
      exact ⟨ret_int HD.out.symm, rfl⟩

set_option maxHeartbeats 400000 in
theorem rooted_any (n : Int) (w : World) (h0 : 0 ≤ n) (h1 : n ≤ 9223372036854775807) :
    Calls Tryd.prog 51 #[.int .i64 n] w fun e w' => e = .returned (.int .i64 (Fx.rtd n)) ∧ w = w' := by
  obtain ⟨r0, r1, r2, r3⟩ := Fx.rt_spec n h0 h1
  have HD : Hid (Fx.rtd n = if Fx.rt n < n - Fx.rt n * Fx.rt n then Fx.rt n + 1 else Fx.rt n) := rfl
  have q : 0 ≤ Fx.rt n * Fx.rt n := Int.mul_nonneg r0 r0
  have w1 : IntKind.i64.wrap (Fx.rt n * Fx.rt n) = Fx.rt n * Fx.rt n := IntWalk.i64_in _ (by omega)
  have b1 : 0 ≤ n - Fx.rt n * Fx.rt n := by omega
  by_cases hlt : Fx.rt n < n - Fx.rt n * Fx.rt n
  · rw [if_pos hlt] at HD
    go_enter Tryd.func51, Tryd.ntmps51
    go_wp2_with fail
    refine (rroot_any n _ h0 h1).mono ?_; rintro e w1 ⟨rfl, rfl⟩
    go_wp2
    go_ret
    exact ⟨ret_int HD.out.symm, rfl⟩
  · rw [if_neg hlt] at HD
    go_enter Tryd.func51, Tryd.ntmps51
    go_wp2_with fail
    refine (rroot_any n _ h0 h1).mono ?_; rintro e w1 ⟨rfl, rfl⟩
    go_wp2
    go_ret
    exact ⟨ret_int HD.out.symm, rfl⟩
set_option maxHeartbeats 400000 in
theorem sqrt_any (a : Int) (w : World) : Calls Tryd.prog 20 #[.int .i64 a] w fun e w' => e = .returned (.tuple #[.int .i64 (Fx.sqN a), .int .i64 (Fx.sqE a)]) ∧ Below w.heap.size w w' := by
  cases hv : Fx.fxd a
  · have HV := Lib.hid hv
    clear hv
    rw [Fx.sqN, Fx.sqE, HV.out, if_neg (by decide), if_neg (by decide)]
    go_enter Tryd.func20, Tryd.ntmps20
    go_wp2_with fail
    refine (fixed1_any _ a _ (by simp) (by simp [go_sem])).mono ?_; rintro e w' ⟨rfl, hb⟩; have hsz := hb.size; simp at hsz
    rw [HV.out]
    go_wp2_with fail
    go_ret2
    exact ⟨rfl, (by repeat (first | exact Below.refl _ _ | refine Below.setCell ?_ (by first | (simp; done) | (simp; omega) | omega) _ | refine below_drewN ?_ _ | refine Below.alloc ?_ (by first | (simp; done) | (simp; omega) | omega) _ | refine Below.trans ?_ (hb2.mono (by first | (simp; done) | (simp; omega) | omega)) | refine Below.trans ?_ (hb.mono (by first | (simp; done) | (simp; omega) | omega))))⟩
  · have HV := Lib.hid hv
    obtain ⟨x1, x2⟩ := Fx.fxd_bd hv
    clear hv
    rw [Fx.sqN, Fx.sqE, HV.out, if_pos rfl, if_pos rfl]
    by_cases hn : a < 0
    · rw [if_pos hn, if_pos hn]
      go_enter Tryd.func20, Tryd.ntmps20
      go_wp2_with fail
      refine (fixed1_any _ a _ (by simp) (by simp [go_sem])).mono ?_; rintro e w' ⟨rfl, hb⟩; have hsz := hb.size; simp at hsz
      rw [HV.out]
      go_wp2_with fail
      go_ret2
      exact ⟨rfl, (by repeat (first | exact Below.refl _ _ | refine Below.setCell ?_ (by first | (simp; done) | (simp; omega) | omega) _ | refine below_drewN ?_ _ | refine Below.alloc ?_ (by first | (simp; done) | (simp; omega) | omega) _ | refine Below.trans ?_ (hb2.mono (by first | (simp; done) | (simp; omega) | omega)) | refine Below.trans ?_ (hb.mono (by first | (simp; done) | (simp; omega) | omega))))⟩
    rw [if_neg hn, if_neg hn]
    go_enter Tryd.func20, Tryd.ntmps20
    go_wp2_with fail
    refine (fixed1_any _ a _ (by simp) (by simp [go_sem])).mono ?_; rintro e w' ⟨rfl, hb⟩; have hsz := hb.size; simp at hsz
    rw [HV.out]
    go_wp2_with fail
    refine (root_any (65536 * a) _ (by omega) (by omega)).mono ?_; rintro e w1 ⟨rfl, rfl⟩
    go_wp2_with fail
    refine (bounded_any (Fx.rtd (65536 * a)) _).mono ?_; rintro e w2 ⟨rfl, hb2⟩
    go_wp2_with fail
    go_ret2
    exact ⟨rfl, (by repeat (first | exact Below.refl _ _ | refine Below.setCell ?_ (by first | (simp; done) | (simp; omega) | omega) _ | refine below_drewN ?_ _ | refine Below.alloc ?_ (by first | (simp; done) | (simp; omega) | omega) _ | refine Below.trans ?_ (hb2.mono (by first | (simp; done) | (simp; omega) | omega)) | refine Below.trans ?_ (hb.mono (by first | (simp; done) | (simp; omega) | omega))))⟩

set_option maxHeartbeats 400000 in
theorem rsqrt_any (a : Int) (w : World) : Calls Tryd.prog 21 #[.int .i64 a] w fun e w' => e = .returned (.tuple #[.int .i64 (Fx.sqN a), .int .i64 (Fx.sqE a)]) ∧ Below w.heap.size w w' := by
  cases hv : Fx.fxd a
  · have HV := Lib.hid hv
    clear hv
    rw [Fx.sqN, Fx.sqE, HV.out, if_neg (by decide), if_neg (by decide)]
    go_enter Tryd.func21, Tryd.ntmps21
    go_wp2_with fail
    refine (is1_any _ a _ (by simp) (by simp [go_sem])).mono ?_; rintro e w' ⟨rfl, hb⟩; have hsz := hb.size; simp at hsz
    rw [HV.out]
    go_wp2_with fail
    go_ret2
    exact ⟨rfl, (by repeat (first | exact Below.refl _ _ | refine Below.setCell ?_ (by first | (simp; done) | (simp; omega) | omega) _ | refine below_drewN ?_ _ | refine Below.alloc ?_ (by first | (simp; done) | (simp; omega) | omega) _ | refine Below.trans ?_ (hb2.mono (by first | (simp; done) | (simp; omega) | omega)) | refine Below.trans ?_ (hb.mono (by first | (simp; done) | (simp; omega) | omega))))⟩
  · have HV := Lib.hid hv
    obtain ⟨x1, x2⟩ := Fx.fxd_bd hv
    clear hv
    rw [Fx.sqN, Fx.sqE, HV.out, if_pos rfl, if_pos rfl]
    by_cases hn : a < 0
    · rw [if_pos hn, if_pos hn]
      go_enter Tryd.func21, Tryd.ntmps21
      go_wp2_with fail
      refine (is1_any _ a _ (by simp) (by simp [go_sem])).mono ?_; rintro e w' ⟨rfl, hb⟩; have hsz := hb.size; simp at hsz
      rw [HV.out]
      go_wp2_with fail
      go_ret2
      exact ⟨rfl, (by repeat (first | exact Below.refl _ _ | refine Below.setCell ?_ (by first | (simp; done) | (simp; omega) | omega) _ | refine below_drewN ?_ _ | refine Below.alloc ?_ (by first | (simp; done) | (simp; omega) | omega) _ | refine Below.trans ?_ (hb2.mono (by first | (simp; done) | (simp; omega) | omega)) | refine Below.trans ?_ (hb.mono (by first | (simp; done) | (simp; omega) | omega))))⟩
    rw [if_neg hn, if_neg hn]
    rw [Int.mul_comm 65536 a]
    go_enter Tryd.func21, Tryd.ntmps21
    go_wp2_with fail
    refine (is1_any _ a _ (by simp) (by simp [go_sem])).mono ?_; rintro e w' ⟨rfl, hb⟩; have hsz := hb.size; simp at hsz
    rw [HV.out]
    go_wp2_with fail
    refine (rooted_any (a * 65536) _ (by omega) (by omega)).mono ?_; rintro e w1 ⟨rfl, rfl⟩
    go_wp2_with fail
    refine (told_any (Fx.rtd (a * 65536)) _).mono ?_; rintro e w2 ⟨rfl, hb2⟩
    go_wp2_with fail
    go_ret2
    exact ⟨rfl, (by repeat (first | exact Below.refl _ _ | refine Below.setCell ?_ (by first | (simp; done) | (simp; omega) | omega) _ | refine below_drewN ?_ _ | refine Below.alloc ?_ (by first | (simp; done) | (simp; omega) | omega) _ | refine Below.trans ?_ (hb2.mono (by first | (simp; done) | (simp; omega) | omega)) | refine Below.trans ?_ (hb.mono (by first | (simp; done) | (simp; omega) | omega))))⟩

set_option maxHeartbeats 400000 in
theorem hypot_any (a b : Int) (w : World) : Calls Tryd.prog 22 #[.int .i64 a, .int .i64 b] w fun e w' => e = .returned (.tuple #[.int .i64 (Fx.hyN a b), .int .i64 (Fx.hyE a b)]) ∧ Below w.heap.size w w' := by
  cases hv : (Fx.fxd a && Fx.fxd b)
  · have HV := Lib.hid hv
    clear hv
    rw [Fx.hyN, Fx.hyE, HV.out, if_neg (by decide), if_neg (by decide)]
    go_enter Tryd.func22, Tryd.ntmps22
    go_wp2_with fail
    refine (fixed2_any _ a b _ (by simp) (by simp [go_sem]) (by simp [go_sem])).mono ?_; rintro e w' ⟨rfl, hb⟩; have hsz := hb.size; simp at hsz
    rw [HV.out]
    go_wp2_with fail
    go_ret2
    exact ⟨rfl, (by repeat (first | exact Below.refl _ _ | refine Below.setCell ?_ (by first | (simp; done) | (simp; omega) | omega) _ | refine below_drewN ?_ _ | refine Below.alloc ?_ (by first | (simp; done) | (simp; omega) | omega) _ | refine Below.trans ?_ (hb2.mono (by first | (simp; done) | (simp; omega) | omega)) | refine Below.trans ?_ (hb.mono (by first | (simp; done) | (simp; omega) | omega))))⟩
  · have HV := Lib.hid hv
    obtain ⟨⟨x1, x2⟩, y1, y2⟩ := Fx.and_bd hv
    obtain ⟨z1, z2⟩ := Fx.mul_bd a a x1 x2 x1 x2
    obtain ⟨u1, u2⟩ := Fx.mul_bd b b y1 y2 y1 y2
    have z0 : 0 ≤ a * a := Fx.sq_nn a
    have u0 : 0 ≤ b * b := Fx.sq_nn b
    have w1 : IntKind.i64.wrap (a * a) = a * a := IntWalk.i64_in _ (by omega)
    have w2 : IntKind.i64.wrap (b * b) = b * b := IntWalk.i64_in _ (by omega)
    have w3 : IntKind.i64.wrap (a * a + b * b) = a * a + b * b := IntWalk.i64_in _ (by omega)
    clear hv
    rw [Fx.hyN, Fx.hyE, HV.out, if_pos rfl, if_pos rfl]
    go_enter Tryd.func22, Tryd.ntmps22
    go_wp2_with fail
    refine (fixed2_any _ a b _ (by simp) (by simp [go_sem]) (by simp [go_sem])).mono ?_; rintro e w' ⟨rfl, hb⟩; have hsz := hb.size; simp at hsz
    rw [HV.out]
    go_wp2_with fail
    refine (root_any (a * a + b * b) _ (by omega) (by omega)).mono ?_; rintro e w1 ⟨rfl, rfl⟩
    go_wp2_with fail
    refine (bounded_any (Fx.rtd (a * a + b * b)) _).mono ?_; rintro e w2 ⟨rfl, hb2⟩
    go_wp2_with fail
    go_ret2
    exact ⟨rfl, (by repeat (first | exact Below.refl _ _ | refine Below.setCell ?_ (by first | (simp; done) | (simp; omega) | omega) _ | refine below_drewN ?_ _ | refine Below.alloc ?_ (by first | (simp; done) | (simp; omega) | omega) _ | refine Below.trans ?_ (hb2.mono (by first | (simp; done) | (simp; omega) | omega)) | refine Below.trans ?_ (hb.mono (by first | (simp; done) | (simp; omega) | omega))))⟩

set_option maxHeartbeats 400000 in
theorem rhypot_any (a b : Int) (w : World) : Calls Tryd.prog 23 #[.int .i64 a, .int .i64 b] w fun e w' => e = .returned (.tuple #[.int .i64 (Fx.hyN a b), .int .i64 (Fx.hyE a b)]) ∧ Below w.heap.size w w' := by
  cases hv : (Fx.fxd a && Fx.fxd b)
  · have HV := Lib.hid hv
    clear hv
    rw [Fx.hyN, Fx.hyE, HV.out, if_neg (by decide), if_neg (by decide)]
    go_enter Tryd.func23, Tryd.ntmps23
    go_wp2_with fail
    refine (is2_any _ a b _ (by simp) (by simp [go_sem]) (by simp [go_sem])).mono ?_; rintro e w' ⟨rfl, hb⟩; have hsz := hb.size; simp at hsz
    rw [HV.out]
    go_wp2_with fail
    go_ret2
    exact ⟨rfl, (by repeat (first | exact Below.refl _ _ | refine Below.setCell ?_ (by first | (simp; done) | (simp; omega) | omega) _ | refine below_drewN ?_ _ | refine Below.alloc ?_ (by first | (simp; done) | (simp; omega) | omega) _ | refine Below.trans ?_ (hb2.mono (by first | (simp; done) | (simp; omega) | omega)) | refine Below.trans ?_ (hb.mono (by first | (simp; done) | (simp; omega) | omega))))⟩
  · have HV := Lib.hid hv
    obtain ⟨⟨x1, x2⟩, y1, y2⟩ := Fx.and_bd hv
    obtain ⟨z1, z2⟩ := Fx.mul_bd a a x1 x2 x1 x2
    obtain ⟨u1, u2⟩ := Fx.mul_bd b b y1 y2 y1 y2
    have z0 : 0 ≤ a * a := Fx.sq_nn a
    have u0 : 0 ≤ b * b := Fx.sq_nn b
    have w1 : IntKind.i64.wrap (a * a) = a * a := IntWalk.i64_in _ (by omega)
    have w2 : IntKind.i64.wrap (b * b) = b * b := IntWalk.i64_in _ (by omega)
    have w3 : IntKind.i64.wrap (a * a + b * b) = a * a + b * b := IntWalk.i64_in _ (by omega)
    clear hv
    rw [Fx.hyN, Fx.hyE, HV.out, if_pos rfl, if_pos rfl]
    go_enter Tryd.func23, Tryd.ntmps23
    go_wp2_with fail
    refine (is2_any _ a b _ (by simp) (by simp [go_sem]) (by simp [go_sem])).mono ?_; rintro e w' ⟨rfl, hb⟩; have hsz := hb.size; simp at hsz
    rw [HV.out]
    go_wp2_with fail
    refine (rooted_any (a * a + b * b) _ (by omega) (by omega)).mono ?_; rintro e w1 ⟨rfl, rfl⟩
    go_wp2_with fail
    refine (told_any (Fx.rtd (a * a + b * b)) _).mono ?_; rintro e w2 ⟨rfl, hb2⟩
    go_wp2_with fail
    go_ret2
    exact ⟨rfl, (by repeat (first | exact Below.refl _ _ | refine Below.setCell ?_ (by first | (simp; done) | (simp; omega) | omega) _ | refine below_drewN ?_ _ | refine Below.alloc ?_ (by first | (simp; done) | (simp; omega) | omega) _ | refine Below.trans ?_ (hb2.mono (by first | (simp; done) | (simp; omega) | omega)) | refine Below.trans ?_ (hb.mono (by first | (simp; done) | (simp; omega) | omega))))⟩

end Go.Proofs.YtanhomngnickfaaDoor
