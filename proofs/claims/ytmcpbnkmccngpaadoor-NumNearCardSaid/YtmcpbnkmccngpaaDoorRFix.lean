/-
  Contracts: the reference's fixed numbers, digit by digit.
-/
-- LAW 01
import Derived.Test.YtmcpbnkmccngpaaDoorAwake
namespace Go.Proofs.YtmcpbnkmccngpaaDoor
open Go.RowKit

/-- What sixteen doublings end in is the fixed number. -/
theorem fx_of (p q n r : Int) (hq : 0 < q) (h : n * q + r = 65536 * p) (r0 : 0 ≤ r) (r1 : r < q) : Nm.fx p q = if q ≤ 2 * r then n + 1 else n := by
  have fb := (Nm.fm_bd p q).1 hq
  have fe : p.fmod q + q * p.fdiv q = p := Int.fmod_add_mul_fdiv p q
  unfold Nm.fx Nm.un
  generalize p.fdiv q = f at *
  generalize p.fmod q = m at *
  have e : (n - 65536 * f) * q + r = 65536 * m := by
    have : p = m + q * f := fe.symm
    subst this
    rw [Int.sub_mul, Int.mul_add] at *
    have e1 : 65536 * f * q = 65536 * (q * f) := by rw [Int.mul_assoc, Int.mul_comm f q]
    omega
  generalize hk : n - 65536 * f = k at e
  have e2 : 131072 * m + q = 2 * q * k + (2 * r + q) := by
    have : 2 * q * k = 2 * (k * q) := by rw [Int.mul_assoc, Int.mul_comm q k]
    omega
  have e3 : (131072 * m + q) / (2 * q) = k + (2 * r + q) / (2 * q) := by
    rw [e2, Int.add_comm (2 * q * k), Int.mul_comm (2 * q) k, Int.add_mul_ediv_right _ _ (by omega)]
    omega
  rw [e3]
  split
  · have : (2 * r + q) / (2 * q) = 1 := by
      have a1 : (2 * r + q) / (2 * q) < 2 := Int.ediv_lt_of_lt_mul (by omega) (by omega)
      have a2 : 1 ≤ (2 * r + q) / (2 * q) := Int.le_ediv_of_mul_le (by omega) (by omega)
      omega
    omega
  · have : (2 * r + q) / (2 * q) = 0 := Int.ediv_eq_zero_of_lt (by omega) (by omega)
    omega

def FixRel (p q : Int) (vn vr vi : Value) : Prop :=
  ∃ (k : Nat) (n r : Int), vn = .int .i64 n ∧ vr = .int .u64 r ∧ vi = .int .i64 k ∧ k ≤ 16 ∧ Hid (n * q + r = ((2 ^ k : Nat) : Int) * p) ∧ 0 ≤ r ∧ r < q ∧ Hid (n.natAbs + 1 ≤ 4294967295 * 2 ^ k)

theorem pow16 (k : Nat) (h : k ≤ 16) : 2 ^ k ≤ 65536 := Nat.le_trans (Nat.pow_le_pow_right (by omega) h) (by decide)

set_option maxRecDepth 100000 in
set_option maxHeartbeats 1000000 in
theorem rfixed_in (p q : Int) (w : World) (p0 : -9223372028264841218 ≤ p) (p1 : p ≤ 9223372028264841218) (q0 : 0 < q) (q1 : q ≤ 4611686014132420609) (f0 : -4294967294 ≤ p.fdiv q) (f1 : p.fdiv q ≤ 4294967294) :
    Calls Tryd.prog 57 #[.int .i64 p, .int .i64 q] w fun e w' => e = .returned (.tuple #[.int .i64 (Nm.fx p q), .bool true]) ∧ ∃ n, w' = w.drewN n := by
  obtain ⟨m0, m1⟩ := (Nm.fm_bd p q).1 q0
  have HFE : Hid (p.fmod q + q * p.fdiv q = p) := Int.fmod_add_mul_fdiv p q
  obtain ⟨fx, hfx⟩ : ∃ x, Nm.fx p q = x := ⟨_, rfl⟩
  have HX : Hid (∀ n r : Int, n * q + r = 65536 * p → 0 ≤ r → r < q → fx = if q ≤ 2 * r then n + 1 else n) := fun n r a b c => by rw [← hfx]; exact fx_of p q n r q0 a b c
  rw [hfx]
  clear hfx
  go_enter Tryd.func57, Tryd.ntmps57
  go_wp2_with fail
  refine (down_any p q _ (by omega) (by omega) q0 (by omega)).mono ?_; rintro e w' ⟨rfl, n, rfl⟩
  generalize p.fdiv q = f at *
  generalize p.fmod q = m at *
  go_wp2_with fail
  go_loop [6, 8, 9] (fun vn vr vi => FixRel p q vn vr vi) (fun _ _ vi => 16 - (intOf vi).toNat)
  case atStart => exact ⟨0, f, m, rfl, rfl, rfl, by omega, (by show f * q + m = ((2 ^ 0 : Nat) : Int) * p; have := HFE.out; rw [Int.mul_comm f q]; omega), m0, m1, (by show f.natAbs + 1 ≤ 4294967295 * 2 ^ 0; omega)⟩
  case round =>
    obtain ⟨k, x, r, rfl, rfl, rfl, hk, hx, r0, r1, hb⟩ := hrel
    have h2 := pow16 k hk
    have h3 := hb.out
    have b0 : -281474976710656 ≤ x := by omega
    have b1 : x ≤ 281474976710656 := by omega
    clear h2 h3
    by_cases hkn : k < 16
    · have HP : Hid (((2 ^ (k + 1) : Nat) : Int) = 2 * ((2 ^ k : Nat) : Int) ∧ 2 ^ (k + 1) = 2 * 2 ^ k) := ⟨by rw [Nat.pow_succ]; omega, by rw [Nat.pow_succ]; omega⟩
      by_cases hr : q ≤ r * 2
      · go_wp2_with fail
        refine ⟨⟨k + 1, x * 2 + 1, r * 2 - q, rfl, rfl, by go_num, by omega, ?_, by omega, by omega, ?_⟩, by simp [intOf]; omega⟩
        · have h1 := hx.out
          show (x * 2 + 1) * q + (r * 2 - q) = ((2 ^ (k + 1) : Nat) : Int) * p
          rw [HP.out.1]
          generalize ((2 ^ k : Nat) : Int) = c at h1 ⊢
          grind
        · have h1 := hb.out
          show (x * 2 + 1).natAbs + 1 ≤ 4294967295 * 2 ^ (k + 1)
          rw [HP.out.2]
          omega
      · go_wp2_with fail
        refine ⟨⟨k + 1, x * 2, r * 2, rfl, rfl, by go_num, by omega, ?_, by omega, by omega, ?_⟩, by simp [intOf]; omega⟩
        · have h1 := hx.out
          show (x * 2) * q + r * 2 = ((2 ^ (k + 1) : Nat) : Int) * p
          rw [HP.out.1]
          generalize ((2 ^ k : Nat) : Int) = c at h1 ⊢
          grind
        · have h1 := hb.out
          show (x * 2).natAbs + 1 ≤ 4294967295 * 2 ^ (k + 1)
          rw [HP.out.2]
          omega
    · have e16 : k = 16 := by omega
      have hfin := HX.out x r (by have := hx.out; rw [e16] at this; simpa using this) r0 r1
      have HF := Lib.hid hfin
      clear hfin hx hb e16
      by_cases hr : q ≤ 2 * r
      · go_wp2_with fail
        go_ret2
        exact ⟨by rw [HF.out, if_pos hr]; rfl, ⟨_, rfl⟩⟩
      · go_wp2_with fail
        go_ret2
        exact ⟨by rw [HF.out, if_neg (by omega)]; rfl, ⟨_, rfl⟩⟩

set_option maxHeartbeats 400000 in
theorem rfixed_out (p q : Int) (w : World) (p0 : -9223372028264841218 ≤ p) (p1 : p ≤ 9223372028264841218) (q0 : 0 < q) (q1 : q ≤ 4611686014132420609) (ho : 4294967294 < p.fdiv q ∨ p.fdiv q < -4294967294) :
    Calls Tryd.prog 57 #[.int .i64 p, .int .i64 q] w fun e w' => e = .returned (.tuple #[.int .i64 0, .bool false]) ∧ ∃ n, w' = w.drewN n := by
  by_cases h1 : 4294967294 < p.fdiv q
  · go_enter Tryd.func57, Tryd.ntmps57
    go_wp2_with fail
    refine (down_any p q _ (by omega) (by omega) q0 (by omega)).mono ?_; rintro e w' ⟨rfl, n, rfl⟩
    go_wp2_with fail
    go_ret2
    exact ⟨rfl, ⟨_, rfl⟩⟩
  · have h2 : p.fdiv q < -4294967294 := by omega
    go_enter Tryd.func57, Tryd.ntmps57
    go_wp2_with fail
    refine (down_any p q _ (by omega) (by omega) q0 (by omega)).mono ?_; rintro e w' ⟨rfl, n, rfl⟩
    go_wp2_with fail
    go_ret2
    exact ⟨rfl, ⟨_, rfl⟩⟩

/-- The error code of what is refused unless v. -/
def errV (v : Bool) : Int := if v = true then 0 else 2
/-- A value, or 0 unless v. -/
def orZ (v : Bool) (x : Int) : Int := if v = true then x else 0
/-- What Fixed returns. -/
def fixV (v : Bool) (p q : Int) : Value := .tuple #[.int .i64 (orZ v (Nm.fx p q)), .int .i64 (errV v)]
/-- What Floor returns. -/
def floorV (v : Bool) (p q : Int) : Value := .tuple #[.int .i64 (orZ v (p.fdiv q)), .int .i64 (errV v)]
/-- What Cmp returns. -/
def cmp2V (v : Bool) (x y : Int) : Value := .tuple #[.int .i64 (orZ v (cmp3 x y)), .int .i64 (errV v)]
theorem cmp2_any (aP aQ bP bQ : Int) (w : World) (h1 : -9223372036854775808 ≤ aP) (h2 : aP ≤ 9223372036854775807) (h3 : -9223372036854775808 ≤ aQ) (h4 : aQ ≤ 9223372036854775807) (k1 : -9223372036854775808 ≤ bP) (k2 : bP ≤ 9223372036854775807) (k3 : -9223372036854775808 ≤ bQ) (k4 : bQ ≤ 9223372036854775807) :
    Calls Tryd.prog 34 #[.agg #[.int .i64 aP, .int .i64 aQ], .agg #[.int .i64 bP, .int .i64 bQ]] w fun e w' => e = .returned (cmp2V (Nm.vld aP aQ && Nm.vld bP bQ) (aP * bQ) (bP * aQ)) ∧ Below w.heap.size w w' := by
  cases hv : (Nm.vld aP aQ && Nm.vld bP bQ)
  · exact cmp_no aP aQ bP bQ w h1 h2 h3 h4 k1 k2 k3 k4 hv
  · obtain ⟨va, vb⟩ := and_true' hv
    exact cmp_ok aP aQ bP bQ w va vb
theorem rcmp2_any (aP aQ bP bQ : Int) (w : World) (h1 : -9223372036854775808 ≤ aP) (h2 : aP ≤ 9223372036854775807) (h3 : -9223372036854775808 ≤ aQ) (h4 : aQ ≤ 9223372036854775807) (k1 : -9223372036854775808 ≤ bP) (k2 : bP ≤ 9223372036854775807) (k3 : -9223372036854775808 ≤ bQ) (k4 : bQ ≤ 9223372036854775807) :
    Calls Tryd.prog 35 #[.agg #[.int .i64 aP, .int .i64 aQ], .agg #[.int .i64 bP, .int .i64 bQ]] w fun e w' => e = .returned (cmp2V (Nm.vld aP aQ && Nm.vld bP bQ) (aP * bQ) (bP * aQ)) ∧ Below w.heap.size w w' := by
  cases hv : (Nm.vld aP aQ && Nm.vld bP bQ)
  · exact rcmp_no aP aQ bP bQ w h1 h2 h3 h4 k1 k2 k3 k4 hv
  · obtain ⟨va, vb⟩ := and_true' hv
    exact rcmp_ok aP aQ bP bQ w va vb
theorem fixed_any (p q : Int) (w : World) (h1 : -9223372036854775808 ≤ p) (h2 : p ≤ 9223372036854775807) (h3 : -9223372036854775808 ≤ q) (h4 : q ≤ 9223372036854775807) : Calls Tryd.prog 36 #[.agg #[.int .i64 p, .int .i64 q]] w fun e w' => e = .returned (fixV (Nm.vld p q) p q) ∧ Below w.heap.size w w' := by
  cases hv : Nm.vld p q
  · exact fixed_no p q w h1 h2 h3 h4 hv
  · exact fixed_ok p q w hv
theorem floor_any (p q : Int) (w : World) (h1 : -9223372036854775808 ≤ p) (h2 : p ≤ 9223372036854775807) (h3 : -9223372036854775808 ≤ q) (h4 : q ≤ 9223372036854775807) : Calls Tryd.prog 32 #[.agg #[.int .i64 p, .int .i64 q]] w fun e w' => e = .returned (floorV (Nm.vld p q) p q) ∧ Below w.heap.size w w' := by
  cases hv : Nm.vld p q
  · exact floor_no p q w h1 h2 h3 h4 hv
  · exact floor_ok p q w hv
theorem rfloor_any (p q : Int) (w : World) (h1 : -9223372036854775808 ≤ p) (h2 : p ≤ 9223372036854775807) (h3 : -9223372036854775808 ≤ q) (h4 : q ≤ 9223372036854775807) : Calls Tryd.prog 33 #[.agg #[.int .i64 p, .int .i64 q]] w fun e w' => e = .returned (floorV (Nm.vld p q) p q) ∧ Below w.heap.size w w' := by
  cases hv : Nm.vld p q
  · exact rfloor_no p q w h1 h2 h3 h4 hv
  · exact rfloor_ok p q w hv
set_option maxHeartbeats 400000 in
theorem rfixed_any (p q : Int) (w : World) (h1 : -9223372036854775808 ≤ p) (h2 : p ≤ 9223372036854775807) (h3 : -9223372036854775808 ≤ q) (h4 : q ≤ 9223372036854775807) : Calls Tryd.prog 37 #[.agg #[.int .i64 p, .int .i64 q]] w fun e w' => e = .returned (fixV (Nm.vld p q) p q) ∧ Below w.heap.size w w' := by
  cases hv : Nm.vld p q
  · have HV := Lib.hid hv
    clear hv
    go_enter Tryd.func37, Tryd.ntmps37
    go_wp2_with fail
    refine (rvalid_any _ _ _ h1 h2 h3 h4).mono ?_; rintro e w' ⟨rfl, hb⟩
    rw [HV.out]
    go_wp2_with fail
    go_ret2
    exact ⟨rfl, (by repeat (first | exact Below.refl _ _ | refine Below.setCell ?_ (by first | (simp; done) | (simp; omega) | omega) _ | refine below_drewN ?_ _ | refine Below.alloc ?_ (by first | (simp; done) | (simp; omega) | omega) _ | refine Below.trans ?_ (hb.mono (by first | (simp; done) | (simp; omega) | omega))))⟩
  · obtain ⟨x1, x2, x3, x4⟩ := vld_bd hv
    have HV := Lib.hid hv
    clear hv
    obtain ⟨d1, d2⟩ := Nm.fdiv_bd p q x1 (by omega) x4
    go_enter Tryd.func37, Tryd.ntmps37
    go_wp2_with fail
    refine (rvalid_any _ _ _ (by omega) (by omega) (by omega) (by omega)).mono ?_; rintro e w' ⟨rfl, hb⟩; obtain ⟨hc, hf⟩ := bcell hb; have hsz := hb.size; simp at hsz
    rw [HV.out]
    go_wp2_with fail
    refine (rfixed_in p q _ (by omega) (by omega) (by omega) (by omega) (by omega) (by omega)).mono ?_; rintro e w' ⟨rfl, n, rfl⟩
    go_wp2_with fail
    go_ret2
    exact ⟨rfl, (by repeat (first | exact Below.refl _ _ | refine Below.setCell ?_ (by first | (simp; done) | (simp; omega) | omega) _ | refine below_drewN ?_ _ | refine Below.alloc ?_ (by first | (simp; done) | (simp; omega) | omega) _ | refine Below.trans ?_ (hb.mono (by first | (simp; done) | (simp; omega) | omega))))⟩
end Go.Proofs.YtmcpbnkmccngpaaDoor
