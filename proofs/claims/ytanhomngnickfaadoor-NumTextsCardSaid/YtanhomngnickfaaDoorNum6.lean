/-
  Contracts: exact of package num and of the reference, at each of the four operations.
-/
-- LAW 01
import Derived.Test.YtanhomngnickfaaDoorNum5
namespace Go.Proofs.YtanhomngnickfaaDoor
open Go.RowKit

/-- A product of two parts of numbers. -/
theorem mul_bd (a b : Int) (ha : -2147483647 ≤ a) (ha' : a ≤ 2147483647) (hb : -2147483647 ≤ b) (hb' : b ≤ 2147483647) : -4611686014132420609 ≤ a * b ∧ a * b ≤ 4611686014132420609 := by
  have h : (a * b).natAbs ≤ 4611686014132420609 := by
    rw [Int.natAbs_mul]
    exact Nat.le_trans (Nat.mul_le_mul (by omega : a.natAbs ≤ 2147483647) (by omega : b.natAbs ≤ 2147483647)) (by decide)
  omega
theorem vld_bd {p q : Int} (h : Nm.vld p q = true) : 1 ≤ q ∧ q ≤ 2147483647 ∧ -2147483647 ≤ p ∧ p ≤ 2147483647 := by
  unfold Nm.vld at h; have := of_decide_eq_true h; exact ⟨this.1, this.2.1, this.2.2.1, this.2.2.2.1⟩

set_option maxHeartbeats 400000 in
theorem exact_no (s : ByteArray) (aP aQ bP bQ : Int) (w : World) (h1 : -9223372036854775808 ≤ aP) (h2 : aP ≤ 9223372036854775807) (h3 : -9223372036854775808 ≤ aQ) (h4 : aQ ≤ 9223372036854775807) (k1 : -9223372036854775808 ≤ bP) (k2 : bP ≤ 9223372036854775807) (k3 : -9223372036854775808 ≤ bQ) (k4 : bQ ≤ 9223372036854775807) (hv : (Nm.vld aP aQ && Nm.vld bP bQ) = false) :
    Calls Tryd.prog 93 #[.string s, .agg #[.int .i64 aP, .int .i64 aQ], .agg #[.int .i64 bP, .int .i64 bQ]] w fun e w' => e = .returned (.tuple #[.int .i64 0, .int .i64 0, .int .i64 2]) ∧ Below w.heap.size w w' := by
  have HV := Lib.hid hv
  clear hv
  go_enter Tryd.func93, Tryd.ntmps93
  go_wp2_with fail
  refine (allValid_any _ _ _ _ _ _ h1 h2 h3 h4 k1 k2 k3 k4 (by simp) (by simp [go_sem]) (by simp [go_sem]) (by simp [go_sem]) (by simp [go_sem])).mono ?_; rintro e w' ⟨rfl, hb⟩; obtain ⟨hc, hf⟩ := bcell hb; have hsz := hb.size; simp at hsz
  rw [HV.out]
  go_wp2
  go_ret3
  exact ⟨rfl, (by repeat (first | exact Below.refl _ _ | refine Below.setCell ?_ (by first | (simp; done) | (simp; omega) | omega) _ | refine below_drewN ?_ _ | refine Below.alloc ?_ (by first | (simp; done) | (simp; omega) | omega) _ | refine Below.trans ?_ (hb.mono (by first | (simp; done) | (simp; omega) | omega))))⟩

theorem wrap_mul (a b : Int) (ha : -2147483647 ≤ a) (ha' : a ≤ 2147483647) (hb : -2147483647 ≤ b) (hb' : b ≤ 2147483647) : IntKind.i64.wrap (a * b) = a * b := by
  have := mul_bd a b ha ha' hb hb'
  exact IntWalk.i64_in _ (by omega)

set_option maxHeartbeats 400000 in
theorem exact_add (aP aQ bP bQ : Int) (w : World) (hva : Nm.vld aP aQ = true) (hvb : Nm.vld bP bQ = true) :
    Calls Tryd.prog 93 #[.string ⟨#[43]⟩, .agg #[.int .i64 aP, .int .i64 aQ], .agg #[.int .i64 bP, .int .i64 bQ]] w fun e w' => e = .returned (.tuple #[.int .i64 (aP * bQ + bP * aQ), .int .i64 (aQ * bQ), .int .i64 0]) ∧ Below w.heap.size w w' := by
  obtain ⟨x1, x2, x3, x4⟩ := vld_bd hva
  obtain ⟨y1, y2, y3, y4⟩ := vld_bd hvb
  have HV : Hid ((Nm.vld aP aQ && Nm.vld bP bQ) = true) := by rw [hva, hvb]; rfl
  clear hva hvb
  go_enter Tryd.func93, Tryd.ntmps93
  go_wp2_with fail
  refine (allValid_any _ aP aQ bP bQ _ (by omega) (by omega) (by omega) (by omega) (by omega) (by omega) (by omega) (by omega) (by simp) (by simp [go_sem]) (by simp [go_sem]) (by simp [go_sem]) (by simp [go_sem])).mono ?_; rintro e w' ⟨rfl, hb⟩; obtain ⟨hc, hf⟩ := bcell hb; have hsz := hb.size; simp at hsz
  rw [HV.out]
  have w1 := wrap_mul aP bQ (by omega) (by omega) (by omega) (by omega)
  obtain ⟨z1, t1⟩ := mul_bd aP bQ (by omega) (by omega) (by omega) (by omega)
  have w2 := wrap_mul bP aQ (by omega) (by omega) (by omega) (by omega)
  obtain ⟨z2, t2⟩ := mul_bd bP aQ (by omega) (by omega) (by omega) (by omega)
  have w3 := wrap_mul aQ bQ (by omega) (by omega) (by omega) (by omega)
  obtain ⟨z3, t3⟩ := mul_bd aQ bQ (by omega) (by omega) (by omega) (by omega)
  have w4 : IntKind.i64.wrap (aP * bQ + bP * aQ) = aP * bQ + bP * aQ := IntWalk.i64_in _ (by omega)
  go_wp2_with fail
  go_quiet (fail)
  go_wp2
  go_ret3
  exact ⟨rfl, (by repeat (first | exact Below.refl _ _ | refine Below.setCell ?_ (by first | (simp; done) | (simp; omega) | omega) _ | refine below_drewN ?_ _ | refine Below.alloc ?_ (by first | (simp; done) | (simp; omega) | omega) _ | refine Below.trans ?_ (hb.mono (by first | (simp; done) | (simp; omega) | omega))))⟩

set_option maxHeartbeats 400000 in
theorem exact_sub (aP aQ bP bQ : Int) (w : World) (hva : Nm.vld aP aQ = true) (hvb : Nm.vld bP bQ = true) :
    Calls Tryd.prog 93 #[.string ⟨#[45]⟩, .agg #[.int .i64 aP, .int .i64 aQ], .agg #[.int .i64 bP, .int .i64 bQ]] w fun e w' => e = .returned (.tuple #[.int .i64 (aP * bQ - bP * aQ), .int .i64 (aQ * bQ), .int .i64 0]) ∧ Below w.heap.size w w' := by
  obtain ⟨x1, x2, x3, x4⟩ := vld_bd hva
  obtain ⟨y1, y2, y3, y4⟩ := vld_bd hvb
  have HV : Hid ((Nm.vld aP aQ && Nm.vld bP bQ) = true) := by rw [hva, hvb]; rfl
  clear hva hvb
  go_enter Tryd.func93, Tryd.ntmps93
  go_wp2_with fail
  refine (allValid_any _ aP aQ bP bQ _ (by omega) (by omega) (by omega) (by omega) (by omega) (by omega) (by omega) (by omega) (by simp) (by simp [go_sem]) (by simp [go_sem]) (by simp [go_sem]) (by simp [go_sem])).mono ?_; rintro e w' ⟨rfl, hb⟩; obtain ⟨hc, hf⟩ := bcell hb; have hsz := hb.size; simp at hsz
  rw [HV.out]
  have w1 := wrap_mul aP bQ (by omega) (by omega) (by omega) (by omega)
  obtain ⟨z1, t1⟩ := mul_bd aP bQ (by omega) (by omega) (by omega) (by omega)
  have w2 := wrap_mul bP aQ (by omega) (by omega) (by omega) (by omega)
  obtain ⟨z2, t2⟩ := mul_bd bP aQ (by omega) (by omega) (by omega) (by omega)
  have w3 := wrap_mul aQ bQ (by omega) (by omega) (by omega) (by omega)
  obtain ⟨z3, t3⟩ := mul_bd aQ bQ (by omega) (by omega) (by omega) (by omega)
  have w4 : IntKind.i64.wrap (aP * bQ - bP * aQ) = aP * bQ - bP * aQ := IntWalk.i64_in _ (by omega)
  go_wp2_with fail
  go_quiet (fail)
  go_wp2
  go_ret3
  exact ⟨rfl, (by repeat (first | exact Below.refl _ _ | refine Below.setCell ?_ (by first | (simp; done) | (simp; omega) | omega) _ | refine below_drewN ?_ _ | refine Below.alloc ?_ (by first | (simp; done) | (simp; omega) | omega) _ | refine Below.trans ?_ (hb.mono (by first | (simp; done) | (simp; omega) | omega))))⟩

set_option maxHeartbeats 400000 in
theorem exact_mul (aP aQ bP bQ : Int) (w : World) (hva : Nm.vld aP aQ = true) (hvb : Nm.vld bP bQ = true) :
    Calls Tryd.prog 93 #[.string ⟨#[42]⟩, .agg #[.int .i64 aP, .int .i64 aQ], .agg #[.int .i64 bP, .int .i64 bQ]] w fun e w' => e = .returned (.tuple #[.int .i64 (aP * bP), .int .i64 (aQ * bQ), .int .i64 0]) ∧ Below w.heap.size w w' := by
  obtain ⟨x1, x2, x3, x4⟩ := vld_bd hva
  obtain ⟨y1, y2, y3, y4⟩ := vld_bd hvb
  have HV : Hid ((Nm.vld aP aQ && Nm.vld bP bQ) = true) := by rw [hva, hvb]; rfl
  clear hva hvb
  go_enter Tryd.func93, Tryd.ntmps93
  go_wp2_with fail
  refine (allValid_any _ aP aQ bP bQ _ (by omega) (by omega) (by omega) (by omega) (by omega) (by omega) (by omega) (by omega) (by simp) (by simp [go_sem]) (by simp [go_sem]) (by simp [go_sem]) (by simp [go_sem])).mono ?_; rintro e w' ⟨rfl, hb⟩; obtain ⟨hc, hf⟩ := bcell hb; have hsz := hb.size; simp at hsz
  rw [HV.out]
  have w1 := wrap_mul aP bP (by omega) (by omega) (by omega) (by omega)
  obtain ⟨z1, t1⟩ := mul_bd aP bP (by omega) (by omega) (by omega) (by omega)
  have w2 := wrap_mul aQ bQ (by omega) (by omega) (by omega) (by omega)
  obtain ⟨z2, t2⟩ := mul_bd aQ bQ (by omega) (by omega) (by omega) (by omega)
  go_wp2_with fail
  go_quiet (fail)
  go_wp2
  go_ret3
  exact ⟨rfl, (by repeat (first | exact Below.refl _ _ | refine Below.setCell ?_ (by first | (simp; done) | (simp; omega) | omega) _ | refine below_drewN ?_ _ | refine Below.alloc ?_ (by first | (simp; done) | (simp; omega) | omega) _ | refine Below.trans ?_ (hb.mono (by first | (simp; done) | (simp; omega) | omega))))⟩

set_option maxHeartbeats 400000 in
theorem exact_div (aP aQ bP bQ : Int) (w : World) (hva : Nm.vld aP aQ = true) (hvb : Nm.vld bP bQ = true) :
    Calls Tryd.prog 93 #[.string ⟨#[47]⟩, .agg #[.int .i64 aP, .int .i64 aQ], .agg #[.int .i64 bP, .int .i64 bQ]] w fun e w' => e = .returned (.tuple #[.int .i64 (aP * bQ), .int .i64 (aQ * bP), .int .i64 0]) ∧ Below w.heap.size w w' := by
  obtain ⟨x1, x2, x3, x4⟩ := vld_bd hva
  obtain ⟨y1, y2, y3, y4⟩ := vld_bd hvb
  have HV : Hid ((Nm.vld aP aQ && Nm.vld bP bQ) = true) := by rw [hva, hvb]; rfl
  clear hva hvb
  go_enter Tryd.func93, Tryd.ntmps93
  go_wp2_with fail
  refine (allValid_any _ aP aQ bP bQ _ (by omega) (by omega) (by omega) (by omega) (by omega) (by omega) (by omega) (by omega) (by simp) (by simp [go_sem]) (by simp [go_sem]) (by simp [go_sem]) (by simp [go_sem])).mono ?_; rintro e w' ⟨rfl, hb⟩; obtain ⟨hc, hf⟩ := bcell hb; have hsz := hb.size; simp at hsz
  rw [HV.out]
  have w1 := wrap_mul aP bQ (by omega) (by omega) (by omega) (by omega)
  obtain ⟨z1, t1⟩ := mul_bd aP bQ (by omega) (by omega) (by omega) (by omega)
  have w2 := wrap_mul aQ bP (by omega) (by omega) (by omega) (by omega)
  obtain ⟨z2, t2⟩ := mul_bd aQ bP (by omega) (by omega) (by omega) (by omega)
  go_wp2_with fail
  go_quiet (fail)
  go_wp2
  go_ret3
  exact ⟨rfl, (by repeat (first | exact Below.refl _ _ | refine Below.setCell ?_ (by first | (simp; done) | (simp; omega) | omega) _ | refine below_drewN ?_ _ | refine Below.alloc ?_ (by first | (simp; done) | (simp; omega) | omega) _ | refine Below.trans ?_ (hb.mono (by first | (simp; done) | (simp; omega) | omega))))⟩

end Go.Proofs.YtanhomngnickfaaDoor
