/-
  Contracts: Mod of package num and of the reference.
-/
-- LAW 01
import Derived.Test.YtanhomngnickfaaDoorNum9
namespace Go.Proofs.YtanhomngnickfaaDoor
open Go.RowKit

/-- What Mod returns. -/
def modV (v : Bool) (aP aQ bP bQ : Int) : Value := if v = true then (if bP = 0 then numV 0 0 18 else numV (Nm.mkP ((aP * bQ).fmod (aQ * bP)) (aQ * bQ)) (Nm.mkQ ((aP * bQ).fmod (aQ * bP)) (aQ * bQ)) (Nm.mkE ((aP * bQ).fmod (aQ * bP)) (aQ * bQ))) else numV 0 0 2
theorem modV_no (aP aQ bP bQ : Int) : modV false aP aQ bP bQ = numV 0 0 2 := rfl
theorem modV_zero (aP aQ bQ : Int) : modV true aP aQ 0 bQ = numV 0 0 18 := rfl
theorem modV_ok (aP aQ bP bQ : Int) (h : bP ≠ 0) : modV true aP aQ bP bQ = numV (Nm.mkP ((aP * bQ).fmod (aQ * bP)) (aQ * bQ)) (Nm.mkQ ((aP * bQ).fmod (aQ * bP)) (aQ * bQ)) (Nm.mkE ((aP * bQ).fmod (aQ * bP)) (aQ * bQ)) := by
  simp only [modV, if_neg h]; rfl

set_option maxHeartbeats 400000 in
theorem mod_no (aP aQ bP bQ : Int) (w : World) (h1 : -9223372036854775808 ≤ aP) (h2 : aP ≤ 9223372036854775807) (h3 : -9223372036854775808 ≤ aQ) (h4 : aQ ≤ 9223372036854775807) (k1 : -9223372036854775808 ≤ bP) (k2 : bP ≤ 9223372036854775807) (k3 : -9223372036854775808 ≤ bQ) (k4 : bQ ≤ 9223372036854775807) (hv : (Nm.vld aP aQ && Nm.vld bP bQ) = false) :
    Calls Tryd.prog 68 #[.agg #[.int .i64 aP, .int .i64 aQ], .agg #[.int .i64 bP, .int .i64 bQ]] w fun e w' => e = .returned (numV 0 0 2) ∧ Below w.heap.size w w' := by
  go_enter Tryd.func68, Tryd.ntmps68
  go_wp2_with fail
  refine (exact_no _ aP aQ bP bQ _ h1 h2 h3 h4 k1 k2 k3 k4 hv).mono ?_; rintro e w' ⟨rfl, hb⟩; obtain ⟨hc, hf⟩ := bcell hb; have hsz := hb.size; simp at hsz
  go_wp2_with fail
  exact bodyPost_ret (v := numV 0 0 2) (by simp [results, Tryd.results68, go_sem, numV, hc]) rfl ⟨rfl, (by repeat (first | exact Below.refl _ _ | refine Below.setCell ?_ (by first | (simp; done) | (simp; omega) | omega) _ | refine below_drewN ?_ _ | refine Below.alloc ?_ (by first | (simp; done) | (simp; omega) | omega) _ | refine Below.trans ?_ (hb.mono (by first | (simp; done) | (simp; omega) | omega))))⟩

set_option maxHeartbeats 400000 in
theorem mod_zero (aP aQ bQ : Int) (w : World) (hva : Nm.vld aP aQ = true) (hvb : Nm.vld 0 bQ = true) :
    Calls Tryd.prog 68 #[.agg #[.int .i64 aP, .int .i64 aQ], .agg #[.int .i64 0, .int .i64 bQ]] w fun e w' => e = .returned (numV 0 0 18) ∧ Below w.heap.size w w' := by
  go_enter Tryd.func68, Tryd.ntmps68
  go_wp2_with fail
  refine (exact_div aP aQ 0 bQ _ hva hvb).mono ?_; rintro e w' ⟨rfl, hb⟩; obtain ⟨hc, hf⟩ := bcell hb; have hsz := hb.size; simp at hsz
  rw [show aQ * 0 = 0 by omega]
  go_wp2_with fail
  exact bodyPost_ret (v := numV 0 0 18) (by simp [results, Tryd.results68, go_sem, numV, hc]) rfl ⟨rfl, (by repeat (first | exact Below.refl _ _ | refine Below.setCell ?_ (by first | (simp; done) | (simp; omega) | omega) _ | refine below_drewN ?_ _ | refine Below.alloc ?_ (by first | (simp; done) | (simp; omega) | omega) _ | refine Below.trans ?_ (hb.mono (by first | (simp; done) | (simp; omega) | omega))))⟩

set_option maxHeartbeats 400000 in
theorem mod_ok (aP aQ bP bQ r : Int) (w : World) (hva : Nm.vld aP aQ = true) (hvb : Nm.vld bP bQ = true) (hz : bP ≠ 0) (hr : (aP * bQ).fmod (aQ * bP) = r) :
    Calls Tryd.prog 68 #[.agg #[.int .i64 aP, .int .i64 aQ], .agg #[.int .i64 bP, .int .i64 bQ]] w fun e w' => e = .returned (numV (Nm.mkP r (aQ * bQ)) (Nm.mkQ r (aQ * bQ)) (Nm.mkE r (aQ * bQ))) ∧ Below w.heap.size w w' := by
  obtain ⟨x1, x2, x3, x4⟩ := vld_bd hva
  obtain ⟨y1, y2, y3, y4⟩ := vld_bd hvb
  have w1 := wrap_mul aQ bQ (by omega) (by omega) (by omega) (by omega)
  obtain ⟨z1, t1⟩ := mul_bd aP bQ (by omega) (by omega) (by omega) (by omega)
  obtain ⟨z2, t2⟩ := mul_bd aQ bP (by omega) (by omega) (by omega) (by omega)
  obtain ⟨z3, t3⟩ := mul_bd aQ bQ (by omega) (by omega) (by omega) (by omega)
  have hq : aQ * bP ≠ 0 := by rw [Int.mul_ne_zero_iff]; exact ⟨by omega, hz⟩
  have hqb : (aQ * bP == 0) = false := by simpa using hq
  have fb := Nm.fm_bd (aP * bQ) (aQ * bP)
  rw [hr] at fb
  have r0 : -4611686014132420609 ≤ r := by rcases Int.lt_trichotomy (aQ * bP) 0 with h | h | h <;> omega
  have r1 : r ≤ 4611686014132420609 := by rcases Int.lt_trichotomy (aQ * bP) 0 with h | h | h <;> omega
  have HR := Lib.hid hr
  have HQ := Lib.hid hq
  clear hr fb hq
  go_enter Tryd.func68, Tryd.ntmps68
  go_wp2_with fail
  refine (exact_div aP aQ bP bQ _ hva hvb).mono ?_; rintro e w' ⟨rfl, hb⟩; obtain ⟨hc, hf⟩ := bcell hb; have hsz := hb.size; simp at hsz
  clear hva hvb
  go_wp2_with fail
  refine (divide_any (aP * bQ) (aQ * bP) _ (by omega) (by omega) (by omega) (by omega) HQ.out).mono ?_; rintro e w' ⟨rfl, n, rfl⟩
  rw [HR.out]
  go_wp2_with fail
  refine (make_any r (aQ * bQ) _ (by omega) (by omega) (by omega) (by omega)).mono ?_; rintro e w'' ⟨rfl, hb2⟩; replace hb := (below_drewN hb _).trans (hb2.mono hb.size); clear hb2 hc hf hsz; obtain ⟨hc, hf⟩ := bcell hb; have hsz := hb.size; simp at hsz; simp only [numV]
  go_wp2_with fail
  exact bodyPost_ret (v := numV (Nm.mkP r (aQ * bQ)) (Nm.mkQ r (aQ * bQ)) (Nm.mkE r (aQ * bQ))) (by simp [results, Tryd.results68, go_sem, numV, hc]) rfl ⟨rfl, (by repeat (first | exact Below.refl _ _ | refine Below.setCell ?_ (by first | (simp; done) | (simp; omega) | omega) _ | refine below_drewN ?_ _ | refine Below.alloc ?_ (by first | (simp; done) | (simp; omega) | omega) _ | refine Below.trans ?_ (hb.mono (by first | (simp; done) | (simp; omega) | omega))))⟩

theorem mod_any (aP aQ bP bQ : Int) (w : World) (h1 : -9223372036854775808 ≤ aP) (h2 : aP ≤ 9223372036854775807) (h3 : -9223372036854775808 ≤ aQ) (h4 : aQ ≤ 9223372036854775807) (k1 : -9223372036854775808 ≤ bP) (k2 : bP ≤ 9223372036854775807) (k3 : -9223372036854775808 ≤ bQ) (k4 : bQ ≤ 9223372036854775807) :
    Calls Tryd.prog 68 #[.agg #[.int .i64 aP, .int .i64 aQ], .agg #[.int .i64 bP, .int .i64 bQ]] w fun e w' => e = .returned (modV (Nm.vld aP aQ && Nm.vld bP bQ) aP aQ bP bQ) ∧ Below w.heap.size w w' := by
  cases hv : (Nm.vld aP aQ && Nm.vld bP bQ)
  · exact mod_no aP aQ bP bQ w h1 h2 h3 h4 k1 k2 k3 k4 hv
  · obtain ⟨va, vb⟩ := and_true' hv
    by_cases hz : bP = 0
    · subst hz; exact mod_zero aP aQ bQ w va vb
    · rw [modV_ok _ _ _ _ hz]; exact mod_ok aP aQ bP bQ _ w va vb hz rfl

end Go.Proofs.YtanhomngnickfaaDoor
