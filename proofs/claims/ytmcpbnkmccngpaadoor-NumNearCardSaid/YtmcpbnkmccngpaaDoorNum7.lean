/-
  Contracts: the four operations, of package num and of the reference.
-/
-- LAW 01
import Derived.Test.YtmcpbnkmccngpaaDoorNum6
namespace Go.Proofs.YtmcpbnkmccngpaaDoor
open Go.RowKit

set_option maxHeartbeats 400000 in
theorem calc_err (s : ByteArray) (aP aQ bP bQ : Int) (w : World) (hx0 : ∀ w, Calls Tryd.prog 55 #[.string s, .agg #[.int .i64 aP, .int .i64 aQ], .agg #[.int .i64 bP, .int .i64 bQ]] w fun e w' => e = .returned (.tuple #[.int .i64 0, .int .i64 0, .int .i64 2]) ∧ Below w.heap.size w w') :
    Calls Tryd.prog 53 #[.string s, .agg #[.int .i64 aP, .int .i64 aQ], .agg #[.int .i64 bP, .int .i64 bQ]] w fun e w' => e = .returned (numV 0 0 2) ∧ Below w.heap.size w w' := by
  have hx := Lib.hid hx0
  clear hx0
  go_enter Tryd.func53, Tryd.ntmps53
  go_wp2_with fail
  refine (hx.out _).mono ?_; rintro e w' ⟨rfl, hb⟩; obtain ⟨hc, hf⟩ := bcell hb; have hsz := hb.size; simp at hsz
  go_wp2_with fail
  exact bodyPost_ret (v := numV 0 0 2) (by simp [results, Tryd.results53, go_sem, numV, hc, hsz]) rfl ⟨rfl, (by repeat (first | exact Below.refl _ _ | refine Below.setCell ?_ (by first | (simp; done) | (simp; omega) | omega) _ | refine below_drewN ?_ _ | refine Below.alloc ?_ (by first | (simp; done) | (simp; omega) | omega) _ | refine Below.trans ?_ (hb.mono (by first | (simp; done) | (simp; omega) | omega))))⟩

set_option maxHeartbeats 400000 in
theorem calc_ok (s : ByteArray) (aP aQ bP bQ p q : Int) (w : World) (hp0 : -9223372036854775808 ≤ p) (hp1 : p ≤ 9223372036854775807) (hq0 : -9223372036854775808 ≤ q) (hq1 : q ≤ 9223372036854775807)
    (hx0 : ∀ w, Calls Tryd.prog 55 #[.string s, .agg #[.int .i64 aP, .int .i64 aQ], .agg #[.int .i64 bP, .int .i64 bQ]] w fun e w' => e = .returned (.tuple #[.int .i64 p, .int .i64 q, .int .i64 0]) ∧ Below w.heap.size w w') :
    Calls Tryd.prog 53 #[.string s, .agg #[.int .i64 aP, .int .i64 aQ], .agg #[.int .i64 bP, .int .i64 bQ]] w fun e w' => e = .returned (numV (Nm.mkP p q) (Nm.mkQ p q) (Nm.mkE p q)) ∧ Below w.heap.size w w' := by
  have hx := Lib.hid hx0
  clear hx0
  go_enter Tryd.func53, Tryd.ntmps53
  go_wp2_with fail
  refine (hx.out _).mono ?_; rintro e w' ⟨rfl, hb⟩; obtain ⟨hc, hf⟩ := bcell hb; have hsz := hb.size; simp at hsz
  go_wp2_with fail
  refine (make_any p q _ hp0 hp1 hq0 hq1).mono ?_; rintro e w'' ⟨rfl, hb2⟩; replace hb := hb.trans (hb2.mono hb.size); clear hb2 hc hf hsz; obtain ⟨hc, hf⟩ := bcell hb; have hsz := hb.size; simp at hsz; simp only [numV]
  go_wp2_with fail
  exact bodyPost_ret (v := numV (Nm.mkP p q) (Nm.mkQ p q) (Nm.mkE p q)) (by simp [results, Tryd.results53, go_sem, numV, hc, hsz]) rfl ⟨rfl, (by repeat (first | exact Below.refl _ _ | refine Below.setCell ?_ (by first | (simp; done) | (simp; omega) | omega) _ | refine below_drewN ?_ _ | refine Below.alloc ?_ (by first | (simp; done) | (simp; omega) | omega) _ | refine Below.trans ?_ (hb.mono (by first | (simp; done) | (simp; omega) | omega))))⟩

set_option maxHeartbeats 400000 in
theorem result_no (s : ByteArray) (aP aQ bP bQ : Int) (w : World) (h1 : -9223372036854775808 ≤ aP) (h2 : aP ≤ 9223372036854775807) (h3 : -9223372036854775808 ≤ aQ) (h4 : aQ ≤ 9223372036854775807) (k1 : -9223372036854775808 ≤ bP) (k2 : bP ≤ 9223372036854775807) (k3 : -9223372036854775808 ≤ bQ) (k4 : bQ ≤ 9223372036854775807) (hv : (Nm.vld aP aQ && Nm.vld bP bQ) = false) :
    Calls Tryd.prog 54 #[.string s, .agg #[.int .i64 aP, .int .i64 aQ], .agg #[.int .i64 bP, .int .i64 bQ]] w fun e w' => e = .returned (numV 0 0 2) ∧ Below w.heap.size w w' := by
  have HV := Lib.hid hv
  clear hv
  go_enter Tryd.func54, Tryd.ntmps54
  go_wp2_with fail
  refine (both_any _ _ _ _ _ h1 h2 h3 h4 k1 k2 k3 k4).mono ?_; rintro e w' ⟨rfl, hb⟩; obtain ⟨hc, hf⟩ := bcell hb; have hsz := hb.size; simp at hsz
  rw [HV.out]
  go_wp2_with fail
  exact bodyPost_ret (v := numV 0 0 2) (by simp [results, Tryd.results54, go_sem, numV, hc, hsz]) rfl ⟨rfl, (by repeat (first | exact Below.refl _ _ | refine Below.setCell ?_ (by first | (simp; done) | (simp; omega) | omega) _ | refine below_drewN ?_ _ | refine Below.alloc ?_ (by first | (simp; done) | (simp; omega) | omega) _ | refine Below.trans ?_ (hb.mono (by first | (simp; done) | (simp; omega) | omega))))⟩

set_option maxHeartbeats 400000 in
theorem result_zero (aP aQ bQ : Int) (w : World) (hv : (Nm.vld aP aQ && Nm.vld 0 bQ) = true) :
    Calls Tryd.prog 54 #[.string ⟨#[47]⟩, .agg #[.int .i64 aP, .int .i64 aQ], .agg #[.int .i64 0, .int .i64 bQ]] w fun e w' => e = .returned (numV 0 0 18) ∧ Below w.heap.size w w' := by
  obtain ⟨x1, x2, x3, x4⟩ := vld_bd (by simp at hv; exact hv.1)
  obtain ⟨y1, y2, y3, y4⟩ := vld_bd (by simp at hv; exact hv.2)
  have HV := Lib.hid hv
  clear hv
  go_enter Tryd.func54, Tryd.ntmps54
  go_wp2_with fail
  refine (both_any _ _ _ _ _ (by omega) (by omega) (by omega) (by omega) (by omega) (by omega) (by omega) (by omega)).mono ?_; rintro e w' ⟨rfl, hb⟩; obtain ⟨hc, hf⟩ := bcell hb; have hsz := hb.size; simp at hsz
  rw [HV.out]
  go_wp2_with fail
  exact bodyPost_ret (v := numV 0 0 18) (by simp [results, Tryd.results54, go_sem, numV, hc, hsz]) rfl ⟨rfl, (by repeat (first | exact Below.refl _ _ | refine Below.setCell ?_ (by first | (simp; done) | (simp; omega) | omega) _ | refine below_drewN ?_ _ | refine Below.alloc ?_ (by first | (simp; done) | (simp; omega) | omega) _ | refine Below.trans ?_ (hb.mono (by first | (simp; done) | (simp; omega) | omega))))⟩

set_option maxHeartbeats 400000 in
theorem result_ok (s : ByteArray) (aP aQ bP bQ p q : Int) (w : World) (hp0 : -9223372036854775808 ≤ p) (hp1 : p ≤ 9223372036854775807) (hq0 : -9223372036854775808 ≤ q) (hq1 : q ≤ 9223372036854775807)
    (hv : (Nm.vld aP aQ && Nm.vld bP bQ) = true) (hs : (¬ s.toList = [47]) ∨ (bP == 0) = false)
    (hx0 : ∀ w, Calls Tryd.prog 58 #[.string s, .agg #[.int .i64 aP, .int .i64 aQ], .agg #[.int .i64 bP, .int .i64 bQ]] w fun e w' => e = .returned (.tuple #[.int .i64 p, .int .i64 q]) ∧ Below w.heap.size w w') :
    Calls Tryd.prog 54 #[.string s, .agg #[.int .i64 aP, .int .i64 aQ], .agg #[.int .i64 bP, .int .i64 bQ]] w fun e w' => e = .returned (numV (Nm.mkP p q) (Nm.mkQ p q) (Nm.mkE p q)) ∧ Below w.heap.size w w' := by
  obtain ⟨x1, x2, x3, x4⟩ := vld_bd (by simp at hv; exact hv.1)
  obtain ⟨y1, y2, y3, y4⟩ := vld_bd (by simp at hv; exact hv.2)
  have hx := Lib.hid hx0
  have HV := Lib.hid hv
  clear hx0 hv
  rcases hs with hs | hs
  · go_enter Tryd.func54, Tryd.ntmps54
    go_wp2_with fail
    refine (both_any _ _ _ _ _ (by omega) (by omega) (by omega) (by omega) (by omega) (by omega) (by omega) (by omega)).mono ?_; rintro e w' ⟨rfl, hb⟩; obtain ⟨hc, hf⟩ := bcell hb; have hsz := hb.size; simp at hsz
    rw [HV.out]
    go_wp2_with fail
    all_goals
      refine (hx.out _).mono ?_; rintro e w'' ⟨rfl, hb2⟩; replace hb := hb.trans (hb2.mono hb.size); clear hb2 hc hf hsz; obtain ⟨hc, hf⟩ := bcell hb; have hsz := hb.size; simp at hsz
      go_wp2_with fail
      refine (rmake_any p q _ hp0 hp1 hq0 hq1).mono ?_; rintro e w'' ⟨rfl, hb2⟩; replace hb := hb.trans (hb2.mono hb.size); clear hb2 hc hf hsz; obtain ⟨hc, hf⟩ := bcell hb; have hsz := hb.size; simp at hsz; simp only [numV]
      go_wp2_with fail
      exact bodyPost_ret (v := numV (Nm.mkP p q) (Nm.mkQ p q) (Nm.mkE p q)) (by simp [results, Tryd.results54, go_sem, numV, hc, hsz]) rfl ⟨rfl, (by repeat (first | exact Below.refl _ _ | refine Below.setCell ?_ (by first | (simp; done) | (simp; omega) | omega) _ | refine below_drewN ?_ _ | refine Below.alloc ?_ (by first | (simp; done) | (simp; omega) | omega) _ | refine Below.trans ?_ (hb.mono (by first | (simp; done) | (simp; omega) | omega))))⟩
  · go_enter Tryd.func54, Tryd.ntmps54
    go_wp2_with fail
    refine (both_any _ _ _ _ _ (by omega) (by omega) (by omega) (by omega) (by omega) (by omega) (by omega) (by omega)).mono ?_; rintro e w' ⟨rfl, hb⟩; obtain ⟨hc, hf⟩ := bcell hb; have hsz := hb.size; simp at hsz
    rw [HV.out]
    go_wp2_with fail
    all_goals
      refine (hx.out _).mono ?_; rintro e w'' ⟨rfl, hb2⟩; replace hb := hb.trans (hb2.mono hb.size); clear hb2 hc hf hsz; obtain ⟨hc, hf⟩ := bcell hb; have hsz := hb.size; simp at hsz
      go_wp2_with fail
      refine (rmake_any p q _ hp0 hp1 hq0 hq1).mono ?_; rintro e w'' ⟨rfl, hb2⟩; replace hb := hb.trans (hb2.mono hb.size); clear hb2 hc hf hsz; obtain ⟨hc, hf⟩ := bcell hb; have hsz := hb.size; simp at hsz; simp only [numV]
      go_wp2_with fail
      exact bodyPost_ret (v := numV (Nm.mkP p q) (Nm.mkQ p q) (Nm.mkE p q)) (by simp [results, Tryd.results54, go_sem, numV, hc, hsz]) rfl ⟨rfl, (by repeat (first | exact Below.refl _ _ | refine Below.setCell ?_ (by first | (simp; done) | (simp; omega) | omega) _ | refine below_drewN ?_ _ | refine Below.alloc ?_ (by first | (simp; done) | (simp; omega) | omega) _ | refine Below.trans ?_ (hb.mono (by first | (simp; done) | (simp; omega) | omega))))⟩
end Go.Proofs.YtmcpbnkmccngpaaDoor
