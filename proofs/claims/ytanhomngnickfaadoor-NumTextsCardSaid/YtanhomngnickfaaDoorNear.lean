/-
  Contracts: Near of package num: the nearest fixed number.
-/
-- LAW 01
import Derived.Test.YtanhomngnickfaaDoorMod
namespace Go.Proofs.YtanhomngnickfaaDoor
open Go.RowKit

/-- units' contract at one rest and denominator. -/
def UnitsAt (r q : Int) : Prop := ∀ w, Calls Tryd.prog 95 #[.int .i64 r, .int .i64 q] w fun e w' => e = .returned (.int .i64 (Nm.un r q)) ∧ ∃ n, w' = w.drewN n

set_option maxHeartbeats 400000 in
theorem nearest_out (p q : Int) (w : World) (p0 : -9223372028264841218 ≤ p) (p1 : p ≤ 9223372028264841218) (q0 : 0 < q) (q1 : q ≤ 4611686014132420609) (ho : p.fdiv q < -2147483648 ∨ 2147483647 < p.fdiv q) :
    Calls Tryd.prog 96 #[.int .i64 p, .int .i64 q] w fun e w' => e = .returned (numV 0 0 17) ∧ Below w.heap.size w w' := by
  by_cases h1 : p.fdiv q < -2147483648
  · go_enter Tryd.func96, Tryd.ntmps96
    go_wp2_with fail
    refine (divide_any p q _ (by omega) (by omega) (by omega) (by omega) (by omega)).mono ?_; rintro e w' ⟨rfl, n, rfl⟩
    go_wp2_with fail
    exact bodyPost_ret (v := numV 0 0 17) (by simp [results, Tryd.results96, go_sem, numV]) rfl ⟨rfl, (by repeat (first | exact Below.refl _ _ | refine Below.setCell ?_ (by first | (simp; done) | (simp; omega) | omega) _ | refine below_drewN ?_ _ | refine Below.alloc ?_ (by first | (simp; done) | (simp; omega) | omega) _ | refine Below.trans ?_ (hb.mono (by first | (simp; done) | (simp; omega) | omega))))⟩
  · have h2 : 2147483647 < p.fdiv q := by omega
    go_enter Tryd.func96, Tryd.ntmps96
    go_wp2_with fail
    refine (divide_any p q _ (by omega) (by omega) (by omega) (by omega) (by omega)).mono ?_; rintro e w' ⟨rfl, n, rfl⟩
    go_wp2_with fail
    exact bodyPost_ret (v := numV 0 0 17) (by simp [results, Tryd.results96, go_sem, numV]) rfl ⟨rfl, (by repeat (first | exact Below.refl _ _ | refine Below.setCell ?_ (by first | (simp; done) | (simp; omega) | omega) _ | refine below_drewN ?_ _ | refine Below.alloc ?_ (by first | (simp; done) | (simp; omega) | omega) _ | refine Below.trans ?_ (hb.mono (by first | (simp; done) | (simp; omega) | omega))))⟩

set_option maxHeartbeats 400000 in
theorem nearest_outN (p q : Int) (w : World) (p0 : -9223372028264841218 ≤ p) (p1 : p ≤ 9223372028264841218) (q0 : q < 0) (q1 : -4611686014132420609 ≤ q) (ho : p.fdiv q < -2147483648 ∨ 2147483647 < p.fdiv q) :
    Calls Tryd.prog 96 #[.int .i64 p, .int .i64 q] w fun e w' => e = .returned (numV 0 0 17) ∧ Below w.heap.size w w' := by
  by_cases h1 : p.fdiv q < -2147483648
  · go_enter Tryd.func96, Tryd.ntmps96
    go_wp2_with fail
    refine (divide_any (-p) (-q) _ (by omega) (by omega) (by omega) (by omega) (by omega)).mono ?_; rintro e w' ⟨rfl, n, rfl⟩
    go_wp2_with fail
    exact bodyPost_ret (v := numV 0 0 17) (by simp [results, Tryd.results96, go_sem, numV]) rfl ⟨rfl, (by repeat (first | exact Below.refl _ _ | refine Below.setCell ?_ (by first | (simp; done) | (simp; omega) | omega) _ | refine below_drewN ?_ _ | refine Below.alloc ?_ (by first | (simp; done) | (simp; omega) | omega) _ | refine Below.trans ?_ (hb.mono (by first | (simp; done) | (simp; omega) | omega))))⟩
  · have h2 : 2147483647 < p.fdiv q := by omega
    go_enter Tryd.func96, Tryd.ntmps96
    go_wp2_with fail
    refine (divide_any (-p) (-q) _ (by omega) (by omega) (by omega) (by omega) (by omega)).mono ?_; rintro e w' ⟨rfl, n, rfl⟩
    go_wp2_with fail
    exact bodyPost_ret (v := numV 0 0 17) (by simp [results, Tryd.results96, go_sem, numV]) rfl ⟨rfl, (by repeat (first | exact Below.refl _ _ | refine Below.setCell ?_ (by first | (simp; done) | (simp; omega) | omega) _ | refine below_drewN ?_ _ | refine Below.alloc ?_ (by first | (simp; done) | (simp; omega) | omega) _ | refine Below.trans ?_ (hb.mono (by first | (simp; done) | (simp; omega) | omega))))⟩

set_option maxHeartbeats 400000 in
theorem nearest_in (p q f u : Int) (w : World) (p0 : -9223372028264841218 ≤ p) (p1 : p ≤ 9223372028264841218) (q0 : 0 < q) (q1 : q ≤ 4611686014132420609) (hf0 : p.fdiv q = f) (i0 : -2147483648 ≤ f) (i1 : f ≤ 2147483647) (hu : Nm.un (p.fmod q) q = u) (hU : UnitsAt (p.fmod q) q) :
    Calls Tryd.prog 96 #[.int .i64 p, .int .i64 q] w fun e w' => e = .returned (numV (Nm.mkP (f * 65536 + u) 65536) (Nm.mkQ (f * 65536 + u) 65536) (Nm.mkE (f * 65536 + u) 65536)) ∧ Below w.heap.size w w' := by
  obtain ⟨f0, f1⟩ := (Nm.fm_bd p q).1 q0
  obtain ⟨u0, u1⟩ := Nm.un_bd _ _ f0 f1
  rw [hu] at u0 u1
  have HU := Lib.hid hU
  have HF := Lib.hid hf0
  have Hu := Lib.hid hu
  clear hU hf0 hu
  go_enter Tryd.func96, Tryd.ntmps96
  go_wp2_with fail
  refine (divide_any p q _ (by omega) (by omega) (by omega) (by omega) (by omega)).mono ?_; rintro e w' ⟨rfl, n, rfl⟩
  rw [HF.out]
  go_wp2_with fail
  refine (HU.out _).mono ?_; rintro e w' ⟨rfl, n, rfl⟩
  rw [Hu.out]
  go_wp2_with fail
  refine (make_any (f * 65536 + u) 65536 _ (by omega) (by omega) (by omega) (by omega)).mono ?_; rintro e w' ⟨rfl, hb⟩; obtain ⟨hc, hf⟩ := bcell hb; have hsz := hb.size; simp at hsz; simp only [numV]
  go_wp2_with fail
  exact bodyPost_ret (v := numV (Nm.mkP (f * 65536 + u) 65536) (Nm.mkQ (f * 65536 + u) 65536) (Nm.mkE (f * 65536 + u) 65536)) (by simp [results, Tryd.results96, go_sem, numV, hc]) rfl ⟨rfl, (by repeat (first | exact Below.refl _ _ | refine Below.setCell ?_ (by first | (simp; done) | (simp; omega) | omega) _ | refine below_drewN ?_ _ | refine Below.alloc ?_ (by first | (simp; done) | (simp; omega) | omega) _ | refine Below.trans ?_ (hb.mono (by first | (simp; done) | (simp; omega) | omega))))⟩

set_option maxHeartbeats 400000 in
theorem nearest_inN (p q f u : Int) (w : World) (p0 : -9223372028264841218 ≤ p) (p1 : p ≤ 9223372028264841218) (q0 : q < 0) (q1 : -4611686014132420609 ≤ q) (hf0 : p.fdiv q = f) (i0 : -2147483648 ≤ f) (i1 : f ≤ 2147483647) (hu : Nm.un (-p.fmod q) (-q) = u) (hU : UnitsAt (-p.fmod q) (-q)) :
    Calls Tryd.prog 96 #[.int .i64 p, .int .i64 q] w fun e w' => e = .returned (numV (Nm.mkP (f * 65536 + u) 65536) (Nm.mkQ (f * 65536 + u) 65536) (Nm.mkE (f * 65536 + u) 65536)) ∧ Below w.heap.size w w' := by
  have fb := (Nm.fm_bd p q).2 q0
  have f0 : 0 ≤ -p.fmod q := by omega
  have f1 : -p.fmod q < -q := by omega
  clear fb
  obtain ⟨u0, u1⟩ := Nm.un_bd _ _ f0 f1
  rw [hu] at u0 u1
  have HU := Lib.hid hU
  have HF := Lib.hid hf0
  have Hu := Lib.hid hu
  clear hU hf0 hu
  go_enter Tryd.func96, Tryd.ntmps96
  go_wp2_with fail
  refine (divide_any (-p) (-q) _ (by omega) (by omega) (by omega) (by omega) (by omega)).mono ?_; rintro e w' ⟨rfl, n, rfl⟩
  have hfd : (-p).fdiv (-q) = f := by rw [← HF.out]; simp
  have hfm : (-p).fmod (-q) = -p.fmod q := by simp
  rw [hfd, hfm]
  clear hfd hfm
  go_wp2_with fail
  refine (HU.out _).mono ?_; rintro e w' ⟨rfl, n, rfl⟩
  rw [Hu.out]
  go_wp2_with fail
  refine (make_any (f * 65536 + u) 65536 _ (by omega) (by omega) (by omega) (by omega)).mono ?_; rintro e w' ⟨rfl, hb⟩; obtain ⟨hc, hf⟩ := bcell hb; have hsz := hb.size; simp at hsz; simp only [numV]
  go_wp2_with fail
  exact bodyPost_ret (v := numV (Nm.mkP (f * 65536 + u) 65536) (Nm.mkQ (f * 65536 + u) 65536) (Nm.mkE (f * 65536 + u) 65536)) (by simp [results, Tryd.results96, go_sem, numV, hc]) rfl ⟨rfl, (by repeat (first | exact Below.refl _ _ | refine Below.setCell ?_ (by first | (simp; done) | (simp; omega) | omega) _ | refine below_drewN ?_ _ | refine Below.alloc ?_ (by first | (simp; done) | (simp; omega) | omega) _ | refine Below.trans ?_ (hb.mono (by first | (simp; done) | (simp; omega) | omega))))⟩

set_option maxHeartbeats 400000 in
theorem near_err (s : ByteArray) (aP aQ bP bQ : Int) (w : World) (hx0 : ∀ w, Calls Tryd.prog 93 #[.string s, .agg #[.int .i64 aP, .int .i64 aQ], .agg #[.int .i64 bP, .int .i64 bQ]] w fun e w' => e = .returned (.tuple #[.int .i64 0, .int .i64 0, .int .i64 2]) ∧ Below w.heap.size w w') :
    Calls Tryd.prog 72 #[.string s, .agg #[.int .i64 aP, .int .i64 aQ], .agg #[.int .i64 bP, .int .i64 bQ]] w fun e w' => e = .returned (numV 0 0 2) ∧ Below w.heap.size w w' := by
  have hx := Lib.hid hx0
  clear hx0
  go_enter Tryd.func72, Tryd.ntmps72
  go_wp2_with fail
  refine (hx.out _).mono ?_; rintro e w' ⟨rfl, hb⟩; obtain ⟨hc, hf⟩ := bcell hb; have hsz := hb.size; simp at hsz
  go_wp2_with fail
  exact bodyPost_ret (v := numV 0 0 2) (by simp [results, Tryd.results72, go_sem, numV, hc]) rfl ⟨rfl, (by repeat (first | exact Below.refl _ _ | refine Below.setCell ?_ (by first | (simp; done) | (simp; omega) | omega) _ | refine below_drewN ?_ _ | refine Below.alloc ?_ (by first | (simp; done) | (simp; omega) | omega) _ | refine Below.trans ?_ (hb.mono (by first | (simp; done) | (simp; omega) | omega))))⟩

set_option maxHeartbeats 400000 in
theorem near_make (s : ByteArray) (aP aQ bP bQ p q : Int) (w : World) (hp0 : -9223372036854775808 ≤ p) (hp1 : p ≤ 9223372036854775807) (hq0 : -9223372036854775808 ≤ q) (hq1 : q ≤ 9223372036854775807) (hE : (Nm.mkE p q == 17) = false)
    (hx0 : ∀ w, Calls Tryd.prog 93 #[.string s, .agg #[.int .i64 aP, .int .i64 aQ], .agg #[.int .i64 bP, .int .i64 bQ]] w fun e w' => e = .returned (.tuple #[.int .i64 p, .int .i64 q, .int .i64 0]) ∧ Below w.heap.size w w') :
    Calls Tryd.prog 72 #[.string s, .agg #[.int .i64 aP, .int .i64 aQ], .agg #[.int .i64 bP, .int .i64 bQ]] w fun e w' => e = .returned (numV (Nm.mkP p q) (Nm.mkQ p q) (Nm.mkE p q)) ∧ Below w.heap.size w w' := by
  have hx := Lib.hid hx0
  clear hx0
  go_enter Tryd.func72, Tryd.ntmps72
  go_wp2_with fail
  refine (hx.out _).mono ?_; rintro e w' ⟨rfl, hb⟩; obtain ⟨hc, hf⟩ := bcell hb; have hsz := hb.size; simp at hsz
  go_wp2_with fail
  refine (make_any p q _ hp0 hp1 hq0 hq1).mono ?_; rintro e w'' ⟨rfl, hb2⟩; replace hb := hb.trans (hb2.mono hb.size); clear hb2 hc hf hsz; obtain ⟨hc, hf⟩ := bcell hb; have hsz := hb.size; simp at hsz; simp only [numV]
  have hz1 : w.heap.size + 1 + 1 < w''.heap.size := by omega
  go_wp2_with fail
  exact bodyPost_ret (v := numV (Nm.mkP p q) (Nm.mkQ p q) (Nm.mkE p q)) (by simp [results, Tryd.results72, go_sem, numV, hc, hz1]) rfl ⟨rfl, (by repeat (first | exact Below.refl _ _ | refine Below.setCell ?_ (by first | (simp; done) | (simp; omega) | omega) _ | refine below_drewN ?_ _ | refine Below.alloc ?_ (by first | (simp; done) | (simp; omega) | omega) _ | refine Below.trans ?_ (hb.mono (by first | (simp; done) | (simp; omega) | omega))))⟩

set_option maxHeartbeats 400000 in
theorem near_near (s : ByteArray) (aP aQ bP bQ p q x y e0 : Int) (w : World) (hp0 : -9223372036854775808 ≤ p) (hp1 : p ≤ 9223372036854775807) (hq0 : -9223372036854775808 ≤ q) (hq1 : q ≤ 9223372036854775807) (hE0 : Nm.mkE p q = 17)
    (hx0 : ∀ w, Calls Tryd.prog 93 #[.string s, .agg #[.int .i64 aP, .int .i64 aQ], .agg #[.int .i64 bP, .int .i64 bQ]] w fun e w' => e = .returned (.tuple #[.int .i64 p, .int .i64 q, .int .i64 0]) ∧ Below w.heap.size w w')
    (hn0 : ∀ w, Calls Tryd.prog 96 #[.int .i64 p, .int .i64 q] w fun e w' => e = .returned (numV x y e0) ∧ Below w.heap.size w w') :
    Calls Tryd.prog 72 #[.string s, .agg #[.int .i64 aP, .int .i64 aQ], .agg #[.int .i64 bP, .int .i64 bQ]] w fun e w' => e = .returned (numV x y e0) ∧ Below w.heap.size w w' := by
  have hx := Lib.hid hx0
  have hn := Lib.hid hn0
  have hE := Lib.hid hE0
  clear hx0 hn0 hE0
  go_enter Tryd.func72, Tryd.ntmps72
  go_wp2_with fail
  refine (hx.out _).mono ?_; rintro e w' ⟨rfl, hb⟩; obtain ⟨hc, hf⟩ := bcell hb; have hsz := hb.size; simp at hsz
  go_wp2_with fail
  refine (make_any p q _ hp0 hp1 hq0 hq1).mono ?_; rintro e w'' ⟨rfl, hb2⟩; replace hb := hb.trans (hb2.mono hb.size); clear hb2 hc hf hsz; obtain ⟨hc, hf⟩ := bcell hb; have hsz := hb.size; simp at hsz; simp only [numV]
  rw [hE.out]
  go_wp2_with fail
  refine (hn.out _).mono ?_; rintro e w3 ⟨rfl, hb3⟩; obtain ⟨hc3, hf3⟩ := bcell hb3; have hsz3 := hb3.size; simp at hsz3; simp only [numV]
  have hz1 : w.heap.size + 1 + 1 < w''.heap.size := by omega
  have hz2 : w.heap.size + 1 + 1 < w''.heap.size + 1 := by omega
  go_wp2_with fail
  exact bodyPost_ret (v := numV x y e0) (by simp [results, Tryd.results72, go_sem, numV, hc, hc3, hz1, hz2]) rfl ⟨rfl, (by repeat (first | exact Below.refl _ _ | refine Below.setCell ?_ (by first | (simp; done) | (simp; omega) | omega) _ | refine below_drewN ?_ _ | refine Below.alloc ?_ (by first | (simp; done) | (simp; omega) | omega) _ | refine Below.trans ?_ (hb3.mono (by first | (simp; done) | (simp; omega) | omega)) | refine Below.trans ?_ (hb.mono (by first | (simp; done) | (simp; omega) | omega))))⟩
end Go.Proofs.YtanhomngnickfaaDoor
