/-
  Contracts: the four operations, of package num and of the reference.
-/
-- LAW 01
import Derived.Test.YtanhomngnickfaaDoorNum6
namespace Go.Proofs.YtanhomngnickfaaDoor
open Go.RowKit

set_option maxHeartbeats 400000 in
theorem calc_err (s : ByteArray) (aP aQ bP bQ : Int) (w : World) (hx0 : ∀ w, Calls Tryd.prog 93 #[.string s, .agg #[.int .i64 aP, .int .i64 aQ], .agg #[.int .i64 bP, .int .i64 bQ]] w fun e w' => e = .returned (.tuple #[.int .i64 0, .int .i64 0, .int .i64 2]) ∧ Below w.heap.size w w') :
    Calls Tryd.prog 92 #[.string s, .agg #[.int .i64 aP, .int .i64 aQ], .agg #[.int .i64 bP, .int .i64 bQ]] w fun e w' => e = .returned (numV 0 0 2) ∧ Below w.heap.size w w' := by
  have hx := Lib.hid hx0
  clear hx0
  go_enter Tryd.func92, Tryd.ntmps92
  go_wp2_with fail
  refine (hx.out _).mono ?_; rintro e w' ⟨rfl, hb⟩; obtain ⟨hc, hf⟩ := bcell hb; have hsz := hb.size; simp at hsz
  go_wp2_with fail
  exact bodyPost_ret (v := numV 0 0 2) (by simp [results, Tryd.results92, go_sem, numV, hc]) rfl ⟨rfl, (by repeat (first | exact Below.refl _ _ | refine Below.setCell ?_ (by first | (simp; done) | (simp; omega) | omega) _ | refine below_drewN ?_ _ | refine Below.alloc ?_ (by first | (simp; done) | (simp; omega) | omega) _ | refine Below.trans ?_ (hb.mono (by first | (simp; done) | (simp; omega) | omega))))⟩

set_option maxHeartbeats 400000 in
theorem calc_ok (s : ByteArray) (aP aQ bP bQ p q : Int) (w : World) (hp0 : -9223372036854775808 ≤ p) (hp1 : p ≤ 9223372036854775807) (hq0 : -9223372036854775808 ≤ q) (hq1 : q ≤ 9223372036854775807)
    (hx0 : ∀ w, Calls Tryd.prog 93 #[.string s, .agg #[.int .i64 aP, .int .i64 aQ], .agg #[.int .i64 bP, .int .i64 bQ]] w fun e w' => e = .returned (.tuple #[.int .i64 p, .int .i64 q, .int .i64 0]) ∧ Below w.heap.size w w') :
    Calls Tryd.prog 92 #[.string s, .agg #[.int .i64 aP, .int .i64 aQ], .agg #[.int .i64 bP, .int .i64 bQ]] w fun e w' => e = .returned (numV (Nm.mkP p q) (Nm.mkQ p q) (Nm.mkE p q)) ∧ Below w.heap.size w w' := by
  have hx := Lib.hid hx0
  clear hx0
  go_enter Tryd.func92, Tryd.ntmps92
  go_wp2_with fail
  refine (hx.out _).mono ?_; rintro e w' ⟨rfl, hb⟩; obtain ⟨hc, hf⟩ := bcell hb; have hsz := hb.size; simp at hsz
  go_wp2_with fail
  refine (make_any p q _ hp0 hp1 hq0 hq1).mono ?_; rintro e w'' ⟨rfl, hb2⟩; replace hb := hb.trans (hb2.mono hb.size); clear hb2 hc hf hsz; obtain ⟨hc, hf⟩ := bcell hb; have hsz := hb.size; simp at hsz; simp only [numV]
  go_wp2_with fail
  exact bodyPost_ret (v := numV (Nm.mkP p q) (Nm.mkQ p q) (Nm.mkE p q)) (by simp [results, Tryd.results92, go_sem, numV, hc]) rfl ⟨rfl, (by repeat (first | exact Below.refl _ _ | refine Below.setCell ?_ (by first | (simp; done) | (simp; omega) | omega) _ | refine below_drewN ?_ _ | refine Below.alloc ?_ (by first | (simp; done) | (simp; omega) | omega) _ | refine Below.trans ?_ (hb.mono (by first | (simp; done) | (simp; omega) | omega))))⟩

end Go.Proofs.YtanhomngnickfaaDoor
