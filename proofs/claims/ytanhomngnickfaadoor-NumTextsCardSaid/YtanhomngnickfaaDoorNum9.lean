/-
  Contracts: Floor, Cmp, FromFixed, Mod of package num and of the reference.
-/
-- LAW 01
import Derived.Test.YtanhomngnickfaaDoorFix1
namespace Go.Proofs.YtanhomngnickfaaDoor
open Go.RowKit

/-- Compare: -1, 0, 1. -/
def cmp3 (x y : Int) : Int := if x < y then -1 else if y < x then 1 else 0
theorem cmp3_lt {x y : Int} (h : x < y) : cmp3 x y = -1 := by simp [cmp3, h]
theorem cmp3_gt {x y : Int} (h : y < x) : cmp3 x y = 1 := by simp only [cmp3, if_neg (by omega : ¬ x < y), if_pos h]
theorem cmp3_eq {x y : Int} (h : ¬ x < y) (h' : ¬ y < x) : cmp3 x y = 0 := by simp only [cmp3, if_neg h, if_neg h']

set_option maxHeartbeats 400000 in
theorem floor_no (p q : Int) (w : World) (h1 : -9223372036854775808 ≤ p) (h2 : p ≤ 9223372036854775807) (h3 : -9223372036854775808 ≤ q) (h4 : q ≤ 9223372036854775807) (hv : Nm.vld p q = false) :
    Calls Tryd.prog 69 #[.agg #[.int .i64 p, .int .i64 q]] w fun e w' => e = .returned (.tuple #[.int .i64 0, .int .i64 2]) ∧ Below w.heap.size w w' := by
  have HV := Lib.hid hv
  clear hv
  go_enter Tryd.func69, Tryd.ntmps69
  go_wp2_with fail
  refine (valid_any _ _ _ h1 h2 h3 h4).mono ?_; rintro e w' ⟨rfl, hb⟩
  rw [HV.out]
  go_wp2_with fail
  go_ret2
  exact ⟨rfl, (by repeat (first | exact Below.refl _ _ | refine Below.setCell ?_ (by first | (simp; done) | (simp; omega) | omega) _ | refine below_drewN ?_ _ | refine Below.alloc ?_ (by first | (simp; done) | (simp; omega) | omega) _ | refine Below.trans ?_ (hb.mono (by first | (simp; done) | (simp; omega) | omega))))⟩

set_option maxHeartbeats 400000 in
theorem floor_ok (p q : Int) (w : World) (hv : Nm.vld p q = true) :
    Calls Tryd.prog 69 #[.agg #[.int .i64 p, .int .i64 q]] w fun e w' => e = .returned (.tuple #[.int .i64 (p.fdiv q), .int .i64 0]) ∧ Below w.heap.size w w' := by
  obtain ⟨x1, x2, x3, x4⟩ := vld_bd hv
  have HV := Lib.hid hv
  clear hv
  obtain ⟨d1, d2⟩ := Nm.fdiv_bd p q x1 (by omega) x4
  go_enter Tryd.func69, Tryd.ntmps69
  go_wp2_with fail
  refine (valid_any _ _ _ (by omega) (by omega) (by omega) (by omega)).mono ?_; rintro e w' ⟨rfl, hb⟩; obtain ⟨hc, hf⟩ := bcell hb; have hsz := hb.size; simp at hsz
  rw [HV.out]
  go_wp2_with fail
  refine (divide_any p q _ (by omega) (by omega) (by omega) (by omega) (by omega)).mono ?_; rintro e w' ⟨rfl, n, rfl⟩
  go_wp2_with fail
  go_ret2
  exact ⟨rfl, (by repeat (first | exact Below.refl _ _ | refine Below.setCell ?_ (by first | (simp; done) | (simp; omega) | omega) _ | refine below_drewN ?_ _ | refine Below.alloc ?_ (by first | (simp; done) | (simp; omega) | omega) _ | refine Below.trans ?_ (hb.mono (by first | (simp; done) | (simp; omega) | omega))))⟩

/-- What Cmp returns. -/
def cmpV (v : Bool) (x y : Int) : Value := if v = true then .tuple #[.int .i64 (cmp3 x y), .int .i64 0] else .tuple #[.int .i64 0, .int .i64 2]

end Go.Proofs.YtanhomngnickfaaDoor
