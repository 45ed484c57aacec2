/-
  Contracts: both (reference), allValid and exact (package num).
-/
-- LAW 01
import Derived.Test.YtanhomngnickfaaDoorNum4
namespace Go.Proofs.YtanhomngnickfaaDoor
open Go.RowKit

/-- What the parts of two numbers are within. -/
def Fits64 (n : Int) : Prop := -9223372036854775808 ≤ n ∧ n ≤ 9223372036854775807

set_option maxHeartbeats 400000 in
theorem allValid_any (b : Nat) (aP aQ bP bQ : Int) (w : World) (h1 : -9223372036854775808 ≤ aP) (h2 : aP ≤ 9223372036854775807) (h3 : -9223372036854775808 ≤ aQ) (h4 : aQ ≤ 9223372036854775807)
    (k1 : -9223372036854775808 ≤ bP) (k2 : bP ≤ 9223372036854775807) (k3 : -9223372036854775808 ≤ bQ) (k4 : bQ ≤ 9223372036854775807) (hbl : b < w.heap.size)
    (c0 : w.cell? ⟨b, 0, none⟩ = some (.int .i64 aP)) (c1 : w.cell? ⟨b, 1, none⟩ = some (.int .i64 aQ)) (c2 : w.cell? ⟨b, 2, none⟩ = some (.int .i64 bP)) (c3 : w.cell? ⟨b, 3, none⟩ = some (.int .i64 bQ)) :
    Calls Tryd.prog 105 #[.slice (some ⟨b, 0, none⟩) 2 2] w fun e w' => e = .returned (.bool (Nm.vld aP aQ && Nm.vld bP bQ)) ∧ Below w.heap.size w w' := by
  go_enter Tryd.func105, Tryd.ntmps105
  go_wp2
  go_loopw [7] (fun i wr => ∃ k : Nat, i = .int .i64 k ∧ k ≤ 2 ∧ (1 ≤ k → Nm.vld aP aQ = true) ∧ (2 ≤ k → Nm.vld bP bQ = true) ∧ Below w.heap.size w wr) (fun i _ => 2 - (intOf i).toNat)
  case atStart => exact ⟨0, rfl, by omega, by omega, by omega, Below.refl _ _⟩
  case round =>
    obtain ⟨k, rfl, hk, q1, q2, hb⟩ := hrel
    have hc := (bcell hb).1
    have hs := hb.size
    have d0 := (hc b 0 hbl).trans c0
    have d1 := (hc b 1 hbl).trans c1
    have d2 := (hc b 2 hbl).trans c2
    have d3 := (hc b 3 hbl).trans c3
    clear hc c0 c1 c2 c3
    rcases (by omega : k = 0 ∨ k = 1 ∨ k = 2) with e | e | e
    · subst e
      clear q1 q2 d2 d3
      cases hv : Nm.vld aP aQ
      · go_wp2_with fail
        refine (valid_any _ _ _ h1 h2 h3 h4).mono ?_; rintro e w1 ⟨rfl, hb1⟩
        rw [hv]
        go_wp2
        go_ret
        exact ⟨ret_bool (by simp [hv]), (hb.alloc hs _).trans (hb1.mono (by simp; omega))⟩
      · have HV := Lib.hid hv
        clear hv
        go_wp2_with fail
        refine (valid_any _ _ _ h1 h2 h3 h4).mono ?_; rintro e w1 ⟨rfl, hb1⟩
        rw [HV.out]
        go_wp2
        refine ⟨⟨1, by go_num, by omega, by simp, by omega, ?_⟩, by simp [intOf]⟩
        exact (hb.alloc hs _).trans (hb1.mono (by simp; omega))
    · subst e
      have HQ := Lib.hid (q1 (by omega))
      clear q1 q2 d0 d1
      cases hv : Nm.vld bP bQ
      · go_wp2_with fail
        refine (valid_any _ _ _ k1 k2 k3 k4).mono ?_; rintro e w1 ⟨rfl, hb1⟩
        rw [hv]
        go_wp2
        go_ret
        exact ⟨ret_bool (by simp [hv]), (hb.alloc hs _).trans (hb1.mono (by simp; omega))⟩
      · have HV := Lib.hid hv
        clear hv
        go_wp2_with fail
        refine (valid_any _ _ _ k1 k2 k3 k4).mono ?_; rintro e w1 ⟨rfl, hb1⟩
        rw [HV.out]
        go_wp2
        refine ⟨⟨2, by go_num, by omega, by simp [HQ.out], by simp, ?_⟩, by simp [intOf]⟩
        exact (hb.alloc hs _).trans (hb1.mono (by simp; omega))
    · subst e
      have HQ := Lib.hid (q1 (by omega))
      have HV := Lib.hid (q2 (by omega))
      clear q1 q2 d0 d1 d2 d3
      go_wp2
      go_ret
      exact ⟨ret_bool (by rw [HQ.out, HV.out]; rfl), hb⟩
end Go.Proofs.YtanhomngnickfaaDoor
