/-
  Contracts: the law's own sum and product.
-/
-- LAW 01
import Derived.Test.YtmcpbnkmccngpaaDoorAwake
import Derived.Test.YtmcpbnkmccngpaaDoorFixMath
import Derived.Deep.DeepCutAuto
namespace Go.Proofs.YtmcpbnkmccngpaaDoor
open Go.RowKit

/-- What sum and product return. -/
def sumV (p q : Int) (b : Bool) : Value := .tuple #[.agg #[.int .i64 p, .int .i64 q], .bool b]
set_option maxHeartbeats 400000 in
theorem sum_of (aP aQ bP bQ x y e0 : Int) (w : World) (c1 : ∀ w, Calls Tryd.prog 18 #[.agg #[.int .i64 aP, .int .i64 aQ], .agg #[.int .i64 bP, .int .i64 bQ]] w fun e w' => e = .returned (numV x y e0) ∧ Below w.heap.size w w') :
    Calls Tryd.prog 46 #[.agg #[.int .i64 aP, .int .i64 aQ], .agg #[.int .i64 bP, .int .i64 bQ]] w fun e w' => e = .returned (sumV x y (e0 == 0)) ∧ Below w.heap.size w w' := by
  have C1 := Lib.hid c1
  clear c1
  go_enter Tryd.func46, Tryd.ntmps46
  go_wp2_with fail
  refine (C1.out _).mono ?_; rintro e w' ⟨rfl, hb⟩; obtain ⟨hc, hf⟩ := bcell hb; have hsz := hb.size; simp at hsz; simp only [numV]
  have hz : w.heap.size + 1 + 1 < w'.heap.size := by omega
  go_wp2_with fail
  exact bodyPost_ret (v := sumV x y (e0 == 0)) (by simp [results, Tryd.results46, go_sem, sumV, hc, hsz, hz]) rfl ⟨rfl, (by repeat (first | exact Below.refl _ _ | refine Below.setCell ?_ (by first | (simp; done) | (simp; omega) | omega) _ | refine below_drewN ?_ _ | refine Below.alloc ?_ (by first | (simp; done) | (simp; omega) | omega) _ | refine Below.trans ?_ (hb.mono (by first | (simp; done) | (simp; omega) | omega))))⟩
set_option maxHeartbeats 400000 in
theorem product_of (aP aQ bP bQ x y e0 : Int) (w : World) (c1 : ∀ w, Calls Tryd.prog 22 #[.agg #[.int .i64 aP, .int .i64 aQ], .agg #[.int .i64 bP, .int .i64 bQ]] w fun e w' => e = .returned (numV x y e0) ∧ Below w.heap.size w w') :
    Calls Tryd.prog 47 #[.agg #[.int .i64 aP, .int .i64 aQ], .agg #[.int .i64 bP, .int .i64 bQ]] w fun e w' => e = .returned (sumV x y (e0 == 0)) ∧ Below w.heap.size w w' := by
  have C1 := Lib.hid c1
  clear c1
  go_enter Tryd.func47, Tryd.ntmps47
  go_wp2_with fail
  refine (C1.out _).mono ?_; rintro e w' ⟨rfl, hb⟩; obtain ⟨hc, hf⟩ := bcell hb; have hsz := hb.size; simp at hsz; simp only [numV]
  have hz : w.heap.size + 1 + 1 < w'.heap.size := by omega
  go_wp2_with fail
  exact bodyPost_ret (v := sumV x y (e0 == 0)) (by simp [results, Tryd.results47, go_sem, sumV, hc, hsz, hz]) rfl ⟨rfl, (by repeat (first | exact Below.refl _ _ | refine Below.setCell ?_ (by first | (simp; done) | (simp; omega) | omega) _ | refine below_drewN ?_ _ | refine Below.alloc ?_ (by first | (simp; done) | (simp; omega) | omega) _ | refine Below.trans ?_ (hb.mono (by first | (simp; done) | (simp; omega) | omega))))⟩
end Go.Proofs.YtmcpbnkmccngpaaDoor
