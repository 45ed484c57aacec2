/-
  Near, of the program and of the reference: one answer.
-/
-- LAW 01
import Derived.Test.YtmcpbnkmccngpaaDoorNear2
namespace Go.Proofs.YtmcpbnkmccngpaaDoor
open Go.RowKit

namespace Nm
theorem mkE_two (p : Int) {q : Int} (hq : q ≠ 0) : mkE p q = 0 ∨ mkE p q = 17 := by
  unfold mkE
  rw [if_neg hq]
  split
  · right; rfl
  · left; rfl
theorem fx_far {p q : Int} (q0 : 0 < q) (ho : p.fdiv q < -2147483648 ∨ 2147483647 < p.fdiv q) : mkE (fx p q) 65536 = 17 := by
  obtain ⟨f0, f1⟩ := (fm_bd p q).1 q0
  obtain ⟨u0, u1⟩ := un_bd _ _ f0 f1
  rcases mkE_two (fx p q) (show (65536 : Int) ≠ 0 by decide) with h | h
  · obtain ⟨hv, he⟩ := mk_spec (by decide) h
    obtain ⟨b1, b2, b3, b4⟩ := vld_bd hv
    have hn : fx p q = p.fdiv q * 65536 + un (p.fmod q) q := rfl
    generalize fx p q = n at *
    generalize mkP n 65536 = X at *
    generalize mkQ n 65536 = Y at *
    rcases ho with ho | ho
    · have : n ≤ -140737488355328 := by omega
      have := Int.mul_le_mul_of_nonneg_right this (show 0 ≤ Y by omega)
      omega
    · have : 140737488355328 ≤ n := by omega
      have := Int.mul_le_mul_of_nonneg_right this (show 0 ≤ Y by omega)
      omega
  · exact h
theorem mk_no {p q : Int} (h : mkE p q = 17) : mkP p q = 0 ∧ mkQ p q = 0 := by
  unfold mkP mkQ
  rw [if_neg (by omega), if_neg (by omega)]
  exact ⟨rfl, rfl⟩
end Nm
def nrV (n : Int) : Value := numV (Nm.mkP n 65536) (Nm.mkQ n 65536) (Nm.mkE n 65536)
theorem nrV_far {n : Int} (h : Nm.mkE n 65536 = 17) : nrV n = numV 0 0 17 := by
  unfold nrV
  rw [h, (Nm.mk_no h).1, (Nm.mk_no h).2]
theorem nearest_val (p q : Int) (w : World) (p0 : -9223372028264841218 ≤ p) (p1 : p ≤ 9223372028264841218) (q0 : 0 < q) (q1 : q ≤ 4611686014132420609) :
    Calls Tryd.prog 56 #[.int .i64 p, .int .i64 q] w fun e w' => e = .returned (nrV (Nm.fx p q)) ∧ Below w.heap.size w w' := by
  obtain ⟨f0, f1⟩ := (Nm.fm_bd p q).1 q0
  by_cases ho : p.fdiv q < -2147483648 ∨ 2147483647 < p.fdiv q
  · rw [nrV_far (Nm.fx_far q0 ho)]
    exact nearest_out p q w (by omega) (by omega) q0 q1 ho
  · exact nearest_in p q _ _ w (by omega) (by omega) q0 q1 rfl (by omega) (by omega) rfl (units_any _ _ f0 f1 (by omega))
theorem nearest_valN (p q : Int) (w : World) (p0 : -9223372028264841218 ≤ p) (p1 : p ≤ 9223372028264841218) (q0 : q < 0) (q1 : -4611686014132420609 ≤ q) :
    Calls Tryd.prog 56 #[.int .i64 p, .int .i64 q] w fun e w' => e = .returned (nrV (Nm.fx (-p) (-q))) ∧ Below w.heap.size w w' := by
  have fb := (Nm.fm_bd p q).2 q0
  by_cases ho : p.fdiv q < -2147483648 ∨ 2147483647 < p.fdiv q
  · rw [nrV_far (Nm.fx_far (show 0 < -q by omega) (by rw [Int.neg_fdiv_neg]; exact ho))]
    exact nearest_outN p q w (by omega) (by omega) q0 q1 ho
  · have := nearest_inN p q _ _ w (by omega) (by omega) q0 q1 rfl (by omega) (by omega) rfl (units_any _ _ (by omega) (by omega) (by omega))
    rwa [show Nm.fx (-p) (-q) = p.fdiv q * 65536 + Nm.un (-p.fmod q) (-q) by unfold Nm.fx; rw [Int.neg_fdiv_neg, Int.neg_fmod_neg]]
theorem near_both (s : ByteArray) (c : UInt8) (hop : c = 43 ∨ c = 45 ∨ c = 42 ∨ c = 47) (hs : s = ⟨#[c]⟩) (aP aQ bP bQ p q p' q' : Int) (p0 : -9223372028264841218 ≤ p) (p1 : p ≤ 9223372028264841218) (qa : -4611686014132420609 ≤ q) (qb : q ≤ 4611686014132420609)
    (q0 : 0 < q') (hpq : (p' = p ∧ q' = q) ∨ (p' = -p ∧ q' = -q)) (hx : ∀ w, Calls Tryd.prog 55 #[.string ⟨#[c]⟩, .agg #[.int .i64 aP, .int .i64 aQ], .agg #[.int .i64 bP, .int .i64 bQ]] w fun e w' => e = .returned (.tuple #[.int .i64 p, .int .i64 q, .int .i64 0]) ∧ Below w.heap.size w w') (hy : ∀ w, Calls Tryd.prog 58 #[.string ⟨#[c]⟩, .agg #[.int .i64 aP, .int .i64 aQ], .agg #[.int .i64 bP, .int .i64 bQ]] w fun e w' => e = .returned (.tuple #[.int .i64 p', .int .i64 q']) ∧ Below w.heap.size w w') (hr : ∀ w, Calls Tryd.prog 54 #[.string ⟨#[c]⟩, .agg #[.int .i64 aP, .int .i64 aQ], .agg #[.int .i64 bP, .int .i64 bQ]] w fun e w' => e = .returned (numV (Nm.mkP p q) (Nm.mkQ p q) (Nm.mkE p q)) ∧ Below w.heap.size w w') : ∃ x y e0, (∀ w, Calls Tryd.prog 26 #[.string s, .agg #[.int .i64 aP, .int .i64 aQ], .agg #[.int .i64 bP, .int .i64 bQ]] w fun e w' => e = .returned (numV x y e0) ∧ Below w.heap.size w w') ∧ (∀ w, Calls Tryd.prog 27 #[.string s, .agg #[.int .i64 aP, .int .i64 aQ], .agg #[.int .i64 bP, .int .i64 bQ]] w fun e w' => e = .returned (numV x y e0) ∧ Below w.heap.size w w') := by
  subst hs
  by_cases hE : Nm.mkE p q = 17
  · have hn : ∀ w, Calls Tryd.prog 56 #[.int .i64 p, .int .i64 q] w fun e w' => e = .returned (nrV (Nm.fx p' q')) ∧ Below w.heap.size w w' := by
      intro w
      rcases hpq with ⟨rfl, rfl⟩ | ⟨rfl, rfl⟩
      · exact nearest_val _ _ w p0 p1 q0 (by omega)
      · exact nearest_valN _ _ w p0 p1 (by omega) (by omega)
    refine ⟨Nm.mkP (Nm.fx p' q') 65536, Nm.mkQ (Nm.fx p' q') 65536, Nm.mkE (Nm.fx p' q') 65536, fun w => near_near _ aP aQ bP bQ p q _ _ _ w (by omega) (by omega) (by omega) (by omega) hE hx hn, fun w => ?_⟩
    by_cases ho : 4294967294 < p'.fdiv q' ∨ p'.fdiv q' < -4294967294
    · have hf := Nm.fx_far (p := p') q0 (by omega)
      rw [hf, (Nm.mk_no hf).1, (Nm.mk_no hf).2]
      rw [hE] at hr
      exact rnear_out c hop aP aQ bP bQ _ _ p' q' 0 w hr hy (fun w => rfixed_out p' q' w (by omega) (by omega) q0 (by omega) ho)
    · rw [hE] at hr
      obtain ⟨f0, f1⟩ := (Nm.fm_bd p' q').1 q0
      have hu := Nm.un_bd _ _ f0 f1
      have hn : Nm.fx p' q' = p'.fdiv q' * 65536 + Nm.un (p'.fmod q') q' := rfl
      exact rnear_ok c hop aP aQ bP bQ _ _ p' q' _ w (by omega) (by omega) hr hy (fun w => rfixed_in p' q' w (by omega) (by omega) q0 (by omega) (by omega) (by omega))
  · refine ⟨_, _, _, fun w => near_make _ aP aQ bP bQ p q w (by omega) (by omega) (by omega) (by omega) (by simpa using hE) hx, fun w => rnear_keep c hop aP aQ bP bQ _ _ _ w (by simpa using hE) hr⟩
end Go.Proofs.YtmcpbnkmccngpaaDoor
