/-
  Contracts: Near at an operation that is none.
-/
-- LAW 01
import Derived.Test.YtmcpbnkmccngpaaDoorRNear
namespace Go.Proofs.YtmcpbnkmccngpaaDoor
open Go.RowKit

set_option maxHeartbeats 400000 in
theorem rnear_bad (s : ByteArray) (aP aQ bP bQ : Int) (w : World) (n1 : (s.toList == [43]) = false) (n2 : (s.toList == [45]) = false) (n3 : (s.toList == [42]) = false) (n4 : (s.toList == [47]) = false) :
    Calls Tryd.prog 27 #[.string s, .agg #[.int .i64 aP, .int .i64 aQ], .agg #[.int .i64 bP, .int .i64 bQ]] w fun e w' => e = .returned (numV 0 0 2) ∧ Below w.heap.size w w' := by
  go_enter Tryd.func27, Tryd.ntmps27
  go_wp2_with fail
  exact bodyPost_ret (v := numV 0 0 2) (by simp [results, Tryd.results27, go_sem, numV]) rfl ⟨rfl, (by repeat (first | exact Below.refl _ _ | refine Below.setCell ?_ (by first | (simp; done) | (simp; omega) | omega) _ | refine below_drewN ?_ _ | refine Below.alloc ?_ (by first | (simp; done) | (simp; omega) | omega) _ | refine Below.trans ?_ (hb.mono (by first | (simp; done) | (simp; omega) | omega))))⟩
set_option maxHeartbeats 400000 in
theorem exact_bad (s : ByteArray) (aP aQ bP bQ : Int) (w : World) (hva : Nm.vld aP aQ = true) (hvb : Nm.vld bP bQ = true) (n1 : (s.toList == [43]) = false) (n2 : (s.toList == [45]) = false) (n3 : (s.toList == [42]) = false) (n4 : (s.toList == [47]) = false) :
    Calls Tryd.prog 55 #[.string s, .agg #[.int .i64 aP, .int .i64 aQ], .agg #[.int .i64 bP, .int .i64 bQ]] w fun e w' => e = .returned (.tuple #[.int .i64 0, .int .i64 0, .int .i64 2]) ∧ Below w.heap.size w w' := by
  obtain ⟨x1, x2, x3, x4⟩ := vld_bd hva
  obtain ⟨y1, y2, y3, y4⟩ := vld_bd hvb
  have HV : Hid ((Nm.vld aP aQ && Nm.vld bP bQ) = true) := by rw [hva, hvb]; rfl
  clear hva hvb
  go_enter Tryd.func55, Tryd.ntmps55
  go_wp2_with fail
  refine (allValid_any _ aP aQ bP bQ _ (by omega) (by omega) (by omega) (by omega) (by omega) (by omega) (by omega) (by omega) (by simp) (by simp [go_sem]) (by simp [go_sem]) (by simp [go_sem]) (by simp [go_sem])).mono ?_; rintro e w' ⟨rfl, hb⟩
  rw [HV.out]
  go_wp2_with fail
  go_ret3
  exact ⟨rfl, (by repeat (first | exact Below.refl _ _ | refine Below.setCell ?_ (by first | (simp; done) | (simp; omega) | omega) _ | refine below_drewN ?_ _ | refine Below.alloc ?_ (by first | (simp; done) | (simp; omega) | omega) _ | refine Below.trans ?_ (hb.mono (by first | (simp; done) | (simp; omega) | omega))))⟩
theorem str_of (s : ByteArray) (c : UInt8) (h : s.toList = [c]) : s = ⟨#[c]⟩ := by
  rcases s with ⟨⟨l⟩⟩
  rw [show (ByteArray.mk ⟨l⟩).toList = l from ByteArray.toList_mk l] at h
  subst h
  rfl
end Go.Proofs.YtmcpbnkmccngpaaDoor
