/-
  Contracts of the reference of layer 3: words and signs.
-/
import Derived.Test.YtmfbnlaohlnljaaGreatDoorLxY
import Derived.BigRegion
namespace Go.Proofs.YtmfbnlaohlnljaaGreatDoor
open Go.RowKit

namespace Lx
/-- The words, with blanks between. -/
def wdT : List UInt8 := [100, 101, 102, 32, 101, 110, 100, 100, 101, 102, 32, 108, 101, 116, 32, 98, 101, 103, 105, 110, 103, 114, 111, 117, 112, 32, 101, 110, 100, 103, 114, 111, 117, 112, 32, 115, 97, 118, 101, 32, 105, 102, 32, 101, 108, 115, 101, 105, 102, 32, 101, 108, 115, 101, 32, 102, 105, 32, 102, 111, 114, 32, 115, 116, 101, 112, 32, 117, 110, 116, 105, 108, 32, 101, 110, 100, 102, 111, 114, 32, 102, 111, 114, 101, 118, 101, 114, 32, 101, 120, 105, 116, 105, 102, 32, 110, 117, 109, 101, 114, 105, 99, 32, 112, 97, 105, 114, 32, 98, 111, 111, 108, 101, 97, 110, 32, 115, 116, 114, 105, 110, 103, 32, 116, 114, 97, 110, 115, 102, 111, 114, 109, 32, 112, 97, 116, 104, 32, 112, 101, 110, 32, 99, 121, 99, 108, 101, 32, 99, 111, 110, 116, 114, 111, 108, 115, 32, 97, 110, 100, 32, 116, 101, 110, 115, 105, 111, 110, 32, 99, 117, 114, 108, 32, 116, 114, 117, 101, 32, 102, 97, 108, 115, 101, 32, 105, 100, 101, 110, 116, 105, 116, 121, 32, 112, 101, 110, 99, 105, 114, 99, 108, 101, 32, 112, 101, 110, 115, 113, 117, 97, 114, 101, 32, 110, 111, 116, 32, 107, 110, 111, 119, 110, 32, 117, 110, 107, 110, 111, 119, 110, 32, 111, 100, 100, 32, 102, 108, 111, 111, 114, 32, 97, 98, 115, 32, 115, 113, 114, 116, 32, 115, 105, 110, 100, 32, 99, 111, 115, 100, 32, 97, 110, 103, 108, 101, 32, 100, 105, 114, 32, 108, 101, 110, 103, 116, 104, 32, 120, 112, 97, 114, 116, 32, 121, 112, 97, 114, 116, 32, 120, 120, 112, 97, 114, 116, 32, 120, 121, 112, 97, 114, 116, 32, 121, 120, 112, 97, 114, 116, 32, 121, 121, 112, 97, 114, 116, 32, 105, 110, 118, 101, 114, 115, 101, 32, 100, 101, 99, 105, 109, 97, 108, 32, 99, 104, 97, 114, 32, 99, 111, 100, 101, 32, 114, 101, 118, 101, 114, 115, 101, 32, 112, 111, 105, 110, 116, 32, 111, 102, 32, 100, 105, 114, 101, 99, 116, 105, 111, 110, 32, 115, 117, 98, 112, 97, 116, 104, 32, 112, 114, 101, 99, 111, 110, 116, 114, 111, 108, 32, 112, 111, 115, 116, 99, 111, 110, 116, 114, 111, 108, 32, 115, 99, 97, 108, 101, 100, 32, 120, 115, 99, 97, 108, 101, 100, 32, 121, 115, 99, 97, 108, 101, 100, 32, 115, 104, 105, 102, 116, 101, 100, 32, 114, 111, 116, 97, 116, 101, 100, 32, 115, 108, 97, 110, 116, 101, 100, 32, 116, 114, 97, 110, 115, 102, 111, 114, 109, 101, 100, 32, 100, 111, 116, 112, 114, 111, 100, 32, 111, 114, 32, 109, 111, 100, 32, 112, 105, 99, 107, 117, 112, 32, 102, 105, 108, 108, 32, 101, 118, 101, 110, 102, 105, 108, 108, 32, 100, 114, 97, 119, 32, 119, 105, 116, 104, 105, 110, 107, 32, 97, 108, 115, 111, 32, 99, 108, 105, 112, 32, 101, 118, 101, 110, 99, 108, 105, 112, 32, 117, 110, 99, 108, 105, 112, 32, 98, 101, 103, 105, 110, 99, 104, 97, 114, 32, 101, 110, 100, 99, 104, 97, 114, 32, 108, 105, 103, 116, 97, 98, 108, 101, 32, 107, 101, 114, 110, 32, 109, 101, 115, 115, 97, 103, 101, 32, 115, 104, 111, 119]
/-- The signs, with blanks between. -/
def sgT : List UInt8 := [58, 61, 32, 61, 58, 124, 32, 61, 58, 32, 124, 61, 58, 124, 32, 124, 61, 58, 32, 46, 46, 32, 45, 45, 32, 43, 43, 32, 43, 45, 43, 32, 42, 42, 32, 60, 61, 32, 62, 61, 32, 60, 62, 32, 61, 32, 58, 32, 59, 32, 44, 32, 40, 32, 41, 32, 91, 32, 93, 32, 123, 32, 125, 32, 43, 32, 45, 32, 42, 32, 47, 32, 60, 32, 62, 32, 38, 32, 46]
theorem wdT_len : wdT.length = 580 := by decide +kernel
theorem sgT_len : sgT.length = 79 := by decide +kernel
theorem wdT_mem (x : List UInt8) : x ∈ pg [] wdT ↔ x ∈ wds := by
  have h1 : ((pg [] wdT).all fun x => wds.contains x) = true := by decide +kernel
  have h2 : (wds.all fun x => (pg [] wdT).contains x) = true := by decide +kernel
  exact ⟨fun h => by simpa using List.all_eq_true.1 h1 x h, fun h => by simpa using List.all_eq_true.1 h2 x h⟩
theorem sgT_mem (x : List UInt8) : x ∈ pg [] sgT ↔ x ∈ sgs := by
  have h1 : ((pg [] sgT).all fun x => sgs.contains x) = true := by decide +kernel
  have h2 : (sgs.all fun x => (pg [] sgT).contains x) = true := by decide +kernel
  exact ⟨fun h => by simpa using List.all_eq_true.1 h1 x h, fun h => by simpa using List.all_eq_true.1 h2 x h⟩
end Lx

set_option maxRecDepth 100000 in
set_option maxHeartbeats 4000000 in
theorem rword_any (x : ByteArray) (w : World) : Calls Tryz.prog 21 #[.string x] w fun e w' => e = .returned (.bool (decide (x.data.toList ∈ Lx.wds))) ∧ Below w.heap.size w w' := by
  have HA := Lib.hid (ramong_any x Lx.wdT w (by rw [Lx.wdT_len]; decide))
  obtain ⟨r, hr⟩ : ∃ r, r = decide (x.data.toList ∈ Lx.wds) := ⟨_, rfl⟩
  have e : decide (x.data.toList ∈ Lx.pg [] Lx.wdT) = r := by rw [hr, decide_eq_decide]; exact Lx.wdT_mem _
  rw [e] at HA
  rw [← hr]
  clear e hr
  go_enter Tryz.func21, Tryz.ntmps21
  go_wp2_with fail
  refine HA.out.mono ?_; rintro e w' ⟨rfl, hb⟩
  go_wp2_with fail
  go_ret
  exact ⟨rfl, hb⟩

set_option maxRecDepth 100000 in
set_option maxHeartbeats 4000000 in
theorem rsign_any (x : ByteArray) (w : World) : Calls Tryz.prog 75 #[.string x] w fun e w' => e = .returned (.bool (decide (x.data.toList ∈ Lx.sgs))) ∧ Below w.heap.size w w' := by
  have HA := Lib.hid (ramong_any x Lx.sgT w (by rw [Lx.sgT_len]; decide))
  obtain ⟨r, hr⟩ : ∃ r, r = decide (x.data.toList ∈ Lx.sgs) := ⟨_, rfl⟩
  have e : decide (x.data.toList ∈ Lx.pg [] Lx.sgT) = r := by rw [hr, decide_eq_decide]; exact Lx.sgT_mem _
  rw [e] at HA
  rw [← hr]
  clear e hr
  go_enter Tryz.func75, Tryz.ntmps75
  go_wp2_with fail
  refine HA.out.mono ?_; rintro e w' ⟨rfl, hb⟩
  go_wp2_with fail
  go_ret
  exact ⟨rfl, hb⟩
end Go.Proofs.YtmfbnlaohlnljaaGreatDoor
