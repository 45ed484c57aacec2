/-
  Contracts of the reference of layer 3: words and signs.
  Contracts of the reference of layer 3: bytes, names, texts.
  Contracts of the reference of layer 3: runs of letters and of digits, numbers, signs, first bytes.
-/
import Derived.Test.YtnhcjgnohnedaaaGreatDoorLxY
import Derived.BigRegion
import Derived.Test.YtnhcjgnohnedaaaGreatDoorShelfS
namespace Go.Proofs.YtnhcjgnohnedaaaGreatDoor
open Go.RowKit

namespace Lx
/-- The words, with blanks between. -/
def wdT : List UInt8 := [100, 101, 102, 32, 101, 110, 100, 100, 101, 102, 32, 108, 101, 116, 32, 98, 101, 103, 105, 110, 103, 114, 111, 117, 112, 32, 101, 110, 100, 103, 114, 111, 117, 112, 32, 115, 97, 118, 101, 32, 105, 102, 32, 101, 108, 115, 101, 105, 102, 32, 101, 108, 115, 101, 32, 102, 105, 32, 102, 111, 114, 32, 115, 116, 101, 112, 32, 117, 110, 116, 105, 108, 32, 101, 110, 100, 102, 111, 114, 32, 102, 111, 114, 101, 118, 101, 114, 32, 101, 120, 105, 116, 105, 102, 32, 110, 117, 109, 101, 114, 105, 99, 32, 112, 97, 105, 114, 32, 98, 111, 111, 108, 101, 97, 110, 32, 115, 116, 114, 105, 110, 103, 32, 116, 114, 97, 110, 115, 102, 111, 114, 109, 32, 112, 97, 116, 104, 32, 112, 101, 110, 32, 99, 121, 99, 108, 101, 32, 99, 111, 110, 116, 114, 111, 108, 115, 32, 97, 110, 100, 32, 116, 101, 110, 115, 105, 111, 110, 32, 99, 117, 114, 108, 32, 116, 114, 117, 101, 32, 102, 97, 108, 115, 101, 32, 105, 100, 101, 110, 116, 105, 116, 121, 32, 112, 101, 110, 99, 105, 114, 99, 108, 101, 32, 112, 101, 110, 115, 113, 117, 97, 114, 101, 32, 110, 111, 116, 32, 107, 110, 111, 119, 110, 32, 117, 110, 107, 110, 111, 119, 110, 32, 111, 100, 100, 32, 102, 108, 111, 111, 114, 32, 97, 98, 115, 32, 115, 113, 114, 116, 32, 115, 105, 110, 100, 32, 99, 111, 115, 100, 32, 97, 110, 103, 108, 101, 32, 100, 105, 114, 32, 108, 101, 110, 103, 116, 104, 32, 120, 112, 97, 114, 116, 32, 121, 112, 97, 114, 116, 32, 120, 120, 112, 97, 114, 116, 32, 120, 121, 112, 97, 114, 116, 32, 121, 120, 112, 97, 114, 116, 32, 121, 121, 112, 97, 114, 116, 32, 105, 110, 118, 101, 114, 115, 101, 32, 100, 101, 99, 105, 109, 97, 108, 32, 99, 104, 97, 114, 32, 99, 111, 100, 101, 32, 114, 101, 118, 101, 114, 115, 101, 32, 112, 111, 105, 110, 116, 32, 111, 102, 32, 100, 105, 114, 101, 99, 116, 105, 111, 110, 32, 115, 117, 98, 112, 97, 116, 104, 32, 112, 114, 101, 99, 111, 110, 116, 114, 111, 108, 32, 112, 111, 115, 116, 99, 111, 110, 116, 114, 111, 108, 32, 115, 99, 97, 108, 101, 100, 32, 120, 115, 99, 97, 108, 101, 100, 32, 121, 115, 99, 97, 108, 101, 100, 32, 115, 104, 105, 102, 116, 101, 100, 32, 114, 111, 116, 97, 116, 101, 100, 32, 115, 108, 97, 110, 116, 101, 100, 32, 116, 114, 97, 110, 115, 102, 111, 114, 109, 101, 100, 32, 100, 111, 116, 112, 114, 111, 100, 32, 111, 114, 32, 109, 111, 100, 32, 112, 105, 99, 107, 117, 112, 32, 102, 105, 108, 108, 32, 101, 118, 101, 110, 102, 105, 108, 108, 32, 100, 114, 97, 119, 32, 119, 105, 116, 104, 105, 110, 107, 32, 97, 108, 115, 111, 32, 99, 108, 105, 112, 32, 101, 118, 101, 110, 99, 108, 105, 112, 32, 117, 110, 99, 108, 105, 112, 32, 98, 101, 103, 105, 110, 99, 104, 97, 114, 32, 101, 110, 100, 99, 104, 97, 114, 32, 108, 105, 103, 116, 97, 98, 108, 101, 32, 107, 101, 114, 110, 32, 109, 101, 115, 115, 97, 103, 101, 32, 115, 104, 111, 119]
/-- The signs, with blanks between. -/
def sgT : List UInt8 := [58, 61, 32, 61, 58, 124, 32, 61, 58, 32, 124, 61, 58, 124, 32, 124, 61, 58, 32, 46, 46, 32, 45, 45, 32, 43, 43, 32, 43, 45, 43, 32, 42, 42, 32, 60, 61, 32, 62, 61, 32, 60, 62, 32, 61, 32, 58, 32, 59, 32, 44, 32, 40, 32, 41, 32, 91, 32, 93, 32, 123, 32, 125, 32, 43, 32, 45, 32, 42, 32, 47, 32, 60, 32, 62, 32, 38, 32, 46]
theorem wdT_len : wdT.length = 580 := by decide +kernel
theorem sgT_len : sgT.length = 79 := by decide +kernel
theorem wdT_mem (x : List UInt8) : x ∈ pg [] wdT ↔ x ∈ wds := by
  have h1 : ((pg [] wdT).all fun x => wds.contains x) = true := by decide +kernel
  have h2 : (wds.all fun x => (pg [] wdT).contains x) = true := by decide +kernel
  exact ⟨fun h => by simpa using List.all_eq_true.1 h1 x h, fun h => by simpa using List.all_eq_true.1 h2 x h⟩
theorem sgT_mem (x : List UInt8) : x ∈ pg [] sgT ↔ x ∈ sgs := by
  have h1 : ((pg [] sgT).all fun x => sgs.contains x) = true := by decide +kernel
  have h2 : (sgs.all fun x => (pg [] sgT).contains x) = true := by decide +kernel
  exact ⟨fun h => by simpa using List.all_eq_true.1 h1 x h, fun h => by simpa using List.all_eq_true.1 h2 x h⟩
end Lx

set_option maxRecDepth 100000 in
set_option maxHeartbeats 4000000 in
theorem rword_any (x : ByteArray) (w : World) : Calls Tryz.prog 18 #[.string x] w fun e w' => e = .returned (.bool (decide (x.data.toList ∈ Lx.wds))) ∧ Below w.heap.size w w' := by
  have HA := Lib.hid (ramong_any x Lx.wdT w (by rw [Lx.wdT_len]; decide))
  obtain ⟨r, hr⟩ : ∃ r, r = decide (x.data.toList ∈ Lx.wds) := ⟨_, rfl⟩
  have e : decide (x.data.toList ∈ Lx.pg [] Lx.wdT) = r := by rw [hr, decide_eq_decide]; exact Lx.wdT_mem _
  rw [e] at HA
  rw [← hr]
  clear e hr
  go_enter Tryz.func18, Tryz.ntmps18
  go_wp2_with fail
  refine HA.out.mono ?_; rintro e w' ⟨rfl, hb⟩
  go_wp2_with fail
  go_ret
  exact ⟨rfl, hb⟩

set_option maxRecDepth 100000 in
set_option maxHeartbeats 4000000 in
theorem rsign_any (x : ByteArray) (w : World) : Calls Tryz.prog 48 #[.string x] w fun e w' => e = .returned (.bool (decide (x.data.toList ∈ Lx.sgs))) ∧ Below w.heap.size w w' := by
  have HA := Lib.hid (ramong_any x Lx.sgT w (by rw [Lx.sgT_len]; decide))
  obtain ⟨r, hr⟩ : ∃ r, r = decide (x.data.toList ∈ Lx.sgs) := ⟨_, rfl⟩
  have e : decide (x.data.toList ∈ Lx.pg [] Lx.sgT) = r := by rw [hr, decide_eq_decide]; exact Lx.sgT_mem _
  rw [e] at HA
  rw [← hr]
  clear e hr
  go_enter Tryz.func48, Tryz.ntmps48
  go_wp2_with fail
  refine HA.out.mono ?_; rintro e w' ⟨rfl, hb⟩
  go_wp2_with fail
  go_ret
  exact ⟨rfl, hb⟩
end Go.Proofs.YtnhcjgnohnedaaaGreatDoor

namespace Go.Proofs.YtnhcjgnohnedaaaGreatDoor
open Go.RowKit

set_option maxHeartbeats 1000000 in
theorem rletter_any (c : UInt8) (w : World) : Calls Tryz.prog 44 #[.int .u8 (c.toNat : Int)] w fun e w' => e = .returned (.bool (Lx.letter c)) ∧ w = w' := by
  have hc := c.toNat_lt
  obtain ⟨b, hb⟩ : ∃ b, b = Lx.letter c := ⟨_, rfl⟩
  rw [← hb]
  rw [letter_eq] at hb
  generalize c.toNat = n at hc hb
  by_cases h95 : n = 95
  · obtain rfl : b = true := by rw [hb]; simp; omega
    clear hb
    subst h95
    go_enter Tryz.func44, Tryz.ntmps44
    go_wp2
    go_ret
    first | exact ⟨rfl, rfl⟩ | exact ⟨by simp; omega, rfl⟩
  have e95 : ((n : Int) == 95) = false := u8_ne (by omega)
  rcases (show (n < 65) ∨ (65 ≤ n ∧ n ≤ 90) ∨ (91 ≤ n ∧ n < 97) ∨ (97 ≤ n ∧ n ≤ 122) ∨ (122 < n) by omega) with k1 | ⟨k1, k2⟩ | ⟨k1, k2⟩ | ⟨k1, k2⟩ | k1
  · obtain rfl : b = false := by rw [hb]; simp; omega
    clear hb
    go_enter Tryz.func44, Tryz.ntmps44
    go_wp2
    go_ret
    first | exact ⟨rfl, rfl⟩ | exact ⟨by simp; omega, rfl⟩
  · obtain rfl : b = true := by rw [hb]; simp; omega
    clear hb
    go_enter Tryz.func44, Tryz.ntmps44
    go_wp2
    go_ret
    first | exact ⟨rfl, rfl⟩ | exact ⟨by simp; omega, rfl⟩
  · obtain rfl : b = false := by rw [hb]; simp; omega
    clear hb
    go_enter Tryz.func44, Tryz.ntmps44
    go_wp2
    go_ret
    first | exact ⟨rfl, rfl⟩ | exact ⟨by simp; omega, rfl⟩
  · obtain rfl : b = true := by rw [hb]; simp; omega
    clear hb
    go_enter Tryz.func44, Tryz.ntmps44
    go_wp2
    go_ret
    first | exact ⟨rfl, rfl⟩ | exact ⟨by simp; omega, rfl⟩
  · obtain rfl : b = false := by rw [hb]; simp; omega
    clear hb
    go_enter Tryz.func44, Tryz.ntmps44
    go_wp2
    go_ret
    first | exact ⟨rfl, rfl⟩ | exact ⟨by simp; omega, rfl⟩
theorem all_step (p : UInt8 → Bool) (l : List UInt8) (k : Nat) (hk : k < l.length) (h : p (l.getD k 0) = false) : Lx.allB p l = false := by
  cases ha : Lx.allB p l
  · rfl
  · have := (Lx.allB_iff p l).1 ha (l.getD k 0) (by simp [List.getD, List.getElem?_eq_getElem hk])
    rw [h] at this; cases this
theorem all_done (p : UInt8 → Bool) (l : List UInt8) (h : ∀ i, i < l.length → p (l.getD i 0) = true) : Lx.allB p l = true := by
  rw [Lx.allB_iff]
  intro c hc
  obtain ⟨i, hi, rfl⟩ := List.getElem_of_mem hc
  have := h i hi
  simpa [List.getD, List.getElem?_eq_getElem hi] using this
theorem all_next (p : UInt8 → Bool) (l : List UInt8) (k : Nat) (h : ∀ i, i < k → p (l.getD i 0) = true) (hk : p (l.getD k 0) = true) : ∀ i, i < k + 1 → p (l.getD i 0) = true := fun i hi => by
  by_cases e : i = k
  · rw [e]; exact hk
  · exact h i (by omega)
/-- Is it a name? -/
def Lx.nameB (l : List UInt8) : Bool := !l.isEmpty && (decide (l.length ≤ 40) && Lx.allB Lx.letter l)

set_option maxHeartbeats 2000000 in
theorem rname_any (s : ByteArray) (w : World) (hs : s.size ≤ maxLen) : Calls Tryz.prog 29 #[.string s] w fun e w' => e = .returned (.bool (Lx.nameB s.data.toList)) ∧ w = w' := by
  unfold maxLen at hs
  obtain ⟨l, hl⟩ : ∃ l, l = s.data.toList := ⟨_, rfl⟩
  have HB : Hid (∀ k (h : k < s.size), s[k] = l.getD k 0) := fun k h => by rw [hl]; exact ba_get s k h
  have HN : Hid (l.length = s.size) := by rw [hl]; exact Lib.size_eq s ▸ rfl
  rw [← hl]; clear hl
  obtain ⟨r, hr⟩ : ∃ r, r = Lx.nameB l := ⟨_, rfl⟩
  rw [← hr]
  have HR := Lib.hid hr; clear hr
  go_enter Tryz.func29, Tryz.ntmps29
  go_wp2_with fail
  go_loop [3] (fun vi => ∃ k : Nat, vi = .int .i64 k ∧ k ≤ s.size ∧ Hid (∀ i, i < k → Lx.letter (l.getD i 0) = true)) (fun vi => s.size - (intOf vi).toNat)
  case atStart => exact ⟨0, rfl, by omega, fun i h => by omega⟩
  case round =>
    obtain ⟨k, rfl, hk, hall⟩ := hrel
    by_cases hlt : k < s.size
    · have HS := Lib.hid (HB.out k hlt)
      cases hp : Lx.letter s[k]
      · have HF : Hid (r = false) := by
          rw [HS.out] at hp
          exact HR.out.trans (by rw [Lx.nameB, all_step Lx.letter l k (by rw [HN.out]; exact hlt) hp]; simp)
        go_wp2_with (go_at_call 44; refine (rletter_any _ _).mono ?_; rintro e w' ⟨rfl, rfl⟩)
        go_ret
        exact ⟨ret_bool HF.out.symm, rfl⟩
      · have HX : Hid (∀ i, i < k + 1 → Lx.letter (l.getD i 0) = true) := by
          rw [HS.out] at hp
          exact all_next _ l k hall.out hp
        go_wp2_with (go_at_call 44; refine (rletter_any _ _).mono ?_; rintro e w' ⟨rfl, rfl⟩)
        go_round
        case rel => exact ⟨k + 1, by go_num, by omega, HX.out⟩
        case measure => simp [intOf]; omega
    · have hA : Lx.allB Lx.letter l = true := all_done _ l fun i hi => hall.out i (by have := HN.out; omega)
      have HE : Hid (r = (decide (1 ≤ s.size) && decide (s.size ≤ 40))) := by
        rw [HR.out, Lx.nameB, hA, Bool.and_true, HN.out]
        congr 1
        rw [Bool.eq_iff_iff]
        simp only [Bool.not_eq_true', List.isEmpty_eq_false_iff, decide_eq_true_eq, ← HN.out]
        exact ⟨fun h => List.length_pos_iff.2 h, fun h => List.length_pos_iff.1 h⟩
      clear hA
      by_cases h1 : 1 ≤ s.size
      · by_cases h2 : s.size ≤ 40
        · go_wp2
          go_ret
          exact ⟨ret_bool (by rw [HE.out, decide_eq_true h1, decide_eq_true h2]; simp; omega), rfl⟩
        · go_wp2
          go_ret
          exact ⟨ret_bool (by rw [HE.out, decide_eq_false h2]; simp; omega), rfl⟩
      · go_wp2
        go_ret
        exact ⟨ret_bool (by rw [HE.out, decide_eq_false h1]; rfl), rfl⟩

set_option maxHeartbeats 2000000 in
theorem rplain_any (s : ByteArray) (w : World) (hs : s.size ≤ maxLen) : Calls Tryz.prog 47 #[.string s] w fun e w' => e = .returned (.bool (Lx.allB Lx.quot s.data.toList)) ∧ w = w' := by
  unfold maxLen at hs
  obtain ⟨l, hl⟩ : ∃ l, l = s.data.toList := ⟨_, rfl⟩
  have HB : Hid (∀ k (h : k < s.size), s[k] = l.getD k 0) := fun k h => by rw [hl]; exact ba_get s k h
  have HN : Hid (l.length = s.size) := by rw [hl]; exact Lib.size_eq s ▸ rfl
  rw [← hl]; clear hl
  obtain ⟨r, hr⟩ : ∃ r, r = Lx.allB Lx.quot l := ⟨_, rfl⟩
  rw [← hr]
  have HR := Lib.hid hr; clear hr
  go_enter Tryz.func47, Tryz.ntmps47
  go_wp2_with fail
  go_loop [3] (fun vi => ∃ k : Nat, vi = .int .i64 k ∧ k ≤ s.size ∧ Hid (∀ i, i < k → Lx.quot (l.getD i 0) = true)) (fun vi => s.size - (intOf vi).toNat)
  case atStart => exact ⟨0, rfl, by omega, fun i h => by omega⟩
  case round =>
    obtain ⟨k, rfl, hk, hall⟩ := hrel
    by_cases hlt : k < s.size
    · have HS := Lib.hid (HB.out k hlt)
      have HQ := Lib.hid (quot_eq s[k])
      have HF : Hid (Lx.quot s[k] = false → r = false) := fun hp => by
        rw [HS.out] at hp
        exact HR.out.trans (all_step Lx.quot l k (by rw [HN.out]; exact hlt) hp)
      have HX : Hid (Lx.quot s[k] = true → ∀ i, i < k + 1 → Lx.quot (l.getD i 0) = true) := fun hp => by
        rw [HS.out] at hp
        exact all_next _ l k hall.out hp
      by_cases h1 : s[k].toNat < 32
      · go_wp2_with fail
        go_ret
        exact ⟨ret_bool (HF.out (by rw [HQ.out]; exact decide_eq_false (by omega))).symm, rfl⟩
      by_cases h2 : 126 < s[k].toNat
      · go_wp2_with fail
        go_ret
        exact ⟨ret_bool (HF.out (by rw [HQ.out]; exact decide_eq_false (by omega))).symm, rfl⟩
      by_cases h3 : s[k].toNat = 34
      · have e3 : ((s[k].toNat : Int) == 34) = true := by simp; omega
        go_wp2_with fail
        go_ret
        exact ⟨ret_bool (HF.out (by rw [HQ.out]; exact decide_eq_false (by omega))).symm, rfl⟩
      · have e3 : ((s[k].toNat : Int) == 34) = false := u8_ne (by omega)
        have HY := Lib.hid (HX.out (by rw [HQ.out]; exact decide_eq_true (by omega)))
        go_wp2_with fail
        go_round
        case rel => exact ⟨k + 1, by go_num, by omega, HY.out⟩
        case measure => simp [intOf]; omega
    · have hA : Hid (r = true) := HR.out.trans (all_done _ l fun i hi => hall.out i (by have := HN.out; omega))
      go_wp2_with fail
      go_ret
      exact ⟨ret_bool hA.out.symm, rfl⟩
end Go.Proofs.YtnhcjgnohnedaaaGreatDoor

namespace Go.Proofs.YtnhcjgnohnedaaaGreatDoor
open Go.RowKit

set_option maxHeartbeats 1000000 in
theorem rdigit_any (c : UInt8) (w : World) : Calls Tryz.prog 139 #[.int .u8 (c.toNat : Int)] w fun e w' => e = .returned (.bool (Lx.digit c)) ∧ w = w' := by
  have hc := c.toNat_lt
  obtain ⟨b, hb⟩ : ∃ b, b = Lx.digit c := ⟨_, rfl⟩
  rw [← hb]
  rw [digit_eq] at hb
  generalize c.toNat = n at hc hb
  rcases (show (n < 48) ∨ (48 ≤ n ∧ n ≤ 57) ∨ (57 < n) by omega) with k1 | ⟨k1, k2⟩ | k1
  · obtain rfl : b = false := by rw [hb]; simp; omega
    clear hb
    go_enter Tryz.func139, Tryz.ntmps139
    go_wp2
    go_ret
    first | exact ⟨rfl, rfl⟩ | exact ⟨by simp; omega, rfl⟩
  · obtain rfl : b = true := by rw [hb]; simp; omega
    clear hb
    go_enter Tryz.func139, Tryz.ntmps139
    go_wp2
    go_ret
    first | exact ⟨rfl, rfl⟩ | exact ⟨by simp; omega, rfl⟩
  · obtain rfl : b = false := by rw [hb]; simp; omega
    clear hb
    go_enter Tryz.func139, Tryz.ntmps139
    go_wp2
    go_ret
    first | exact ⟨rfl, rfl⟩ | exact ⟨by simp; omega, rfl⟩

set_option maxHeartbeats 2000000 in
theorem rletters_any (s : ByteArray) (w : World) (hs : s.size ≤ maxLen) :
    Calls Tryz.prog 83 #[.string s] w fun e w' => e = .returned (.int .i64 (Lx.runN Lx.letter s.data.toList : Nat)) ∧ w = w' := by
  unfold maxLen at hs
  obtain ⟨l, hl⟩ : ∃ l, l = s.data.toList := ⟨_, rfl⟩
  have HL : Hid (∀ k (h : k < s.size), s[k] = l.getD k 0) := fun k h => by rw [hl]; exact ba_get s k h
  have HN : Hid (l.length = s.size) := by rw [hl]; exact Lib.size_eq s ▸ rfl
  rw [← hl]; clear hl
  obtain ⟨r, hr⟩ : ∃ r, r = Lx.runN Lx.letter l := ⟨_, rfl⟩
  rw [← hr]
  have HR := Lib.hid hr; clear hr
  go_enter Tryz.func83, Tryz.ntmps83
  go_wp2_with fail
  go_loop [3] (fun vi => ∃ k : Nat, vi = .int .i64 k ∧ k ≤ s.size ∧ Hid (∀ i, i < k → Lx.letter (l.getD i 0) = true)) (fun vi => s.size - (intOf vi).toNat)
  case atStart => exact ⟨0, rfl, by omega, fun i h => by omega⟩
  case round =>
    obtain ⟨k, rfl, hk, hall⟩ := hrel
    by_cases hlt : k < s.size
    · have HS := Lib.hid (run_step Lx.letter l k _ (by rw [HN.out]; exact hlt) (HL.out k hlt) hall.out)
      cases hp : Lx.letter s[k]
      · go_wp2_with (go_at_call 44; refine (rletter_any _ _).mono ?_; rintro e w' ⟨rfl, rfl⟩)
        go_ret
        exact ⟨ret_int (by rw [HR.out, HS.out.2 hp]), rfl⟩
      · go_wp2_with (go_at_call 44; refine (rletter_any _ _).mono ?_; rintro e w' ⟨rfl, rfl⟩)
        go_round
        case rel => exact ⟨k + 1, by go_num, by omega, HS.out.1 hp⟩
        case measure => simp [intOf]; omega
    · have HE : Hid (r = s.size) := by rw [HR.out]; exact Lx.runN_eq _ l s.size (by rw [HN.out]; omega) (fun i hi => hall.out i (by omega)) (Or.inl HN.out.symm)
      go_wp2_with fail
      go_ret
      exact ⟨ret_int (by rw [HE.out]; omega), rfl⟩

set_option maxHeartbeats 2000000 in
theorem rrun_digits (s : ByteArray) (w : World) (hs : s.size ≤ maxLen) :
    Calls Tryz.prog 118 #[.string s] w fun e w' => e = .returned (.int .i64 (Lx.runN Lx.digit s.data.toList : Nat)) ∧ w = w' := by
  unfold maxLen at hs
  obtain ⟨l, hl⟩ : ∃ l, l = s.data.toList := ⟨_, rfl⟩
  have HL : Hid (∀ k (h : k < s.size), s[k] = l.getD k 0) := fun k h => by rw [hl]; exact ba_get s k h
  have HN : Hid (l.length = s.size) := by rw [hl]; exact Lib.size_eq s ▸ rfl
  rw [← hl]; clear hl
  obtain ⟨r, hr⟩ : ∃ r, r = Lx.runN Lx.digit l := ⟨_, rfl⟩
  rw [← hr]
  have HR := Lib.hid hr; clear hr
  go_enter Tryz.func118, Tryz.ntmps118
  go_wp2_with fail
  go_loop [3] (fun vi => ∃ k : Nat, vi = .int .i64 k ∧ k ≤ s.size ∧ Hid (∀ i, i < k → Lx.digit (l.getD i 0) = true)) (fun vi => s.size - (intOf vi).toNat)
  case atStart => exact ⟨0, rfl, by omega, fun i h => by omega⟩
  case round =>
    obtain ⟨k, rfl, hk, hall⟩ := hrel
    by_cases hlt : k < s.size
    · have HS := Lib.hid (run_step Lx.digit l k _ (by rw [HN.out]; exact hlt) (HL.out k hlt) hall.out)
      cases hp : Lx.digit s[k]
      · go_wp2_with (go_at_call 139; refine (rdigit_any _ _).mono ?_; rintro e w' ⟨rfl, rfl⟩)
        go_ret
        exact ⟨ret_int (by rw [HR.out, HS.out.2 hp]), rfl⟩
      · go_wp2_with (go_at_call 139; refine (rdigit_any _ _).mono ?_; rintro e w' ⟨rfl, rfl⟩)
        go_round
        case rel => exact ⟨k + 1, by go_num, by omega, HS.out.1 hp⟩
        case measure => simp [intOf]; omega
    · have HE : Hid (r = s.size) := by rw [HR.out]; exact Lx.runN_eq _ l s.size (by rw [HN.out]; omega) (fun i hi => hall.out i (by omega)) (Or.inl HN.out.symm)
      go_wp2_with fail
      go_ret
      exact ⟨ret_int (by rw [HE.out]; omega), rfl⟩

set_option maxHeartbeats 1000000 in
theorem rfirst_any (s : ByteArray) (w : World) (hs : s.size ≤ maxLen) :
    Calls Tryz.prog 84 #[.string s] w fun e w' => e = .returned (.string (s.extract 0 (min s.size 40))) ∧ w = w' := by
  unfold maxLen at hs
  by_cases h : s.size ≤ 40
  · have e : min s.size 40 = s.size := by omega
    have e2 : min (s.size : Int) 40 = s.size := by omega
    rw [e]
    go_enter Tryz.func84, Tryz.ntmps84
    go_wp2_with fail
    go_ret
    exact ⟨by simp, rfl⟩
  · have e : min s.size 40 = 40 := by omega
    have e2 : min (s.size : Int) 40 = 40 := by omega
    rw [e]
    go_enter Tryz.func84, Tryz.ntmps84
    go_wp2_with fail
    go_ret
    exact ⟨rfl, rfl⟩

/-- A number's digits ahead of its point and behind it, and is there one. -/
def Lx.numParts (l : List UInt8) : Nat × Nat × Bool :=
  if l.getD (Lx.runN Lx.digit l) 0 = 46 ∧ 0 < Lx.runN Lx.digit (l.drop (Lx.runN Lx.digit l + 1)) then (Lx.runN Lx.digit l, Lx.runN Lx.digit (l.drop (Lx.runN Lx.digit l + 1)), true)
  else (Lx.runN Lx.digit l, 0, decide (0 < Lx.runN Lx.digit l))
set_option maxHeartbeats 2000000 in
theorem rnumber_any (s : ByteArray) (w : World) (hs : s.size ≤ maxLen) :
    Calls Tryz.prog 85 #[.string s] w fun e w' => e = .returned (.tuple #[.int .i64 ((Lx.numParts s.data.toList).1 : Nat), .int .i64 ((Lx.numParts s.data.toList).2.1 : Nat), .bool (Lx.numParts s.data.toList).2.2]) ∧ w = w' := by
  have HD := Lib.hid (fun W => rrun_digits s W hs)
  obtain ⟨l, hl⟩ : ∃ l, l = s.data.toList := ⟨_, rfl⟩
  have hn : l.length = s.size := by rw [hl]; exact Lib.size_eq s ▸ rfl
  have hle := Lx.runN_le Lx.digit l
  rw [← hl] at HD ⊢
  unfold maxLen at hs
  obtain ⟨f, hf⟩ : ∃ f, f = Lx.runN Lx.digit l := ⟨_, rfl⟩
  have HE2 : Hid (f < s.size → ∀ W, Calls Tryz.prog 118 #[.string (s.extract (f + 1) s.size)] W fun e w' => e = .returned (.int .i64 (Lx.runN Lx.digit (l.drop (f + 1)) : Nat)) ∧ W = w') := fun h W => by
    have e : s.extract (f + 1) s.size = ⟨(l.drop (f + 1)).toArray⟩ := by
      conv => lhs; rw [ba_list' s]
      rw [← hl, show (⟨l.toArray⟩ : ByteArray).size = l.length from rfl, ext_tail]
    have := rrun_digits (s.extract (f + 1) s.size) W (by rw [e]; show (l.drop (f + 1)).length ≤ maxLen; rw [List.length_drop]; unfold maxLen; omega)
    rw [e] at this ⊢
    exact this
  have HB : Hid (∀ k (h : k < s.size), s[k] = l.getD k 0) := fun k h => by rw [hl]; exact ba_get s k h
  unfold Lx.numParts
  rw [← hf] at HD hle ⊢
  obtain ⟨b, hb⟩ : ∃ b, b = Lx.runN Lx.digit (l.drop (f + 1)) := ⟨_, rfl⟩
  rw [← hb] at HE2 ⊢
  have hbl : b ≤ s.size := by rw [hb]; have := Lx.runN_le Lx.digit (l.drop (f + 1)); rw [List.length_drop] at this; omega
  clear hf hb
  by_cases h1 : f < s.size
  · have hcb := HB.out f h1
    by_cases h2 : l.getD f 0 = 46
    · have hc : ((s[f].toNat : Int) == 46) = true := by rw [hcb, h2]; rfl
      by_cases h3 : 0 < b
      · rw [if_pos ⟨h2, h3⟩]
        have HE3 := Lib.hid (HE2.out h1)
        clear h2 hcb hl
        go_enter Tryz.func85, Tryz.ntmps85
        go_wp2_with fail
        refine (HD.out _).mono ?_; rintro e w' ⟨rfl, rfl⟩
        go_wp2_with fail
        refine (HE3.out _).mono ?_; rintro e w' ⟨rfl, rfl⟩
        go_wp2_with fail
        exact bodyPost_ret (v := .tuple #[.int .i64 (f : Nat), .int .i64 (b : Nat), .bool true]) (by simp [results, Tryz.results85, go_sem]) rfl ⟨rfl, rfl⟩
      · rw [if_neg (fun h => h3 h.2)]
        have hb0 : b = 0 := by omega
        have HE3 := Lib.hid (HE2.out h1)
        subst hb0
        clear h2 hcb hl h3
        go_enter Tryz.func85, Tryz.ntmps85
        go_wp2_with fail
        refine (HD.out _).mono ?_; rintro e w' ⟨rfl, rfl⟩
        go_wp2_with fail
        refine (HE3.out _).mono ?_; rintro e w' ⟨rfl, rfl⟩
        go_wp2_with fail
        exact bodyPost_ret (v := .tuple #[.int .i64 (f : Nat), .int .i64 ((0 : Nat) : Int), .bool (decide (0 < f))]) (by simp [results, Tryz.results85, go_sem]) rfl ⟨rfl, rfl⟩
    · have hc : ((s[f].toNat : Int) == 46) = false := by
        have hn46 : (l.getD f 0).toNat ≠ 46 := fun e => h2 (UInt8.toNat_inj.1 e)
        rw [hcb]; exact u8_ne (by omega)
      rw [if_neg (fun h => h2 h.1)]
      clear h2 hcb hl HE2
      go_enter Tryz.func85, Tryz.ntmps85
      go_wp2_with fail
      refine (HD.out _).mono ?_; rintro e w' ⟨rfl, rfl⟩
      go_wp2_with fail
      exact bodyPost_ret (v := .tuple #[.int .i64 (f : Nat), .int .i64 ((0 : Nat) : Int), .bool (decide (0 < f))]) (by simp [results, Tryz.results85, go_sem]) rfl ⟨rfl, rfl⟩
  · have h2 : ¬ (l.getD f 0 = 46 ∧ 0 < b) := fun h => by
      have : l.getD f 0 = 0 := by simp [List.getD, List.getElem?_eq_none (show l.length ≤ f by omega)]
      rw [this] at h; exact absurd h.1 (by decide)
    rw [if_neg h2]
    clear h2 hl HE2
    go_enter Tryz.func85, Tryz.ntmps85
    go_wp2_with fail
    refine (HD.out _).mono ?_; rintro e w' ⟨rfl, rfl⟩
    go_wp2_with fail
    exact bodyPost_ret (v := .tuple #[.int .i64 (f : Nat), .int .i64 ((0 : Nat) : Int), .bool (decide (0 < f))]) (by simp [results, Tryz.results85, go_sem]) rfl ⟨rfl, rfl⟩
end Go.Proofs.YtnhcjgnohnedaaaGreatDoor
