/-
  Contracts of the reference of layer 3: bytes, names, texts.
-/
import Derived.Test.YtmfbnlaohlnljaaGreatDoorLxZ
namespace Go.Proofs.YtmfbnlaohlnljaaGreatDoor
open Go.RowKit

set_option maxHeartbeats 1000000 in
theorem rletter_any (c : UInt8) (w : World) : Calls Tryz.prog 72 #[.int .u8 (c.toNat : Int)] w fun e w' => e = .returned (.bool (Lx.letter c)) ∧ w = w' := by
  have hc := c.toNat_lt
  obtain ⟨b, hb⟩ : ∃ b, b = Lx.letter c := ⟨_, rfl⟩
  rw [← hb]
  rw [letter_eq] at hb
  generalize c.toNat = n at hc hb
  by_cases h95 : n = 95
  · obtain rfl : b = true := by rw [hb]; simp; omega
    clear hb
    subst h95
    go_enter Tryz.func72, Tryz.ntmps72
    go_wp2
    go_ret
    first | exact ⟨rfl, rfl⟩ | exact ⟨by simp; omega, rfl⟩
  have e95 : ((n : Int) == 95) = false := u8_ne (by omega)
  rcases (show (n < 65) ∨ (65 ≤ n ∧ n ≤ 90) ∨ (91 ≤ n ∧ n < 97) ∨ (97 ≤ n ∧ n ≤ 122) ∨ (122 < n) by omega) with k1 | ⟨k1, k2⟩ | ⟨k1, k2⟩ | ⟨k1, k2⟩ | k1
  · obtain rfl : b = false := by rw [hb]; simp; omega
    clear hb
    go_enter Tryz.func72, Tryz.ntmps72
    go_wp2
    go_ret
    first | exact ⟨rfl, rfl⟩ | exact ⟨by simp; omega, rfl⟩
  · obtain rfl : b = true := by rw [hb]; simp; omega
    clear hb
    go_enter Tryz.func72, Tryz.ntmps72
    go_wp2
    go_ret
    first | exact ⟨rfl, rfl⟩ | exact ⟨by simp; omega, rfl⟩
  · obtain rfl : b = false := by rw [hb]; simp; omega
    clear hb
    go_enter Tryz.func72, Tryz.ntmps72
    go_wp2
    go_ret
    first | exact ⟨rfl, rfl⟩ | exact ⟨by simp; omega, rfl⟩
  · obtain rfl : b = true := by rw [hb]; simp; omega
    clear hb
    go_enter Tryz.func72, Tryz.ntmps72
    go_wp2
    go_ret
    first | exact ⟨rfl, rfl⟩ | exact ⟨by simp; omega, rfl⟩
  · obtain rfl : b = false := by rw [hb]; simp; omega
    clear hb
    go_enter Tryz.func72, Tryz.ntmps72
    go_wp2
    go_ret
    first | exact ⟨rfl, rfl⟩ | exact ⟨by simp; omega, rfl⟩
theorem all_step (p : UInt8 → Bool) (l : List UInt8) (k : Nat) (hk : k < l.length) (h : p (l.getD k 0) = false) : Lx.allB p l = false := by
  cases ha : Lx.allB p l
  · rfl
  · have := (Lx.allB_iff p l).1 ha (l.getD k 0) (by simp [List.getD, List.getElem?_eq_getElem hk])
    rw [h] at this; cases this
theorem all_done (p : UInt8 → Bool) (l : List UInt8) (h : ∀ i, i < l.length → p (l.getD i 0) = true) : Lx.allB p l = true := by
  rw [Lx.allB_iff]
  intro c hc
  obtain ⟨i, hi, rfl⟩ := List.getElem_of_mem hc
  have := h i hi
  simpa [List.getD, List.getElem?_eq_getElem hi] using this
theorem all_next (p : UInt8 → Bool) (l : List UInt8) (k : Nat) (h : ∀ i, i < k → p (l.getD i 0) = true) (hk : p (l.getD k 0) = true) : ∀ i, i < k + 1 → p (l.getD i 0) = true := fun i hi => by
  by_cases e : i = k
  · rw [e]; exact hk
  · exact h i (by omega)
/-- Is it a name? -/
def Lx.nameB (l : List UInt8) : Bool := !l.isEmpty && (decide (l.length ≤ 40) && Lx.allB Lx.letter l)

set_option maxHeartbeats 2000000 in
theorem rname_any (s : ByteArray) (w : World) (hs : s.size ≤ maxLen) : Calls Tryz.prog 39 #[.string s] w fun e w' => e = .returned (.bool (Lx.nameB s.data.toList)) ∧ w = w' := by
  unfold maxLen at hs
  obtain ⟨l, hl⟩ : ∃ l, l = s.data.toList := ⟨_, rfl⟩
  have HB : Hid (∀ k (h : k < s.size), s[k] = l.getD k 0) := fun k h => by rw [hl]; exact ba_get s k h
  have HN : Hid (l.length = s.size) := by rw [hl]; exact Lib.size_eq s ▸ rfl
  rw [← hl]; clear hl
  obtain ⟨r, hr⟩ : ∃ r, r = Lx.nameB l := ⟨_, rfl⟩
  rw [← hr]
  have HR := Lib.hid hr; clear hr
  go_enter Tryz.func39, Tryz.ntmps39
  go_wp2_with fail
  go_loop [3] (fun vi => ∃ k : Nat, vi = .int .i64 k ∧ k ≤ s.size ∧ Hid (∀ i, i < k → Lx.letter (l.getD i 0) = true)) (fun vi => s.size - (intOf vi).toNat)
  case atStart => exact ⟨0, rfl, by omega, fun i h => by omega⟩
  case round =>
    obtain ⟨k, rfl, hk, hall⟩ := hrel
    by_cases hlt : k < s.size
    · have HS := Lib.hid (HB.out k hlt)
      cases hp : Lx.letter s[k]
      · have HF : Hid (r = false) := by
          rw [HS.out] at hp
          exact HR.out.trans (by rw [Lx.nameB, all_step Lx.letter l k (by rw [HN.out]; exact hlt) hp]; simp)
        go_wp2_with (go_at_call 72; refine (rletter_any _ _).mono ?_; rintro e w' ⟨rfl, rfl⟩)
        go_ret
        exact ⟨ret_bool HF.out.symm, rfl⟩
      · have HX : Hid (∀ i, i < k + 1 → Lx.letter (l.getD i 0) = true) := by
          rw [HS.out] at hp
          exact all_next _ l k hall.out hp
        go_wp2_with (go_at_call 72; refine (rletter_any _ _).mono ?_; rintro e w' ⟨rfl, rfl⟩)
        go_round
        case rel => exact ⟨k + 1, by go_num, by omega, HX.out⟩
        case measure => simp [intOf]; omega
    · have hA : Lx.allB Lx.letter l = true := all_done _ l fun i hi => hall.out i (by have := HN.out; omega)
      have HE : Hid (r = (decide (1 ≤ s.size) && decide (s.size ≤ 40))) := by
        rw [HR.out, Lx.nameB, hA, Bool.and_true, HN.out]
        congr 1
        rw [Bool.eq_iff_iff]
        simp only [Bool.not_eq_true', List.isEmpty_eq_false_iff, decide_eq_true_eq, ← HN.out]
        exact ⟨fun h => List.length_pos_iff.2 h, fun h => List.length_pos_iff.1 h⟩
      clear hA
      by_cases h1 : 1 ≤ s.size
      · by_cases h2 : s.size ≤ 40
        · go_wp2
          go_ret
          exact ⟨ret_bool (by rw [HE.out, decide_eq_true h1, decide_eq_true h2]; simp; omega), rfl⟩
        · go_wp2
          go_ret
          exact ⟨ret_bool (by rw [HE.out, decide_eq_false h2]; simp; omega), rfl⟩
      · go_wp2
        go_ret
        exact ⟨ret_bool (by rw [HE.out, decide_eq_false h1]; rfl), rfl⟩

set_option maxHeartbeats 2000000 in
theorem rplain_any (s : ByteArray) (w : World) (hs : s.size ≤ maxLen) : Calls Tryz.prog 61 #[.string s] w fun e w' => e = .returned (.bool (Lx.allB Lx.quot s.data.toList)) ∧ w = w' := by
  unfold maxLen at hs
  obtain ⟨l, hl⟩ : ∃ l, l = s.data.toList := ⟨_, rfl⟩
  have HB : Hid (∀ k (h : k < s.size), s[k] = l.getD k 0) := fun k h => by rw [hl]; exact ba_get s k h
  have HN : Hid (l.length = s.size) := by rw [hl]; exact Lib.size_eq s ▸ rfl
  rw [← hl]; clear hl
  obtain ⟨r, hr⟩ : ∃ r, r = Lx.allB Lx.quot l := ⟨_, rfl⟩
  rw [← hr]
  have HR := Lib.hid hr; clear hr
  go_enter Tryz.func61, Tryz.ntmps61
  go_wp2_with fail
  go_loop [3] (fun vi => ∃ k : Nat, vi = .int .i64 k ∧ k ≤ s.size ∧ Hid (∀ i, i < k → Lx.quot (l.getD i 0) = true)) (fun vi => s.size - (intOf vi).toNat)
  case atStart => exact ⟨0, rfl, by omega, fun i h => by omega⟩
  case round =>
    obtain ⟨k, rfl, hk, hall⟩ := hrel
    by_cases hlt : k < s.size
    · have HS := Lib.hid (HB.out k hlt)
      have HQ := Lib.hid (quot_eq s[k])
      have HF : Hid (Lx.quot s[k] = false → r = false) := fun hp => by
        rw [HS.out] at hp
        exact HR.out.trans (all_step Lx.quot l k (by rw [HN.out]; exact hlt) hp)
      have HX : Hid (Lx.quot s[k] = true → ∀ i, i < k + 1 → Lx.quot (l.getD i 0) = true) := fun hp => by
        rw [HS.out] at hp
        exact all_next _ l k hall.out hp
      by_cases h1 : s[k].toNat < 32
      · go_wp2_with fail
        go_ret
        exact ⟨ret_bool (HF.out (by rw [HQ.out]; exact decide_eq_false (by omega))).symm, rfl⟩
      by_cases h2 : 126 < s[k].toNat
      · go_wp2_with fail
        go_ret
        exact ⟨ret_bool (HF.out (by rw [HQ.out]; exact decide_eq_false (by omega))).symm, rfl⟩
      by_cases h3 : s[k].toNat = 34
      · have e3 : ((s[k].toNat : Int) == 34) = true := by simp; omega
        go_wp2_with fail
        go_ret
        exact ⟨ret_bool (HF.out (by rw [HQ.out]; exact decide_eq_false (by omega))).symm, rfl⟩
      · have e3 : ((s[k].toNat : Int) == 34) = false := u8_ne (by omega)
        have HY := Lib.hid (HX.out (by rw [HQ.out]; exact decide_eq_true (by omega)))
        go_wp2_with fail
        go_round
        case rel => exact ⟨k + 1, by go_num, by omega, HY.out⟩
        case measure => simp [intOf]; omega
    · have hA : Hid (r = true) := HR.out.trans (all_done _ l fun i hi => hall.out i (by have := HN.out; omega))
      go_wp2_with fail
      go_ret
      exact ⟨ret_bool hA.out.symm, rfl⟩
end Go.Proofs.YtmfbnlaohlnljaaGreatDoor
