/-
  Contracts of package lex: runs of bytes that fit.
-/
import Derived.Test.YtmfbnlaohlnljaaGreatDoorLxA
namespace Go.Proofs.YtmfbnlaohlnljaaGreatDoor
open Go.RowKit

theorem ba_get (s : ByteArray) (k : Nat) (h : k < s.size) : s[k] = s.data.toList.getD k 0 := by
  have : k < s.data.toList.length := by simpa using h
  rw [List.getD, List.getElem?_eq_getElem this]; rfl
theorem run_step (p : UInt8 → Bool) (l : List UInt8) (k : Nat) (c : UInt8) (hk : k < l.length) (hc : c = l.getD k 0) (h : ∀ i, i < k → p (l.getD i 0) = true) :
    (p c = true → ∀ i, i < k + 1 → p (l.getD i 0) = true) ∧ (p c = false → Lx.runN p l = k) := by
  constructor
  · intro hp i hi
    by_cases e : i = k
    · rw [e, ← hc]; exact hp
    · exact h i (by omega)
  · intro hp
    exact Lx.runN_eq p l k (by omega) h (Or.inr (by rw [← hc]; exact hp))

theorem except1_any (c : UInt8) (b : Nat) (w : World) (hb : w.cell? ⟨b, 0, none⟩ = some (.int .u8 10)) :
    Calls Tryz.prog 84 #[.int .u8 (c.toNat : Int), .pointer (some ⟨b, 0, none⟩)] w fun e w' => e = .returned (.bool (Lx.notNl c)) ∧ w = w' := by
  have hc := c.toNat_lt
  have h1 : Lx.notNl c = !decide (c.toNat = 10) := by unfold Lx.notNl bne; rw [show (10 : UInt8) = UInt8.ofNat 10 from rfl, u8_eqb c 10 (by omega)]
  obtain ⟨q, hq⟩ : ∃ q, q = Lx.notNl c := ⟨_, rfl⟩
  rw [← hq]; rw [h1] at hq; clear h1
  generalize c.toNat = n at hc hq
  by_cases h : n = 10
  · obtain rfl : q = false := by rw [hq]; simp [h]
    clear hq; subst h
    go_enter Tryz.func84, Tryz.ntmps84
    go_wp2
    go_ret
    exact ⟨rfl, rfl⟩
  · obtain rfl : q = true := by rw [hq]; simp [h]
    clear hq
    have f0 : ((n : Int) != 10) = true := by simp; omega
    have e0 : ((n : Int) == 10) = false := u8_ne (by omega)
    go_enter Tryz.func84, Tryz.ntmps84
    go_wp2
    go_ret
    exact ⟨rfl, rfl⟩


set_option maxHeartbeats 1000000 in
theorem run_letter (s : ByteArray) (w : World) (hs : s.size ≤ maxLen) :
    Calls Tryz.prog 82 #[.string s, .func (.func 78) #[] #[]] w fun e w' => e = .returned (.int .i64 (Lx.runN Lx.letter s.data.toList : Nat)) ∧ w = w' := by
  unfold maxLen at hs
  obtain ⟨l, hl⟩ : ∃ l, l = s.data.toList := ⟨_, rfl⟩
  have HL : Hid (∀ k (h : k < s.size), s[k] = l.getD k 0) := fun k h => by rw [hl]; exact ba_get s k h
  have HN : Hid (l.length = s.size) := by rw [hl]; exact Lib.size_eq s ▸ rfl
  rw [← hl]; clear hl
  obtain ⟨r, hr⟩ : ∃ r, r = Lx.runN Lx.letter l := ⟨_, rfl⟩
  rw [← hr]
  have HR := Lib.hid hr; clear hr
  go_enter Tryz.func82, Tryz.ntmps82
  go_wp2
  go_loop [8] (fun vi => ∃ k : Nat, vi = .int .i64 k ∧ k ≤ s.size ∧ Hid (∀ i, i < k → Lx.letter (l.getD i 0) = true)) (fun vi => s.size - (intOf vi).toNat)
  case atStart => exact ⟨0, rfl, by omega, fun i h => by omega⟩
  case round =>
    obtain ⟨k, rfl, hk, hall⟩ := hrel
    by_cases hlt : k < s.size
    · have HS := Lib.hid (run_step Lx.letter l k _ (by rw [HN.out]; exact hlt) (HL.out k hlt) hall.out)
      cases hp : Lx.letter s[k]
      · go_wp2_with (go_at_call 78; refine (letter_any _ _).mono ?_; rintro e w' ⟨rfl, rfl⟩)
        go_ret
        exact ⟨ret_int (by rw [HR.out, HS.out.2 hp]), rfl⟩
      · go_wp2_with (go_at_call 78; refine (letter_any _ _).mono ?_; rintro e w' ⟨rfl, rfl⟩)
        go_round
        case rel => exact ⟨k + 1, by go_num, by omega, HS.out.1 hp⟩
        case measure => simp [intOf]; omega
    · have HE : Hid (r = s.size) := by rw [HR.out]; exact Lx.runN_eq _ l s.size (by rw [HN.out]; omega) (fun i hi => hall.out i (by omega)) (Or.inl HN.out.symm)
      go_wp2
      go_ret
      exact ⟨ret_int (by rw [HE.out]), rfl⟩


set_option maxHeartbeats 1000000 in
theorem run_digit (s : ByteArray) (w : World) (hs : s.size ≤ maxLen) :
    Calls Tryz.prog 82 #[.string s, .func (.func 124) #[] #[]] w fun e w' => e = .returned (.int .i64 (Lx.runN Lx.digit s.data.toList : Nat)) ∧ w = w' := by
  unfold maxLen at hs
  obtain ⟨l, hl⟩ : ∃ l, l = s.data.toList := ⟨_, rfl⟩
  have HL : Hid (∀ k (h : k < s.size), s[k] = l.getD k 0) := fun k h => by rw [hl]; exact ba_get s k h
  have HN : Hid (l.length = s.size) := by rw [hl]; exact Lib.size_eq s ▸ rfl
  rw [← hl]; clear hl
  obtain ⟨r, hr⟩ : ∃ r, r = Lx.runN Lx.digit l := ⟨_, rfl⟩
  rw [← hr]
  have HR := Lib.hid hr; clear hr
  go_enter Tryz.func82, Tryz.ntmps82
  go_wp2
  go_loop [8] (fun vi => ∃ k : Nat, vi = .int .i64 k ∧ k ≤ s.size ∧ Hid (∀ i, i < k → Lx.digit (l.getD i 0) = true)) (fun vi => s.size - (intOf vi).toNat)
  case atStart => exact ⟨0, rfl, by omega, fun i h => by omega⟩
  case round =>
    obtain ⟨k, rfl, hk, hall⟩ := hrel
    by_cases hlt : k < s.size
    · have HS := Lib.hid (run_step Lx.digit l k _ (by rw [HN.out]; exact hlt) (HL.out k hlt) hall.out)
      cases hp : Lx.digit s[k]
      · go_wp2_with (go_at_call 124; refine (digit_any _ _).mono ?_; rintro e w' ⟨rfl, rfl⟩)
        go_ret
        exact ⟨ret_int (by rw [HR.out, HS.out.2 hp]), rfl⟩
      · go_wp2_with (go_at_call 124; refine (digit_any _ _).mono ?_; rintro e w' ⟨rfl, rfl⟩)
        go_round
        case rel => exact ⟨k + 1, by go_num, by omega, HS.out.1 hp⟩
        case measure => simp [intOf]; omega
    · have HE : Hid (r = s.size) := by rw [HR.out]; exact Lx.runN_eq _ l s.size (by rw [HN.out]; omega) (fun i hi => hall.out i (by omega)) (Or.inl HN.out.symm)
      go_wp2
      go_ret
      exact ⟨ret_int (by rw [HE.out]), rfl⟩


set_option maxHeartbeats 1000000 in
theorem run_blank (s : ByteArray) (w : World) (hs : s.size ≤ maxLen) :
    Calls Tryz.prog 82 #[.string s, .func (.func 52) #[] #[]] w fun e w' => e = .returned (.int .i64 (Lx.runN Lx.blank s.data.toList : Nat)) ∧ w = w' := by
  unfold maxLen at hs
  obtain ⟨l, hl⟩ : ∃ l, l = s.data.toList := ⟨_, rfl⟩
  have HL : Hid (∀ k (h : k < s.size), s[k] = l.getD k 0) := fun k h => by rw [hl]; exact ba_get s k h
  have HN : Hid (l.length = s.size) := by rw [hl]; exact Lib.size_eq s ▸ rfl
  rw [← hl]; clear hl
  obtain ⟨r, hr⟩ : ∃ r, r = Lx.runN Lx.blank l := ⟨_, rfl⟩
  rw [← hr]
  have HR := Lib.hid hr; clear hr
  go_enter Tryz.func82, Tryz.ntmps82
  go_wp2
  go_loop [8] (fun vi => ∃ k : Nat, vi = .int .i64 k ∧ k ≤ s.size ∧ Hid (∀ i, i < k → Lx.blank (l.getD i 0) = true)) (fun vi => s.size - (intOf vi).toNat)
  case atStart => exact ⟨0, rfl, by omega, fun i h => by omega⟩
  case round =>
    obtain ⟨k, rfl, hk, hall⟩ := hrel
    by_cases hlt : k < s.size
    · have HS := Lib.hid (run_step Lx.blank l k _ (by rw [HN.out]; exact hlt) (HL.out k hlt) hall.out)
      cases hp : Lx.blank s[k]
      · go_wp2_with (go_at_call 52; refine (blank_any _ _).mono ?_; rintro e w' ⟨rfl, rfl⟩)
        go_ret
        exact ⟨ret_int (by rw [HR.out, HS.out.2 hp]), rfl⟩
      · go_wp2_with (go_at_call 52; refine (blank_any _ _).mono ?_; rintro e w' ⟨rfl, rfl⟩)
        go_round
        case rel => exact ⟨k + 1, by go_num, by omega, HS.out.1 hp⟩
        case measure => simp [intOf]; omega
    · have HE : Hid (r = s.size) := by rw [HR.out]; exact Lx.runN_eq _ l s.size (by rw [HN.out]; omega) (fun i hi => hall.out i (by omega)) (Or.inl HN.out.symm)
      go_wp2
      go_ret
      exact ⟨ret_int (by rw [HE.out]), rfl⟩


set_option maxHeartbeats 1000000 in
theorem run_quotable (s : ByteArray) (w : World) (hs : s.size ≤ maxLen) :
    Calls Tryz.prog 82 #[.string s, .func (.func 79) #[] #[]] w fun e w' => e = .returned (.int .i64 (Lx.runN Lx.quot s.data.toList : Nat)) ∧ w = w' := by
  unfold maxLen at hs
  obtain ⟨l, hl⟩ : ∃ l, l = s.data.toList := ⟨_, rfl⟩
  have HL : Hid (∀ k (h : k < s.size), s[k] = l.getD k 0) := fun k h => by rw [hl]; exact ba_get s k h
  have HN : Hid (l.length = s.size) := by rw [hl]; exact Lib.size_eq s ▸ rfl
  rw [← hl]; clear hl
  obtain ⟨r, hr⟩ : ∃ r, r = Lx.runN Lx.quot l := ⟨_, rfl⟩
  rw [← hr]
  have HR := Lib.hid hr; clear hr
  go_enter Tryz.func82, Tryz.ntmps82
  go_wp2
  go_loop [8] (fun vi => ∃ k : Nat, vi = .int .i64 k ∧ k ≤ s.size ∧ Hid (∀ i, i < k → Lx.quot (l.getD i 0) = true)) (fun vi => s.size - (intOf vi).toNat)
  case atStart => exact ⟨0, rfl, by omega, fun i h => by omega⟩
  case round =>
    obtain ⟨k, rfl, hk, hall⟩ := hrel
    by_cases hlt : k < s.size
    · have HS := Lib.hid (run_step Lx.quot l k _ (by rw [HN.out]; exact hlt) (HL.out k hlt) hall.out)
      cases hp : Lx.quot s[k]
      · go_wp2_with (go_at_call 79; refine (quotable_any _ _).mono ?_; rintro e w' ⟨rfl, rfl⟩)
        go_ret
        exact ⟨ret_int (by rw [HR.out, HS.out.2 hp]), rfl⟩
      · go_wp2_with (go_at_call 79; refine (quotable_any _ _).mono ?_; rintro e w' ⟨rfl, rfl⟩)
        go_round
        case rel => exact ⟨k + 1, by go_num, by omega, HS.out.1 hp⟩
        case measure => simp [intOf]; omega
    · have HE : Hid (r = s.size) := by rw [HR.out]; exact Lx.runN_eq _ l s.size (by rw [HN.out]; omega) (fun i hi => hall.out i (by omega)) (Or.inl HN.out.symm)
      go_wp2
      go_ret
      exact ⟨ret_int (by rw [HE.out]), rfl⟩


set_option maxHeartbeats 1000000 in
theorem run_notNl (s : ByteArray) (b : Nat) (w : World) (hs : s.size ≤ maxLen) (hb : w.cell? ⟨b, 0, none⟩ = some (.int .u8 10)) :
    Calls Tryz.prog 82 #[.string s, .func (.func 84) #[] #[.pointer (some ⟨b, 0, none⟩)]] w fun e w' => e = .returned (.int .i64 (Lx.runN Lx.notNl s.data.toList : Nat)) ∧ w = w' := by
  unfold maxLen at hs
  obtain ⟨l, hl⟩ : ∃ l, l = s.data.toList := ⟨_, rfl⟩
  have HL : Hid (∀ k (h : k < s.size), s[k] = l.getD k 0) := fun k h => by rw [hl]; exact ba_get s k h
  have HN : Hid (l.length = s.size) := by rw [hl]; exact Lib.size_eq s ▸ rfl
  rw [← hl]; clear hl
  obtain ⟨r, hr⟩ : ∃ r, r = Lx.runN Lx.notNl l := ⟨_, rfl⟩
  rw [← hr]
  have HR := Lib.hid hr; clear hr
  go_enter Tryz.func82, Tryz.ntmps82
  go_wp2
  go_loop [8] (fun vi => ∃ k : Nat, vi = .int .i64 k ∧ k ≤ s.size ∧ Hid (∀ i, i < k → Lx.notNl (l.getD i 0) = true)) (fun vi => s.size - (intOf vi).toNat)
  case atStart => exact ⟨0, rfl, by omega, fun i h => by omega⟩
  case round =>
    obtain ⟨k, rfl, hk, hall⟩ := hrel
    by_cases hlt : k < s.size
    · have HS := Lib.hid (run_step Lx.notNl l k _ (by rw [HN.out]; exact hlt) (HL.out k hlt) hall.out)
      cases hp : Lx.notNl s[k]
      · go_wp2_with (go_at_call 84; refine (except1_any _ _ _ hb).mono ?_; rintro e w' ⟨rfl, rfl⟩)
        go_ret
        exact ⟨ret_int (by rw [HR.out, HS.out.2 hp]), rfl⟩
      · go_wp2_with (go_at_call 84; refine (except1_any _ _ _ hb).mono ?_; rintro e w' ⟨rfl, rfl⟩)
        go_round
        case rel => exact ⟨k + 1, by go_num, by omega, HS.out.1 hp⟩
        case measure => simp [intOf]; omega
    · have HE : Hid (r = s.size) := by rw [HR.out]; exact Lx.runN_eq _ l s.size (by rw [HN.out]; omega) (fun i hi => hall.out i (by omega)) (Or.inl HN.out.symm)
      go_wp2
      go_ret
      exact ⟨ret_int (by rw [HE.out]), rfl⟩

end Go.Proofs.YtmfbnlaohlnljaaGreatDoor
