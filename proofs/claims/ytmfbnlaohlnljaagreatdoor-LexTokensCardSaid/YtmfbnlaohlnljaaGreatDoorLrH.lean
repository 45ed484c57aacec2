/-
  Contracts of the reference of layer 3: runs of letters and of digits, numbers, signs, first bytes.
-/
import Derived.Test.YtmfbnlaohlnljaaGreatDoorLrA
import Derived.Test.YtmfbnlaohlnljaaGreatDoorLxM3
import Derived.Test.YtmfbnlaohlnljaaGreatDoorLxY
namespace Go.Proofs.YtmfbnlaohlnljaaGreatDoor
open Go.RowKit

set_option maxHeartbeats 1000000 in
theorem rdigit_any (c : UInt8) (w : World) : Calls Tryz.prog 128 #[.int .u8 (c.toNat : Int)] w fun e w' => e = .returned (.bool (Lx.digit c)) ∧ w = w' := by
  have hc := c.toNat_lt
  obtain ⟨b, hb⟩ : ∃ b, b = Lx.digit c := ⟨_, rfl⟩
  rw [← hb]
  rw [digit_eq] at hb
  generalize c.toNat = n at hc hb
  rcases (show (n < 48) ∨ (48 ≤ n ∧ n ≤ 57) ∨ (57 < n) by omega) with k1 | ⟨k1, k2⟩ | k1
  · obtain rfl : b = false := by rw [hb]; simp; omega
    clear hb
    go_enter Tryz.func128, Tryz.ntmps128
    go_wp2
    go_ret
    first | exact ⟨rfl, rfl⟩ | exact ⟨by simp; omega, rfl⟩
  · obtain rfl : b = true := by rw [hb]; simp; omega
    clear hb
    go_enter Tryz.func128, Tryz.ntmps128
    go_wp2
    go_ret
    first | exact ⟨rfl, rfl⟩ | exact ⟨by simp; omega, rfl⟩
  · obtain rfl : b = false := by rw [hb]; simp; omega
    clear hb
    go_enter Tryz.func128, Tryz.ntmps128
    go_wp2
    go_ret
    first | exact ⟨rfl, rfl⟩ | exact ⟨by simp; omega, rfl⟩

set_option maxHeartbeats 2000000 in
theorem rletters_any (s : ByteArray) (w : World) (hs : s.size ≤ maxLen) :
    Calls Tryz.prog 57 #[.string s] w fun e w' => e = .returned (.int .i64 (Lx.runN Lx.letter s.data.toList : Nat)) ∧ w = w' := by
  unfold maxLen at hs
  obtain ⟨l, hl⟩ : ∃ l, l = s.data.toList := ⟨_, rfl⟩
  have HL : Hid (∀ k (h : k < s.size), s[k] = l.getD k 0) := fun k h => by rw [hl]; exact ba_get s k h
  have HN : Hid (l.length = s.size) := by rw [hl]; exact Lib.size_eq s ▸ rfl
  rw [← hl]; clear hl
  obtain ⟨r, hr⟩ : ∃ r, r = Lx.runN Lx.letter l := ⟨_, rfl⟩
  rw [← hr]
  have HR := Lib.hid hr; clear hr
  go_enter Tryz.func57, Tryz.ntmps57
  go_wp2_with fail
  go_loop [3] (fun vi => ∃ k : Nat, vi = .int .i64 k ∧ k ≤ s.size ∧ Hid (∀ i, i < k → Lx.letter (l.getD i 0) = true)) (fun vi => s.size - (intOf vi).toNat)
  case atStart => exact ⟨0, rfl, by omega, fun i h => by omega⟩
  case round =>
    obtain ⟨k, rfl, hk, hall⟩ := hrel
    by_cases hlt : k < s.size
    · have HS := Lib.hid (run_step Lx.letter l k _ (by rw [HN.out]; exact hlt) (HL.out k hlt) hall.out)
      cases hp : Lx.letter s[k]
      · go_wp2_with (go_at_call 72; refine (rletter_any _ _).mono ?_; rintro e w' ⟨rfl, rfl⟩)
        go_ret
        exact ⟨ret_int (by rw [HR.out, HS.out.2 hp]), rfl⟩
      · go_wp2_with (go_at_call 72; refine (rletter_any _ _).mono ?_; rintro e w' ⟨rfl, rfl⟩)
        go_round
        case rel => exact ⟨k + 1, by go_num, by omega, HS.out.1 hp⟩
        case measure => simp [intOf]; omega
    · have HE : Hid (r = s.size) := by rw [HR.out]; exact Lx.runN_eq _ l s.size (by rw [HN.out]; omega) (fun i hi => hall.out i (by omega)) (Or.inl HN.out.symm)
      go_wp2_with fail
      go_ret
      exact ⟨ret_int (by rw [HE.out]; omega), rfl⟩

set_option maxHeartbeats 2000000 in
theorem rrun_digits (s : ByteArray) (w : World) (hs : s.size ≤ maxLen) :
    Calls Tryz.prog 89 #[.string s] w fun e w' => e = .returned (.int .i64 (Lx.runN Lx.digit s.data.toList : Nat)) ∧ w = w' := by
  unfold maxLen at hs
  obtain ⟨l, hl⟩ : ∃ l, l = s.data.toList := ⟨_, rfl⟩
  have HL : Hid (∀ k (h : k < s.size), s[k] = l.getD k 0) := fun k h => by rw [hl]; exact ba_get s k h
  have HN : Hid (l.length = s.size) := by rw [hl]; exact Lib.size_eq s ▸ rfl
  rw [← hl]; clear hl
  obtain ⟨r, hr⟩ : ∃ r, r = Lx.runN Lx.digit l := ⟨_, rfl⟩
  rw [← hr]
  have HR := Lib.hid hr; clear hr
  go_enter Tryz.func89, Tryz.ntmps89
  go_wp2_with fail
  go_loop [3] (fun vi => ∃ k : Nat, vi = .int .i64 k ∧ k ≤ s.size ∧ Hid (∀ i, i < k → Lx.digit (l.getD i 0) = true)) (fun vi => s.size - (intOf vi).toNat)
  case atStart => exact ⟨0, rfl, by omega, fun i h => by omega⟩
  case round =>
    obtain ⟨k, rfl, hk, hall⟩ := hrel
    by_cases hlt : k < s.size
    · have HS := Lib.hid (run_step Lx.digit l k _ (by rw [HN.out]; exact hlt) (HL.out k hlt) hall.out)
      cases hp : Lx.digit s[k]
      · go_wp2_with (go_at_call 128; refine (rdigit_any _ _).mono ?_; rintro e w' ⟨rfl, rfl⟩)
        go_ret
        exact ⟨ret_int (by rw [HR.out, HS.out.2 hp]), rfl⟩
      · go_wp2_with (go_at_call 128; refine (rdigit_any _ _).mono ?_; rintro e w' ⟨rfl, rfl⟩)
        go_round
        case rel => exact ⟨k + 1, by go_num, by omega, HS.out.1 hp⟩
        case measure => simp [intOf]; omega
    · have HE : Hid (r = s.size) := by rw [HR.out]; exact Lx.runN_eq _ l s.size (by rw [HN.out]; omega) (fun i hi => hall.out i (by omega)) (Or.inl HN.out.symm)
      go_wp2_with fail
      go_ret
      exact ⟨ret_int (by rw [HE.out]; omega), rfl⟩

set_option maxHeartbeats 1000000 in
theorem rfirst_any (s : ByteArray) (w : World) (hs : s.size ≤ maxLen) :
    Calls Tryz.prog 58 #[.string s] w fun e w' => e = .returned (.string (s.extract 0 (min s.size 40))) ∧ w = w' := by
  unfold maxLen at hs
  by_cases h : s.size ≤ 40
  · have e : min s.size 40 = s.size := by omega
    have e2 : min (s.size : Int) 40 = s.size := by omega
    rw [e]
    go_enter Tryz.func58, Tryz.ntmps58
    go_wp2_with fail
    go_ret
    exact ⟨by simp, rfl⟩
  · have e : min s.size 40 = 40 := by omega
    have e2 : min (s.size : Int) 40 = 40 := by omega
    rw [e]
    go_enter Tryz.func58, Tryz.ntmps58
    go_wp2_with fail
    go_ret
    exact ⟨rfl, rfl⟩

/-- A number's digits ahead of its point and behind it, and is there one. -/
def Lx.numParts (l : List UInt8) : Nat × Nat × Bool :=
  if l.getD (Lx.runN Lx.digit l) 0 = 46 ∧ 0 < Lx.runN Lx.digit (l.drop (Lx.runN Lx.digit l + 1)) then (Lx.runN Lx.digit l, Lx.runN Lx.digit (l.drop (Lx.runN Lx.digit l + 1)), true)
  else (Lx.runN Lx.digit l, 0, decide (0 < Lx.runN Lx.digit l))
set_option maxHeartbeats 2000000 in
theorem rnumber_any (s : ByteArray) (w : World) (hs : s.size ≤ maxLen) :
    Calls Tryz.prog 59 #[.string s] w fun e w' => e = .returned (.tuple #[.int .i64 ((Lx.numParts s.data.toList).1 : Nat), .int .i64 ((Lx.numParts s.data.toList).2.1 : Nat), .bool (Lx.numParts s.data.toList).2.2]) ∧ w = w' := by
  have HD := Lib.hid (fun W => rrun_digits s W hs)
  obtain ⟨l, hl⟩ : ∃ l, l = s.data.toList := ⟨_, rfl⟩
  have hn : l.length = s.size := by rw [hl]; exact Lib.size_eq s ▸ rfl
  have hle := Lx.runN_le Lx.digit l
  rw [← hl] at HD ⊢
  unfold maxLen at hs
  obtain ⟨f, hf⟩ : ∃ f, f = Lx.runN Lx.digit l := ⟨_, rfl⟩
  have HE2 : Hid (f < s.size → ∀ W, Calls Tryz.prog 89 #[.string (s.extract (f + 1) s.size)] W fun e w' => e = .returned (.int .i64 (Lx.runN Lx.digit (l.drop (f + 1)) : Nat)) ∧ W = w') := fun h W => by
    have e : s.extract (f + 1) s.size = ⟨(l.drop (f + 1)).toArray⟩ := by
      conv => lhs; rw [ba_list' s]
      rw [← hl, show (⟨l.toArray⟩ : ByteArray).size = l.length from rfl, ext_tail]
    have := rrun_digits (s.extract (f + 1) s.size) W (by rw [e]; show (l.drop (f + 1)).length ≤ maxLen; rw [List.length_drop]; unfold maxLen; omega)
    rw [e] at this ⊢
    exact this
  have HB : Hid (∀ k (h : k < s.size), s[k] = l.getD k 0) := fun k h => by rw [hl]; exact ba_get s k h
  unfold Lx.numParts
  rw [← hf] at HD hle ⊢
  obtain ⟨b, hb⟩ : ∃ b, b = Lx.runN Lx.digit (l.drop (f + 1)) := ⟨_, rfl⟩
  rw [← hb] at HE2 ⊢
  have hbl : b ≤ s.size := by rw [hb]; have := Lx.runN_le Lx.digit (l.drop (f + 1)); rw [List.length_drop] at this; omega
  clear hf hb
  by_cases h1 : f < s.size
  · have hcb := HB.out f h1
    by_cases h2 : l.getD f 0 = 46
    · have hc : ((s[f].toNat : Int) == 46) = true := by rw [hcb, h2]; rfl
      by_cases h3 : 0 < b
      · rw [if_pos ⟨h2, h3⟩]
        have HE3 := Lib.hid (HE2.out h1)
        clear h2 hcb hl
        go_enter Tryz.func59, Tryz.ntmps59
        go_wp2_with fail
        refine (HD.out _).mono ?_; rintro e w' ⟨rfl, rfl⟩
        go_wp2_with fail
        refine (HE3.out _).mono ?_; rintro e w' ⟨rfl, rfl⟩
        go_wp2_with fail
        exact bodyPost_ret (v := .tuple #[.int .i64 (f : Nat), .int .i64 (b : Nat), .bool true]) (by simp [results, Tryz.results59, go_sem]) rfl ⟨rfl, rfl⟩
      · rw [if_neg (fun h => h3 h.2)]
        have hb0 : b = 0 := by omega
        have HE3 := Lib.hid (HE2.out h1)
        subst hb0
        clear h2 hcb hl h3
        go_enter Tryz.func59, Tryz.ntmps59
        go_wp2_with fail
        refine (HD.out _).mono ?_; rintro e w' ⟨rfl, rfl⟩
        go_wp2_with fail
        refine (HE3.out _).mono ?_; rintro e w' ⟨rfl, rfl⟩
        go_wp2_with fail
        exact bodyPost_ret (v := .tuple #[.int .i64 (f : Nat), .int .i64 ((0 : Nat) : Int), .bool (decide (0 < f))]) (by simp [results, Tryz.results59, go_sem]) rfl ⟨rfl, rfl⟩
    · have hc : ((s[f].toNat : Int) == 46) = false := by
        have hn46 : (l.getD f 0).toNat ≠ 46 := fun e => h2 (UInt8.toNat_inj.1 e)
        rw [hcb]; exact u8_ne (by omega)
      rw [if_neg (fun h => h2 h.1)]
      clear h2 hcb hl HE2
      go_enter Tryz.func59, Tryz.ntmps59
      go_wp2_with fail
      refine (HD.out _).mono ?_; rintro e w' ⟨rfl, rfl⟩
      go_wp2_with fail
      exact bodyPost_ret (v := .tuple #[.int .i64 (f : Nat), .int .i64 ((0 : Nat) : Int), .bool (decide (0 < f))]) (by simp [results, Tryz.results59, go_sem]) rfl ⟨rfl, rfl⟩
  · have h2 : ¬ (l.getD f 0 = 46 ∧ 0 < b) := fun h => by
      have : l.getD f 0 = 0 := by simp [List.getD, List.getElem?_eq_none (show l.length ≤ f by omega)]
      rw [this] at h; exact absurd h.1 (by decide)
    rw [if_neg h2]
    clear h2 hl HE2
    go_enter Tryz.func59, Tryz.ntmps59
    go_wp2_with fail
    refine (HD.out _).mono ?_; rintro e w' ⟨rfl, rfl⟩
    go_wp2_with fail
    exact bodyPost_ret (v := .tuple #[.int .i64 (f : Nat), .int .i64 ((0 : Nat) : Int), .bool (decide (0 < f))]) (by simp [results, Tryz.results59, go_sem]) rfl ⟨rfl, rfl⟩
end Go.Proofs.YtmfbnlaohlnljaaGreatDoor
