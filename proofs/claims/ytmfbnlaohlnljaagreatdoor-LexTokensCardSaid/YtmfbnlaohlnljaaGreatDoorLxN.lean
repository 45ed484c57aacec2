/-
  Contracts of package lex: tokens that are valid.
-/
import Derived.Test.YtmfbnlaohlnljaaGreatDoorLxL
namespace Go.Proofs.YtmfbnlaohlnljaaGreatDoor
open Go.RowKit

theorem ba_list (t : ByteArray) : t = ⟨t.data.toList.toArray⟩ := by simp
set_option maxHeartbeats 2000000 in
theorem valid_nz (k p q a c : Int) (t : ByteArray) (w : World) (hk : k ≠ 2) (h0 : ¬ (p = 0 ∧ q = 0)) :
    Calls Tryz.prog 42 #[.agg #[.int .i64 k, .string t, .int .i64 p, .int .i64 q, .int .i64 a, .int .i64 c]] w fun e w' => e = .returned (.bool false) ∧ Below w.heap.size w w' := by
  have k2 : (k == 2) = false := by simpa using hk
  clear hk
  by_cases hp : p = 0
  · have hq : (q == 0) = false := by simp; exact fun e => h0 ⟨hp, e⟩
    subst hp
    clear h0
    go_enter Tryz.func42, Tryz.ntmps42
    go_wp2_with fail
    go_ret
    exact ⟨rfl, (Below.refl _ _).alloc (Nat.le_refl _) _⟩
  · have hp2 : (p == 0) = false := by simpa using hp
    clear h0 hp
    go_enter Tryz.func42, Tryz.ntmps42
    go_wp2_with fail
    go_ret
    exact ⟨rfl, (Below.refl _ _).alloc (Nat.le_refl _) _⟩

set_option maxHeartbeats 2000000 in
theorem valid_num_no (p q a c : Int) (t : ByteArray) (w : World) (ht : t.toList.isEmpty = false) :
    Calls Tryz.prog 42 #[.agg #[.int .i64 2, .string t, .int .i64 p, .int .i64 q, .int .i64 a, .int .i64 c]] w fun e w' => e = .returned (.bool (false)) ∧ Below w.heap.size w w' := by
  go_enter Tryz.func42, Tryz.ntmps42
  go_wp2_with fail
  go_ret
  exact ⟨rfl, (Below.refl _ _).alloc (Nat.le_refl _) _⟩

set_option maxHeartbeats 2000000 in
theorem valid_num (p q a c : Int) (t : ByteArray) (w : World) (h1 : -9223372036854775808 ≤ p) (h2 : p ≤ 9223372036854775807) (h3 : -9223372036854775808 ≤ q) (h4 : q ≤ 9223372036854775807) (ht : t.toList.isEmpty = true) :
    Calls Tryz.prog 42 #[.agg #[.int .i64 2, .string t, .int .i64 p, .int .i64 q, .int .i64 a, .int .i64 c]] w fun e w' => e = .returned (.bool (Lx.decB p q)) ∧ Below w.heap.size w w' := by
  have HD := Lib.hid (fun W => decimal_b p q W h1 h2 h3 h4)
  generalize Lx.decB p q = b at *
  go_enter Tryz.func42, Tryz.ntmps42
  go_wp2_with fail
  refine (HD.out _).mono ?_; rintro e w' ⟨rfl, hb⟩
  have BB := Lib.hid (((Below.refl w.heap.size w).alloc (Nat.le_refl _) _).trans (hb.mono (by simp)))
  clear hb
  go_wp2_with fail
  go_ret
  exact ⟨rfl, BB.out⟩

set_option maxHeartbeats 2000000 in
theorem valid_name_e (a c : Int) (t : ByteArray) (w : World) (ht : t.toList.isEmpty = true) :
    Calls Tryz.prog 42 #[.agg #[.int .i64 0, .string t, .int .i64 0, .int .i64 0, .int .i64 a, .int .i64 c]] w fun e w' => e = .returned (.bool (false)) ∧ Below w.heap.size w w' := by
  go_enter Tryz.func42, Tryz.ntmps42
  go_wp2_with fail
  go_ret
  exact ⟨rfl, (Below.refl _ _).alloc (Nat.le_refl _) _⟩

set_option maxHeartbeats 2000000 in
theorem valid_name_l (a c : Int) (t : ByteArray) (w : World) (ht : t.toList.isEmpty = false) (hl : 40 < t.size) :
    Calls Tryz.prog 42 #[.agg #[.int .i64 0, .string t, .int .i64 0, .int .i64 0, .int .i64 a, .int .i64 c]] w fun e w' => e = .returned (.bool (false)) ∧ Below w.heap.size w w' := by
  go_enter Tryz.func42, Tryz.ntmps42
  go_wp2_with fail
  go_ret
  exact ⟨rfl, (Below.refl _ _).alloc (Nat.le_refl _) _⟩

set_option maxHeartbeats 2000000 in
theorem valid_name (a c : Int) (t : ByteArray) (w : World) (ht : t.toList.isEmpty = false) (hl : t.size ≤ 40) :
    Calls Tryz.prog 42 #[.agg #[.int .i64 0, .string t, .int .i64 0, .int .i64 0, .int .i64 a, .int .i64 c]] w fun e w' => e = .returned (.bool (Lx.allB Lx.letter t.data.toList)) ∧ Below w.heap.size w w' := by
  have HA := Lib.hid (fun W => all_letter t.data.toList W (by have := Lib.size_eq t; omega))
  rw [← ba_list t] at HA
  generalize Lx.allB Lx.letter t.data.toList = b at *
  go_enter Tryz.func42, Tryz.ntmps42
  go_wp2_with fail
  refine (HA.out _).mono ?_; rintro e w' ⟨rfl, rfl⟩
  go_wp2_with fail
  go_ret
  exact ⟨rfl, (Below.refl _ _).alloc (Nat.le_refl _) _⟩

set_option maxHeartbeats 2000000 in
theorem valid_text (a c : Int) (t : ByteArray) (w : World) (hl : t.size ≤ 100) :
    Calls Tryz.prog 42 #[.agg #[.int .i64 3, .string t, .int .i64 0, .int .i64 0, .int .i64 a, .int .i64 c]] w fun e w' => e = .returned (.bool (Lx.allB Lx.quot t.data.toList)) ∧ Below w.heap.size w w' := by
  have HA := Lib.hid (fun W => all_quot t.data.toList W (by have := Lib.size_eq t; omega))
  rw [← ba_list t] at HA
  generalize Lx.allB Lx.quot t.data.toList = b at *
  go_enter Tryz.func42, Tryz.ntmps42
  go_wp2_with fail
  refine (HA.out _).mono ?_; rintro e w' ⟨rfl, rfl⟩
  go_wp2_with fail
  go_ret
  exact ⟨rfl, (Below.refl _ _).alloc (Nat.le_refl _) _⟩

set_option maxHeartbeats 2000000 in
theorem valid_text_l (a c : Int) (t : ByteArray) (w : World) (hl : 100 < t.size) :
    Calls Tryz.prog 42 #[.agg #[.int .i64 3, .string t, .int .i64 0, .int .i64 0, .int .i64 a, .int .i64 c]] w fun e w' => e = .returned (.bool (false)) ∧ Below w.heap.size w w' := by
  go_enter Tryz.func42, Tryz.ntmps42
  go_wp2_with fail
  go_ret
  exact ⟨rfl, (Below.refl _ _).alloc (Nat.le_refl _) _⟩

set_option maxHeartbeats 2000000 in
theorem valid_word (a c : Int) (t : ByteArray) (w : World) (he : EnvL w) :
    Calls Tryz.prog 42 #[.agg #[.int .i64 1, .string t, .int .i64 0, .int .i64 0, .int .i64 a, .int .i64 c]] w fun e w' => e = .returned (.bool (decide (t.data.toList ∈ Lx.wds))) ∧ Below w.heap.size w w' := by
  have HW := Lib.hid (fun W (hW : EnvL W) => word_any t W hW)
  have HE := Lib.hid he
  generalize decide (t.data.toList ∈ Lx.wds) = b at *
  clear he
  go_enter Tryz.func42, Tryz.ntmps42
  go_wp2_with fail
  refine (HW.out _ (by exact HE.out.below ((Below.refl _ _).alloc (Nat.le_refl _) _))).mono ?_; rintro e w' ⟨rfl, hb⟩
  have BB := Lib.hid (((Below.refl w.heap.size w).alloc (Nat.le_refl _) _).trans (hb.mono (by simp)))
  clear hb
  go_wp2_with fail
  go_ret
  exact ⟨rfl, BB.out⟩

set_option maxHeartbeats 2000000 in
theorem valid_sign (a c : Int) (t : ByteArray) (w : World) (he : EnvL w) :
    Calls Tryz.prog 42 #[.agg #[.int .i64 4, .string t, .int .i64 0, .int .i64 0, .int .i64 a, .int .i64 c]] w fun e w' => e = .returned (.bool (decide (t.data.toList ∈ Lx.sgs))) ∧ Below w.heap.size w w' := by
  have HW := Lib.hid (fun W (hW : EnvL W) => sign_any t W hW)
  have HE := Lib.hid he
  generalize decide (t.data.toList ∈ Lx.sgs) = b at *
  clear he
  go_enter Tryz.func42, Tryz.ntmps42
  go_wp2_with fail
  refine (HW.out _ (by exact HE.out.below ((Below.refl _ _).alloc (Nat.le_refl _) _))).mono ?_; rintro e w' ⟨rfl, rfl⟩
  go_wp2_with fail
  go_ret
  exact ⟨rfl, (Below.refl _ _).alloc (Nat.le_refl _) _⟩

set_option maxHeartbeats 2000000 in
theorem valid_none (k a c : Int) (t : ByteArray) (w : World) (hk : k ≠ 0 ∧ k ≠ 1 ∧ k ≠ 2 ∧ k ≠ 3 ∧ k ≠ 4) :
    Calls Tryz.prog 42 #[.agg #[.int .i64 k, .string t, .int .i64 0, .int .i64 0, .int .i64 a, .int .i64 c]] w fun e w' => e = .returned (.bool (false)) ∧ Below w.heap.size w w' := by
  have k0 : (k == 0) = false := by simp; omega
  have k1 : (k == 1) = false := by simp; omega
  have k2 : (k == 2) = false := by simp; omega
  have k3 : (k == 3) = false := by simp; omega
  have k4 : (k == 4) = false := by simp; omega
  clear hk
  go_enter Tryz.func42, Tryz.ntmps42
  go_wp2_with fail
  go_ret
  exact ⟨rfl, (Below.refl _ _).alloc (Nat.le_refl _) _⟩


theorem isEmpty_list (t : ByteArray) : t.toList.isEmpty = t.data.toList.isEmpty := by rw [Lib.toList_data]
/-- Valid says what the chapter says, of any token. -/
theorem lvalid_any (k p q a c : Int) (t : ByteArray) (w : World) (he : EnvL w) (h1 : -9223372036854775808 ≤ p) (h2 : p ≤ 9223372036854775807) (h3 : -9223372036854775808 ≤ q) (h4 : q ≤ 9223372036854775807) (_ht : t.size ≤ maxLen) :
    Calls Tryz.prog 42 #[.agg #[.int .i64 k, .string t, .int .i64 p, .int .i64 q, .int .i64 a, .int .i64 c]] w fun e w' => e = .returned (.bool (Lx.vldT k t.data.toList p q)) ∧ Below w.heap.size w w' := by
  have hsz : t.data.toList.length = t.size := Lib.size_eq t
  unfold Lx.vldT
  by_cases k2 : k = 2
  · subst k2; rw [if_pos rfl]
    cases hx : t.data.toList.isEmpty
    · exact valid_num_no p q a c t w (by rw [isEmpty_list]; exact hx)
    · exact valid_num p q a c t w h1 h2 h3 h4 (by rw [isEmpty_list]; exact hx)
  rw [if_neg k2]
  by_cases h0 : p = 0 ∧ q = 0
  case neg => rw [if_pos h0]; exact valid_nz k p q a c t w k2 h0
  rw [if_neg (fun h => h h0)]
  obtain ⟨rfl, rfl⟩ := h0
  by_cases k0 : k = 0
  · subst k0; rw [if_pos rfl]
    cases hx : t.data.toList.isEmpty
    · by_cases hl : t.size ≤ 40
      · have e : (!false && (decide (t.data.toList.length ≤ 40) && Lx.allB Lx.letter t.data.toList)) = Lx.allB Lx.letter t.data.toList := by rw [decide_eq_true (by omega)]; rfl
        rw [e]; exact valid_name a c t w (by rw [isEmpty_list]; exact hx) hl
      · have e : (!false && (decide (t.data.toList.length ≤ 40) && Lx.allB Lx.letter t.data.toList)) = false := by rw [decide_eq_false (by omega)]; rfl
        rw [e]; exact valid_name_l a c t w (by rw [isEmpty_list]; exact hx) (by omega)
    · exact valid_name_e a c t w (by rw [isEmpty_list]; exact hx)
  rw [if_neg k0]
  by_cases k1 : k = 1
  · subst k1; rw [if_pos rfl]; exact valid_word a c t w he
  rw [if_neg k1]
  by_cases k3 : k = 3
  · subst k3; rw [if_pos rfl]
    by_cases hl : t.size ≤ 100
    · rw [decide_eq_true (by omega), Bool.true_and]; exact valid_text a c t w hl
    · rw [decide_eq_false (by omega), Bool.false_and]; exact valid_text_l a c t w (by omega)
  rw [if_neg k3]
  by_cases k4 : k = 4
  · subst k4; rw [if_pos rfl]; exact valid_sign a c t w he
  rw [if_neg k4]
  exact valid_none k a c t w ⟨k0, k1, k2, k3, k4⟩
end Go.Proofs.YtmfbnlaohlnljaaGreatDoor
