/-
  Contracts of the reference of layer 3: tokens that are valid.
-/
import Derived.Test.YtcgiibjkonleeaaGreatDoorLrC
namespace Go.Proofs.YtcgiibjkonleeaaGreatDoor
open Go.RowKit

set_option maxHeartbeats 2000000 in
theorem rv_nz (k p q a c : Int) (t : ByteArray) (w : World) (hk : k ≠ 2) (h0 : ¬ (p = 0 ∧ q = 0)) :
    Calls Tryz.prog 14 #[.agg #[.int .i64 k, .string t, .int .i64 p, .int .i64 q, .int .i64 a, .int .i64 c]] w fun e w' => e = .returned (.bool false) ∧ Below w.heap.size w w' := by
  have k2 : (k == 2) = false := by simpa using hk
  have f2 : (k != 2) = true := by simpa using hk
  clear hk
  by_cases hp : p = 0
  · have hq : (q == 0) = false := by simp; exact fun e => h0 ⟨hp, e⟩
    subst hp
    clear h0
    go_enter Tryz.func14, Tryz.ntmps14
    go_wp2_with fail
    go_ret
    exact ⟨rfl, ((Below.refl _ _).alloc (Nat.le_refl _) _)⟩
  · have hp2 : (p == 0) = false := by simpa using hp
    clear h0 hp
    go_enter Tryz.func14, Tryz.ntmps14
    go_wp2_with fail
    go_ret
    exact ⟨rfl, ((Below.refl _ _).alloc (Nat.le_refl _) _)⟩
set_option maxHeartbeats 2000000 in
theorem rv_num_no (p q a c : Int) (t : ByteArray) (w : World) (h1 : -9223372036854775808 ≤ p) (h2 : p ≤ 9223372036854775807) (h3 : -9223372036854775808 ≤ q) (h4 : q ≤ 9223372036854775807) (hd : Lx.decB p q = false) :
    Calls Tryz.prog 14 #[.agg #[.int .i64 2, .string t, .int .i64 p, .int .i64 q, .int .i64 a, .int .i64 c]] w fun e w' => e = .returned (.bool false) ∧ Below w.heap.size w w' := by
  have HA := Lib.hid (fun W => rdig_any p q W h1 h2 h3 h4)
  rw [hd] at HA
  clear hd
  unfold digV at HA
  simp only [Bool.false_eq_true, if_false] at HA
  go_enter Tryz.func14, Tryz.ntmps14
  go_wp2_with fail
  refine (HA.out _).mono ?_; rintro e w' ⟨rfl, hb⟩; have h2 := (hb.block w.heap.size (by simp)).trans (heap_alloc_new w _); have BB := Lib.hid (((Below.refl w.heap.size w).alloc (Nat.le_refl _) (.cells #[.int .i64 2, .string t, .int .i64 p, .int .i64 q, .int .i64 a, .int .i64 c] 38)).trans (hb.mono (by simp))); obtain ⟨⟨z0, z1, z2, z3, z4, z5⟩, -, hlt⟩ := blk6 h2; clear hb h2
  go_wp2_with fail
  go_ret
  exact ⟨rfl, BB.out⟩
set_option maxHeartbeats 2000000 in
theorem rv_num_yes (p q a c : Int) (t : ByteArray) (w : World) (h1 : -9223372036854775808 ≤ p) (h2 : p ≤ 9223372036854775807) (h3 : -9223372036854775808 ≤ q) (h4 : q ≤ 9223372036854775807) (hd : Lx.decB p q = true) (ht : t.toList.isEmpty = true) :
    Calls Tryz.prog 14 #[.agg #[.int .i64 2, .string t, .int .i64 p, .int .i64 q, .int .i64 a, .int .i64 c]] w fun e w' => e = .returned (.bool true) ∧ Below w.heap.size w w' := by
  have HA := Lib.hid (fun W => rdig_any p q W h1 h2 h3 h4)
  rw [hd, if_pos rfl] at HA
  clear hd
  unfold digV at HA
  generalize Lx.spellN p q = S at HA
  go_enter Tryz.func14, Tryz.ntmps14
  go_wp2_with fail
  refine (HA.out _).mono ?_; rintro e w' ⟨rfl, hb⟩; have h2 := (hb.block w.heap.size (by simp)).trans (heap_alloc_new w _); have BB := Lib.hid (((Below.refl w.heap.size w).alloc (Nat.le_refl _) (.cells #[.int .i64 2, .string t, .int .i64 p, .int .i64 q, .int .i64 a, .int .i64 c] 38)).trans (hb.mono (by simp))); obtain ⟨⟨z0, z1, z2, z3, z4, z5⟩, -, hlt⟩ := blk6 h2; clear hb h2
  go_wp2_with fail
  go_ret
  exact ⟨rfl, BB.out⟩
set_option maxHeartbeats 2000000 in
theorem rv_num_full (p q a c : Int) (t : ByteArray) (w : World) (h1 : -9223372036854775808 ≤ p) (h2 : p ≤ 9223372036854775807) (h3 : -9223372036854775808 ≤ q) (h4 : q ≤ 9223372036854775807) (hd : Lx.decB p q = true) (ht : t.toList.isEmpty = false) :
    Calls Tryz.prog 14 #[.agg #[.int .i64 2, .string t, .int .i64 p, .int .i64 q, .int .i64 a, .int .i64 c]] w fun e w' => e = .returned (.bool false) ∧ Below w.heap.size w w' := by
  have HA := Lib.hid (fun W => rdig_any p q W h1 h2 h3 h4)
  rw [hd, if_pos rfl] at HA
  clear hd
  unfold digV at HA
  generalize Lx.spellN p q = S at HA
  go_enter Tryz.func14, Tryz.ntmps14
  go_wp2_with fail
  refine (HA.out _).mono ?_; rintro e w' ⟨rfl, hb⟩; have h2 := (hb.block w.heap.size (by simp)).trans (heap_alloc_new w _); have BB := Lib.hid (((Below.refl w.heap.size w).alloc (Nat.le_refl _) (.cells #[.int .i64 2, .string t, .int .i64 p, .int .i64 q, .int .i64 a, .int .i64 c] 38)).trans (hb.mono (by simp))); obtain ⟨⟨z0, z1, z2, z3, z4, z5⟩, -, hlt⟩ := blk6 h2; clear hb h2
  go_wp2_with fail
  go_ret
  exact ⟨rfl, BB.out⟩
set_option maxHeartbeats 2000000 in
theorem rv_name (a c : Int) (t : ByteArray) (w : World) (ht : t.size ≤ maxLen) :
    Calls Tryz.prog 14 #[.agg #[.int .i64 0, .string t, .int .i64 0, .int .i64 0, .int .i64 a, .int .i64 c]] w fun e w' => e = .returned (.bool (Lx.nameB t.data.toList)) ∧ Below w.heap.size w w' := by
  have HA := Lib.hid (fun W => rname_any t W ht)
  generalize Lx.nameB t.data.toList = b at *
  go_enter Tryz.func14, Tryz.ntmps14
  go_wp2_with fail
  refine (HA.out _).mono ?_; rintro e w' ⟨rfl, rfl⟩
  go_wp2_with fail
  go_ret
  exact ⟨rfl, ((Below.refl _ _).alloc (Nat.le_refl _) _)⟩
set_option maxHeartbeats 2000000 in
theorem rv_word (a c : Int) (t : ByteArray) (w : World) :
    Calls Tryz.prog 14 #[.agg #[.int .i64 1, .string t, .int .i64 0, .int .i64 0, .int .i64 a, .int .i64 c]] w fun e w' => e = .returned (.bool (decide (t.data.toList ∈ Lx.wds))) ∧ Below w.heap.size w w' := by
  have HA := Lib.hid (fun W => rword_any t W)
  generalize decide (t.data.toList ∈ Lx.wds) = b at *
  go_enter Tryz.func14, Tryz.ntmps14
  go_wp2_with fail
  refine (HA.out _).mono ?_; rintro e w' ⟨rfl, hb⟩; have h2 := (hb.block w.heap.size (by simp)).trans (heap_alloc_new w _); have BB := Lib.hid (((Below.refl w.heap.size w).alloc (Nat.le_refl _) (.cells #[.int .i64 1, .string t, .int .i64 0, .int .i64 0, .int .i64 a, .int .i64 c] 38)).trans (hb.mono (by simp))); obtain ⟨⟨z0, z1, z2, z3, z4, z5⟩, -, hlt⟩ := blk6 h2; clear hb h2
  clear z0 z1 z2 z3 z4 z5
  go_wp2_with fail
  go_ret
  exact ⟨rfl, BB.out⟩
set_option maxHeartbeats 2000000 in
theorem rv_sign (a c : Int) (t : ByteArray) (w : World) :
    Calls Tryz.prog 14 #[.agg #[.int .i64 4, .string t, .int .i64 0, .int .i64 0, .int .i64 a, .int .i64 c]] w fun e w' => e = .returned (.bool (decide (t.data.toList ∈ Lx.sgs))) ∧ Below w.heap.size w w' := by
  have HA := Lib.hid (fun W => rsign_any t W)
  generalize decide (t.data.toList ∈ Lx.sgs) = b at *
  go_enter Tryz.func14, Tryz.ntmps14
  go_wp2_with fail
  refine (HA.out _).mono ?_; rintro e w' ⟨rfl, hb⟩; have h2 := (hb.block w.heap.size (by simp)).trans (heap_alloc_new w _); have BB := Lib.hid (((Below.refl w.heap.size w).alloc (Nat.le_refl _) (.cells #[.int .i64 4, .string t, .int .i64 0, .int .i64 0, .int .i64 a, .int .i64 c] 38)).trans (hb.mono (by simp))); obtain ⟨⟨z0, z1, z2, z3, z4, z5⟩, -, hlt⟩ := blk6 h2; clear hb h2
  clear z0 z1 z2 z3 z4 z5
  go_wp2_with fail
  go_ret
  exact ⟨rfl, BB.out⟩
set_option maxHeartbeats 2000000 in
theorem rv_text (a c : Int) (t : ByteArray) (w : World) (hl : t.size ≤ 100) :
    Calls Tryz.prog 14 #[.agg #[.int .i64 3, .string t, .int .i64 0, .int .i64 0, .int .i64 a, .int .i64 c]] w fun e w' => e = .returned (.bool (Lx.allB Lx.quot t.data.toList)) ∧ Below w.heap.size w w' := by
  have HA := Lib.hid (fun W => rplain_any t W (by unfold maxLen; omega))
  generalize Lx.allB Lx.quot t.data.toList = b at *
  go_enter Tryz.func14, Tryz.ntmps14
  go_wp2_with fail
  refine (HA.out _).mono ?_; rintro e w' ⟨rfl, rfl⟩
  go_wp2_with fail
  go_ret
  exact ⟨rfl, ((Below.refl _ _).alloc (Nat.le_refl _) _)⟩
set_option maxHeartbeats 2000000 in
theorem rv_text_l (a c : Int) (t : ByteArray) (w : World) (hl : 100 < t.size) :
    Calls Tryz.prog 14 #[.agg #[.int .i64 3, .string t, .int .i64 0, .int .i64 0, .int .i64 a, .int .i64 c]] w fun e w' => e = .returned (.bool false) ∧ Below w.heap.size w w' := by
  go_enter Tryz.func14, Tryz.ntmps14
  go_wp2_with fail
  go_ret
  exact ⟨rfl, ((Below.refl _ _).alloc (Nat.le_refl _) _)⟩
set_option maxHeartbeats 2000000 in
theorem rv_none (k a c : Int) (t : ByteArray) (w : World) (hk : k ≠ 0 ∧ k ≠ 1 ∧ k ≠ 2 ∧ k ≠ 3 ∧ k ≠ 4) :
    Calls Tryz.prog 14 #[.agg #[.int .i64 k, .string t, .int .i64 0, .int .i64 0, .int .i64 a, .int .i64 c]] w fun e w' => e = .returned (.bool false) ∧ Below w.heap.size w w' := by
  have k0 : (k == 0) = false := by simp; omega
  have k1 : (k == 1) = false := by simp; omega
  have k2 : (k == 2) = false := by simp; omega
  have f2 : (k != 2) = true := by simp; omega
  have k3 : (k == 3) = false := by simp; omega
  have k4 : (k == 4) = false := by simp; omega
  clear hk
  go_enter Tryz.func14, Tryz.ntmps14
  go_wp2_with fail
  go_ret
  exact ⟨rfl, ((Below.refl _ _).alloc (Nat.le_refl _) _)⟩
/-- The reference's Valid says the same. -/
theorem rvalidT_any (k p q a c : Int) (t : ByteArray) (w : World) (h1 : -9223372036854775808 ≤ p) (h2 : p ≤ 9223372036854775807) (h3 : -9223372036854775808 ≤ q) (h4 : q ≤ 9223372036854775807) (ht : t.size ≤ maxLen) :
    Calls Tryz.prog 14 #[.agg #[.int .i64 k, .string t, .int .i64 p, .int .i64 q, .int .i64 a, .int .i64 c]] w fun e w' => e = .returned (.bool (Lx.vldT k t.data.toList p q)) ∧ Below w.heap.size w w' := by
  have hsz : t.data.toList.length = t.size := Lib.size_eq t
  unfold Lx.vldT
  by_cases k2 : k = 2
  · subst k2; rw [if_pos rfl]
    cases hd : Lx.decB p q
    · rw [Bool.and_false]; exact rv_num_no p q a c t w h1 h2 h3 h4 hd
    · rw [Bool.and_true]
      cases hx : t.data.toList.isEmpty
      · exact rv_num_full p q a c t w h1 h2 h3 h4 hd (by rw [isEmpty_list]; exact hx)
      · exact rv_num_yes p q a c t w h1 h2 h3 h4 hd (by rw [isEmpty_list]; exact hx)
  rw [if_neg k2]
  by_cases h0 : p = 0 ∧ q = 0
  case neg => rw [if_pos h0]; exact rv_nz k p q a c t w k2 h0
  rw [if_neg (fun h => h h0)]
  obtain ⟨rfl, rfl⟩ := h0
  by_cases k0 : k = 0
  · subst k0; rw [if_pos rfl]; exact rv_name a c t w ht
  rw [if_neg k0]
  by_cases k1 : k = 1
  · subst k1; rw [if_pos rfl]; exact rv_word a c t w
  rw [if_neg k1]
  by_cases k3 : k = 3
  · subst k3; rw [if_pos rfl, hsz]
    by_cases hl : t.size ≤ 100
    · rw [decide_eq_true hl, Bool.true_and]; exact rv_text a c t w hl
    · rw [decide_eq_false hl, Bool.false_and]; exact rv_text_l a c t w (by omega)
  rw [if_neg k3]
  by_cases k4 : k = 4
  · subst k4; rw [if_pos rfl]; exact rv_sign a c t w
  rw [if_neg k4]
  exact rv_none k a c t w ⟨k0, k1, k2, k3, k4⟩
end Go.Proofs.YtcgiibjkonleeaaGreatDoor
