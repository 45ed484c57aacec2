/-
  Contracts of package lex: numbers in decimals; tokens that are valid.
-/
import Derived.Test.YtmfbnlaohlnljaaGreatDoorLxK
import Derived.Test.YtmfbnlaohlnljaaGreatDoorLxJ
import Derived.WalkLawsBesides
namespace Go.Proofs.YtmfbnlaohlnljaaGreatDoor
open Go.RowKit

namespace Lx
/-- Is it a number in decimals? -/
def decB (p q : Int) : Bool := Nm.vld p q && (decide (0 ≤ p) && (decide (p / q < 1000000000) && decide (100000 % q = 0)))
/-- Is it a valid token? -/
def vldT (k : Int) (t : List UInt8) (p q : Int) : Bool :=
  if k = 2 then t.isEmpty && decB p q
  else if ¬ (p = 0 ∧ q = 0) then false
  else if k = 0 then !t.isEmpty && (decide (t.length ≤ 40) && allB letter t)
  else if k = 1 then decide (t ∈ wds)
  else if k = 3 then decide (t.length ≤ 100) && allB quot t
  else if k = 4 then decide (t ∈ sgs)
  else false
end Lx

theorem vld_pos {p q : Int} (h : Nm.vld p q = true) : 1 ≤ q ∧ q ≤ 2147483647 ∧ -2147483647 ≤ p ∧ p ≤ 2147483647 := by
  unfold Nm.vld at h; simp only [decide_eq_true_eq] at h; exact ⟨h.1, h.2.1, h.2.2.1, h.2.2.2.1⟩

set_option maxHeartbeats 2000000 in
theorem decimal_no (p q : Int) (w : World) (h1 : -9223372036854775808 ≤ p) (h2 : p ≤ 9223372036854775807) (h3 : -9223372036854775808 ≤ q) (h4 : q ≤ 9223372036854775807) (hv : Nm.vld p q = false) :
    Calls Tryz.prog 76 #[.agg #[.int .i64 p, .int .i64 q]] w fun e w' => e = .returned (.bool false) ∧ Below w.heap.size w w' := by
  have HV := Lib.hid (fun W => valid_any p q W h1 h2 h3 h4)
  rw [hv] at HV
  clear hv
  go_enter Tryz.func76, Tryz.ntmps76
  go_wp2_with fail
  refine (HV.out _).mono ?_; rintro e w' ⟨rfl, hb⟩
  have hB := ((Below.refl w.heap.size w).alloc (Nat.le_refl _) _).trans (hb.mono (by simp))
  have BB := Lib.hid hB
  clear hb hB
  go_wp2_with fail
  go_ret
  exact ⟨rfl, BB.out⟩

theorem blk2 {w : World} {b : Nat} {t : TypeId} {c0 c1 : Value} (h : w.heap[b]? = some (.cells #[c0, c1] t (0, 0))) :
    (w.cell? ⟨b, 0, none⟩ = some c0 ∧ w.cell? ⟨b, 1, none⟩ = some c1) ∧ b < w.heap.size :=
  ⟨⟨cell_of_row w b 0 _ _ _ h, cell_of_row w b 1 _ _ _ h⟩, (Array.getElem?_eq_some_iff.1 h).1⟩

set_option maxHeartbeats 4000000 in
theorem decimal_yes (p q : Int) (w : World) (hv : Nm.vld p q = true) :
    Calls Tryz.prog 76 #[.agg #[.int .i64 p, .int .i64 q]] w fun e w' => e = .returned (.bool (Lx.decB p q)) ∧ Below w.heap.size w w' := by
  obtain ⟨q1, q2, p1, p2⟩ := vld_pos hv
  have HV := Lib.hid (fun W => valid_any p q W (by omega) (by omega) (by omega) (by omega))
  obtain ⟨b, hb⟩ : ∃ b, b = Lx.decB p q := ⟨_, rfl⟩
  rw [← hb]
  unfold Lx.decB at hb
  rw [hv] at HV hb
  clear hv
  have hpq : 0 ≤ p → 0 ≤ p / q ∧ p / q ≤ p := fun h => ⟨Int.ediv_nonneg h (by omega), Int.ediv_le_self q h⟩
  have hmq : 0 ≤ 100000 % q ∧ 100000 % q < q := ⟨Int.emod_nonneg _ (by omega), Int.emod_lt_of_pos _ (by omega)⟩
  by_cases a1 : 0 ≤ p
  · obtain ⟨e1, e2⟩ := hpq a1
    have d1 : decide (0 ≤ p) = true := decide_eq_true a1
    by_cases a2 : p / q < 1000000000
    · by_cases a3 : 100000 % q = 0
      · obtain rfl : b = true := by rw [hb]; simp [a1, a2, a3]
        have d3 : ((100000 % q) == 0) = true := by simpa using a3
        have HA := Lib.hid a3
        clear a3 hb hpq
        go_enter Tryz.func76, Tryz.ntmps76
        go_wp2_with fail
        refine (HV.out _).mono ?_; rintro e w' ⟨rfl, hb⟩
        have h2 := (hb.block w.heap.size (by simp)).trans (heap_alloc_new w _)
        have BB := Lib.hid (((Below.refl w.heap.size w).alloc (Nat.le_refl _) (.cells #[.int .i64 p, .int .i64 q] 41)).trans (hb.mono (by simp)))
        obtain ⟨⟨z0, z1⟩, hlt⟩ := blk2 h2
        clear hb h2
        go_wp2_with fail
        go_ret
        exact ⟨rfl, BB.out⟩
      · obtain rfl : b = false := by rw [hb]; simp [a1, a2, a3]
        have d3 : ((100000 % q) == 0) = false := by simpa using a3
        clear a3 hb hpq
        go_enter Tryz.func76, Tryz.ntmps76
        go_wp2_with fail
        refine (HV.out _).mono ?_; rintro e w' ⟨rfl, hb⟩
        have h2 := (hb.block w.heap.size (by simp)).trans (heap_alloc_new w _)
        have BB := Lib.hid (((Below.refl w.heap.size w).alloc (Nat.le_refl _) (.cells #[.int .i64 p, .int .i64 q] 41)).trans (hb.mono (by simp)))
        obtain ⟨⟨z0, z1⟩, hlt⟩ := blk2 h2
        clear hb h2
        go_wp2_with fail
        go_ret
        exact ⟨rfl, BB.out⟩
    · obtain rfl : b = false := by rw [hb]; simp [a1, a2]
      have d2 : decide (p / q < 1000000000) = false := decide_eq_false a2
      clear hb hpq
      go_enter Tryz.func76, Tryz.ntmps76
      go_wp2_with fail
      refine (HV.out _).mono ?_; rintro e w' ⟨rfl, hb⟩
      have h2 := (hb.block w.heap.size (by simp)).trans (heap_alloc_new w _)
      have BB := Lib.hid (((Below.refl w.heap.size w).alloc (Nat.le_refl _) (.cells #[.int .i64 p, .int .i64 q] 41)).trans (hb.mono (by simp)))
      obtain ⟨⟨z0, z1⟩, hlt⟩ := blk2 h2
      clear hb h2
      go_wp2_with fail
      go_ret
      exact ⟨rfl, BB.out⟩
  · obtain rfl : b = false := by rw [hb]; simp [a1]
    have d1 : decide (0 ≤ p) = false := decide_eq_false a1
    clear hb hpq
    go_enter Tryz.func76, Tryz.ntmps76
    go_wp2_with fail
    refine (HV.out _).mono ?_; rintro e w' ⟨rfl, hb⟩
    have h2 := (hb.block w.heap.size (by simp)).trans (heap_alloc_new w _)
    have BB := Lib.hid (((Below.refl w.heap.size w).alloc (Nat.le_refl _) (.cells #[.int .i64 p, .int .i64 q] 41)).trans (hb.mono (by simp)))
    obtain ⟨⟨z0, z1⟩, hlt⟩ := blk2 h2
    clear hb h2
    go_wp2_with fail
    go_ret
    exact ⟨rfl, BB.out⟩
theorem decimal_b (p q : Int) (w : World) (h1 : -9223372036854775808 ≤ p) (h2 : p ≤ 9223372036854775807) (h3 : -9223372036854775808 ≤ q) (h4 : q ≤ 9223372036854775807) :
    Calls Tryz.prog 76 #[.agg #[.int .i64 p, .int .i64 q]] w fun e w' => e = .returned (.bool (Lx.decB p q)) ∧ Below w.heap.size w w' := by
  cases hv : Nm.vld p q
  · have e : Lx.decB p q = false := by unfold Lx.decB; rw [hv]; rfl
    rw [e]; exact decimal_no p q w h1 h2 h3 h4 hv
  · exact decimal_yes p q w hv
end Go.Proofs.YtmfbnlaohlnljaaGreatDoor
