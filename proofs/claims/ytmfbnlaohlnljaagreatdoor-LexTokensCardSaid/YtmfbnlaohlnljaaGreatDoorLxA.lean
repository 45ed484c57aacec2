/-
  Contracts of package lex: what bytes fit, runs of bytes.
-/
import Derived.Test.YtmfbnlaohlnljaaGreatDoorDec3
import Derived.Test.YtmfbnlaohlnljaaGreatDoorLxM2
namespace Go.Proofs.YtmfbnlaohlnljaaGreatDoor
open Go.RowKit

theorem u8_ne {a : Nat} {b : Int} (h : (a : Int) ≠ b) : ((a : Int) == b) = false := by simpa using h
theorem letter_eq (c : UInt8) : Lx.letter c = (decide (97 ≤ c.toNat ∧ c.toNat ≤ 122) || decide (65 ≤ c.toNat ∧ c.toNat ≤ 90) || decide (c.toNat = 95)) := by
  have : (c == 95) = decide (c.toNat = 95) := by rw [Bool.eq_iff_iff]; simp [← UInt8.toNat_inj]
  simp [Lx.letter, this]
theorem digit_eq (c : UInt8) : Lx.digit c = decide (48 ≤ c.toNat ∧ c.toNat ≤ 57) := by simp [Lx.digit]
theorem u8_eqb (c : UInt8) (n : Nat) (hn : n < 256) : (c == UInt8.ofNat n) = decide (c.toNat = n) := by
  rw [Bool.eq_iff_iff]; simp only [beq_iff_eq, decide_eq_true_eq, ← UInt8.toNat_inj, UInt8.toNat_ofNat']; omega
theorem blank_eq (c : UInt8) : Lx.blank c = decide (c.toNat = 32 ∨ c.toNat = 9 ∨ c.toNat = 10 ∨ c.toNat = 13) := by
  have h1 := u8_eqb c 32 (by omega); have h2 := u8_eqb c 9 (by omega); have h3 := u8_eqb c 10 (by omega); have h4 := u8_eqb c 13 (by omega)
  simp only [Lx.blank, show (32 : UInt8) = UInt8.ofNat 32 from rfl, show (9 : UInt8) = UInt8.ofNat 9 from rfl, show (10 : UInt8) = UInt8.ofNat 10 from rfl, show (13 : UInt8) = UInt8.ofNat 13 from rfl, h1, h2, h3, h4]
  rw [Bool.eq_iff_iff]; simp only [Bool.or_eq_true, decide_eq_true_eq]; omega
theorem quot_eq (c : UInt8) : Lx.quot c = decide (32 ≤ c.toNat ∧ c.toNat ≤ 126 ∧ c.toNat ≠ 34) := by
  have h1 := u8_eqb c 34 (by omega)
  simp only [Lx.quot, bne, show (34 : UInt8) = UInt8.ofNat 34 from rfl, h1]
  rw [Bool.eq_iff_iff]; simp only [Bool.and_eq_true, decide_eq_true_eq, Bool.not_eq_true', decide_eq_false_iff_not]; omega

set_option maxHeartbeats 1000000 in
theorem letter_any (c : UInt8) (w : World) : Calls Tryz.prog 78 #[.int .u8 (c.toNat : Int)] w fun e w' => e = .returned (.bool (Lx.letter c)) ∧ w = w' := by
  have hc := c.toNat_lt
  obtain ⟨b, hb⟩ : ∃ b, b = Lx.letter c := ⟨_, rfl⟩
  rw [← hb]
  rw [letter_eq] at hb
  generalize c.toNat = n at hc hb
  by_cases h95 : n = 95
  · obtain rfl : b = true := by rw [hb]; simp; omega
    clear hb
    subst h95
    go_enter Tryz.func78, Tryz.ntmps78
    go_wp2
    go_ret
    first | exact ⟨rfl, rfl⟩ | exact ⟨by simp; omega, rfl⟩
  have e95 : ((n : Int) == 95) = false := u8_ne (by omega)
  have f95 : ((n : Int) != 95) = true := by simp; omega
  rcases (show (n < 65) ∨ (65 ≤ n ∧ n ≤ 90) ∨ (91 ≤ n ∧ n < 97) ∨ (97 ≤ n ∧ n ≤ 122) ∨ (122 < n) by omega) with k1 | ⟨k1, k2⟩ | ⟨k1, k2⟩ | ⟨k1, k2⟩ | k1
  · obtain rfl : b = false := by rw [hb]; simp; omega
    clear hb
    go_enter Tryz.func78, Tryz.ntmps78
    go_wp2
    go_ret
    first | exact ⟨rfl, rfl⟩ | exact ⟨by simp; omega, rfl⟩
  · obtain rfl : b = true := by rw [hb]; simp; omega
    clear hb
    go_enter Tryz.func78, Tryz.ntmps78
    go_wp2
    go_ret
    first | exact ⟨rfl, rfl⟩ | exact ⟨by simp; omega, rfl⟩
  · obtain rfl : b = false := by rw [hb]; simp; omega
    clear hb
    go_enter Tryz.func78, Tryz.ntmps78
    go_wp2
    go_ret
    first | exact ⟨rfl, rfl⟩ | exact ⟨by simp; omega, rfl⟩
  · obtain rfl : b = true := by rw [hb]; simp; omega
    clear hb
    go_enter Tryz.func78, Tryz.ntmps78
    go_wp2
    go_ret
    first | exact ⟨rfl, rfl⟩ | exact ⟨by simp; omega, rfl⟩
  · obtain rfl : b = false := by rw [hb]; simp; omega
    clear hb
    go_enter Tryz.func78, Tryz.ntmps78
    go_wp2
    go_ret
    first | exact ⟨rfl, rfl⟩ | exact ⟨by simp; omega, rfl⟩

set_option maxHeartbeats 1000000 in
theorem digit_any (c : UInt8) (w : World) : Calls Tryz.prog 124 #[.int .u8 (c.toNat : Int)] w fun e w' => e = .returned (.bool (Lx.digit c)) ∧ w = w' := by
  have hc := c.toNat_lt
  obtain ⟨b, hb⟩ : ∃ b, b = Lx.digit c := ⟨_, rfl⟩
  rw [← hb]
  rw [digit_eq] at hb
  generalize c.toNat = n at hc hb
  rcases (show (n < 48) ∨ (48 ≤ n ∧ n ≤ 57) ∨ (57 < n) by omega) with k1 | ⟨k1, k2⟩ | k1
  · obtain rfl : b = false := by rw [hb]; simp; omega
    clear hb
    go_enter Tryz.func124, Tryz.ntmps124
    go_wp2
    go_ret
    first | exact ⟨rfl, rfl⟩ | exact ⟨by simp; omega, rfl⟩
  · obtain rfl : b = true := by rw [hb]; simp; omega
    clear hb
    go_enter Tryz.func124, Tryz.ntmps124
    go_wp2
    go_ret
    first | exact ⟨rfl, rfl⟩ | exact ⟨by simp; omega, rfl⟩
  · obtain rfl : b = false := by rw [hb]; simp; omega
    clear hb
    go_enter Tryz.func124, Tryz.ntmps124
    go_wp2
    go_ret
    first | exact ⟨rfl, rfl⟩ | exact ⟨by simp; omega, rfl⟩

set_option maxHeartbeats 1000000 in
theorem blank_any (c : UInt8) (w : World) : Calls Tryz.prog 52 #[.int .u8 (c.toNat : Int)] w fun e w' => e = .returned (.bool (Lx.blank c)) ∧ w = w' := by
  have hc := c.toNat_lt
  obtain ⟨b, hb⟩ : ∃ b, b = Lx.blank c := ⟨_, rfl⟩
  rw [← hb]
  rw [blank_eq] at hb
  generalize c.toNat = n at hc hb
  by_cases h32 : n = 32
  · obtain rfl : b = true := by rw [hb]; simp; omega
    clear hb
    subst h32
    go_enter Tryz.func52, Tryz.ntmps52
    go_wp2
    go_ret
    first | exact ⟨rfl, rfl⟩ | exact ⟨by simp; omega, rfl⟩
  have e32 : ((n : Int) == 32) = false := u8_ne (by omega)
  have f32 : ((n : Int) != 32) = true := by simp; omega
  by_cases h9 : n = 9
  · obtain rfl : b = true := by rw [hb]; simp; omega
    clear hb
    subst h9
    go_enter Tryz.func52, Tryz.ntmps52
    go_wp2
    go_ret
    first | exact ⟨rfl, rfl⟩ | exact ⟨by simp; omega, rfl⟩
  have e9 : ((n : Int) == 9) = false := u8_ne (by omega)
  have f9 : ((n : Int) != 9) = true := by simp; omega
  by_cases h10 : n = 10
  · obtain rfl : b = true := by rw [hb]; simp; omega
    clear hb
    subst h10
    go_enter Tryz.func52, Tryz.ntmps52
    go_wp2
    go_ret
    first | exact ⟨rfl, rfl⟩ | exact ⟨by simp; omega, rfl⟩
  have e10 : ((n : Int) == 10) = false := u8_ne (by omega)
  have f10 : ((n : Int) != 10) = true := by simp; omega
  by_cases h13 : n = 13
  · obtain rfl : b = true := by rw [hb]; simp; omega
    clear hb
    subst h13
    go_enter Tryz.func52, Tryz.ntmps52
    go_wp2
    go_ret
    first | exact ⟨rfl, rfl⟩ | exact ⟨by simp; omega, rfl⟩
  have e13 : ((n : Int) == 13) = false := u8_ne (by omega)
  have f13 : ((n : Int) != 13) = true := by simp; omega
  obtain rfl : b = false := by rw [hb]; simp; omega
  clear hb
  go_enter Tryz.func52, Tryz.ntmps52
  go_wp2
  go_ret
  first | exact ⟨rfl, rfl⟩ | exact ⟨by simp; omega, rfl⟩

set_option maxHeartbeats 1000000 in
theorem quotable_any (c : UInt8) (w : World) : Calls Tryz.prog 79 #[.int .u8 (c.toNat : Int)] w fun e w' => e = .returned (.bool (Lx.quot c)) ∧ w = w' := by
  have hc := c.toNat_lt
  obtain ⟨b, hb⟩ : ∃ b, b = Lx.quot c := ⟨_, rfl⟩
  rw [← hb]
  rw [quot_eq] at hb
  generalize c.toNat = n at hc hb
  by_cases h34 : n = 34
  · obtain rfl : b = false := by rw [hb]; simp; omega
    clear hb
    subst h34
    go_enter Tryz.func79, Tryz.ntmps79
    go_wp2
    go_ret
    first | exact ⟨rfl, rfl⟩ | exact ⟨by simp; omega, rfl⟩
  have e34 : ((n : Int) == 34) = false := u8_ne (by omega)
  have f34 : ((n : Int) != 34) = true := by simp; omega
  rcases (show (n < 32) ∨ (32 ≤ n ∧ n ≤ 126) ∨ (126 < n) by omega) with k1 | ⟨k1, k2⟩ | k1
  · obtain rfl : b = false := by rw [hb]; simp; omega
    clear hb
    go_enter Tryz.func79, Tryz.ntmps79
    go_wp2
    go_ret
    first | exact ⟨rfl, rfl⟩ | exact ⟨by simp; omega, rfl⟩
  · obtain rfl : b = true := by rw [hb]; simp; omega
    clear hb
    go_enter Tryz.func79, Tryz.ntmps79
    go_wp2
    go_ret
    first | exact ⟨rfl, rfl⟩ | exact ⟨by simp; omega, rfl⟩
  · obtain rfl : b = false := by rw [hb]; simp; omega
    clear hb
    go_enter Tryz.func79, Tryz.ntmps79
    go_wp2
    go_ret
    first | exact ⟨rfl, rfl⟩ | exact ⟨by simp; omega, rfl⟩

end Go.Proofs.YtmfbnlaohlnljaaGreatDoor
