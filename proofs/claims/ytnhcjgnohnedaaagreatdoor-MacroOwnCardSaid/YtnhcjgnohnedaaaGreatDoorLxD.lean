/-
  Contracts of package lex: what bytes fit, runs of bytes.
  Contracts of package lex: runs of bytes that fit.
  Contracts of package lex: the reader goes past bytes.
  Contracts of package lex: the reader goes past blanks and comments.
-/
import Derived.Test.YtnhcjgnohnedaaaGreatDoorLxM2
import Derived.Deep.LoopGhost
namespace Go.Proofs.YtnhcjgnohnedaaaGreatDoor
open Go.RowKit

theorem u8_ne {a : Nat} {b : Int} (h : (a : Int) ≠ b) : ((a : Int) == b) = false := by simpa using h
theorem letter_eq (c : UInt8) : Lx.letter c = (decide (97 ≤ c.toNat ∧ c.toNat ≤ 122) || decide (65 ≤ c.toNat ∧ c.toNat ≤ 90) || decide (c.toNat = 95)) := by
  have : (c == 95) = decide (c.toNat = 95) := by rw [Bool.eq_iff_iff]; simp [← UInt8.toNat_inj]
  simp [Lx.letter, this]
theorem digit_eq (c : UInt8) : Lx.digit c = decide (48 ≤ c.toNat ∧ c.toNat ≤ 57) := by simp [Lx.digit]
theorem u8_eqb (c : UInt8) (n : Nat) (hn : n < 256) : (c == UInt8.ofNat n) = decide (c.toNat = n) := by
  rw [Bool.eq_iff_iff]; simp only [beq_iff_eq, decide_eq_true_eq, ← UInt8.toNat_inj, UInt8.toNat_ofNat']; omega
theorem blank_eq (c : UInt8) : Lx.blank c = decide (c.toNat = 32 ∨ c.toNat = 9 ∨ c.toNat = 10 ∨ c.toNat = 13) := by
  have h1 := u8_eqb c 32 (by omega); have h2 := u8_eqb c 9 (by omega); have h3 := u8_eqb c 10 (by omega); have h4 := u8_eqb c 13 (by omega)
  simp only [Lx.blank, show (32 : UInt8) = UInt8.ofNat 32 from rfl, show (9 : UInt8) = UInt8.ofNat 9 from rfl, show (10 : UInt8) = UInt8.ofNat 10 from rfl, show (13 : UInt8) = UInt8.ofNat 13 from rfl, h1, h2, h3, h4]
  rw [Bool.eq_iff_iff]; simp only [Bool.or_eq_true, decide_eq_true_eq]; omega
theorem quot_eq (c : UInt8) : Lx.quot c = decide (32 ≤ c.toNat ∧ c.toNat ≤ 126 ∧ c.toNat ≠ 34) := by
  have h1 := u8_eqb c 34 (by omega)
  simp only [Lx.quot, bne, show (34 : UInt8) = UInt8.ofNat 34 from rfl, h1]
  rw [Bool.eq_iff_iff]; simp only [Bool.and_eq_true, decide_eq_true_eq, Bool.not_eq_true', decide_eq_false_iff_not]; omega

set_option maxHeartbeats 1000000 in
theorem letter_any (c : UInt8) (w : World) : Calls Tryz.prog 77 #[.int .u8 (c.toNat : Int)] w fun e w' => e = .returned (.bool (Lx.letter c)) ∧ w = w' := by
  have hc := c.toNat_lt
  obtain ⟨b, hb⟩ : ∃ b, b = Lx.letter c := ⟨_, rfl⟩
  rw [← hb]
  rw [letter_eq] at hb
  generalize c.toNat = n at hc hb
  by_cases h95 : n = 95
  · obtain rfl : b = true := by rw [hb]; simp; omega
    clear hb
    subst h95
    go_enter Tryz.func77, Tryz.ntmps77
    go_wp2
    go_ret
    first | exact ⟨rfl, rfl⟩ | exact ⟨by simp; omega, rfl⟩
  have e95 : ((n : Int) == 95) = false := u8_ne (by omega)
  have f95 : ((n : Int) != 95) = true := by simp; omega
  rcases (show (n < 65) ∨ (65 ≤ n ∧ n ≤ 90) ∨ (91 ≤ n ∧ n < 97) ∨ (97 ≤ n ∧ n ≤ 122) ∨ (122 < n) by omega) with k1 | ⟨k1, k2⟩ | ⟨k1, k2⟩ | ⟨k1, k2⟩ | k1
  · obtain rfl : b = false := by rw [hb]; simp; omega
    clear hb
    go_enter Tryz.func77, Tryz.ntmps77
    go_wp2
    go_ret
    first | exact ⟨rfl, rfl⟩ | exact ⟨by simp; omega, rfl⟩
  · obtain rfl : b = true := by rw [hb]; simp; omega
    clear hb
    go_enter Tryz.func77, Tryz.ntmps77
    go_wp2
    go_ret
    first | exact ⟨rfl, rfl⟩ | exact ⟨by simp; omega, rfl⟩
  · obtain rfl : b = false := by rw [hb]; simp; omega
    clear hb
    go_enter Tryz.func77, Tryz.ntmps77
    go_wp2
    go_ret
    first | exact ⟨rfl, rfl⟩ | exact ⟨by simp; omega, rfl⟩
  · obtain rfl : b = true := by rw [hb]; simp; omega
    clear hb
    go_enter Tryz.func77, Tryz.ntmps77
    go_wp2
    go_ret
    first | exact ⟨rfl, rfl⟩ | exact ⟨by simp; omega, rfl⟩
  · obtain rfl : b = false := by rw [hb]; simp; omega
    clear hb
    go_enter Tryz.func77, Tryz.ntmps77
    go_wp2
    go_ret
    first | exact ⟨rfl, rfl⟩ | exact ⟨by simp; omega, rfl⟩

set_option maxHeartbeats 1000000 in
theorem quotable_any (c : UInt8) (w : World) : Calls Tryz.prog 79 #[.int .u8 (c.toNat : Int)] w fun e w' => e = .returned (.bool (Lx.quot c)) ∧ w = w' := by
  have hc := c.toNat_lt
  obtain ⟨b, hb⟩ : ∃ b, b = Lx.quot c := ⟨_, rfl⟩
  rw [← hb]
  rw [quot_eq] at hb
  generalize c.toNat = n at hc hb
  by_cases h34 : n = 34
  · obtain rfl : b = false := by rw [hb]; simp; omega
    clear hb
    subst h34
    go_enter Tryz.func79, Tryz.ntmps79
    go_wp2
    go_ret
    first | exact ⟨rfl, rfl⟩ | exact ⟨by simp; omega, rfl⟩
  have e34 : ((n : Int) == 34) = false := u8_ne (by omega)
  have f34 : ((n : Int) != 34) = true := by simp; omega
  rcases (show (n < 32) ∨ (32 ≤ n ∧ n ≤ 126) ∨ (126 < n) by omega) with k1 | ⟨k1, k2⟩ | k1
  · obtain rfl : b = false := by rw [hb]; simp; omega
    clear hb
    go_enter Tryz.func79, Tryz.ntmps79
    go_wp2
    go_ret
    first | exact ⟨rfl, rfl⟩ | exact ⟨by simp; omega, rfl⟩
  · obtain rfl : b = true := by rw [hb]; simp; omega
    clear hb
    go_enter Tryz.func79, Tryz.ntmps79
    go_wp2
    go_ret
    first | exact ⟨rfl, rfl⟩ | exact ⟨by simp; omega, rfl⟩
  · obtain rfl : b = false := by rw [hb]; simp; omega
    clear hb
    go_enter Tryz.func79, Tryz.ntmps79
    go_wp2
    go_ret
    first | exact ⟨rfl, rfl⟩ | exact ⟨by simp; omega, rfl⟩

end Go.Proofs.YtnhcjgnohnedaaaGreatDoor

namespace Go.Proofs.YtnhcjgnohnedaaaGreatDoor
open Go.RowKit

theorem ba_get (s : ByteArray) (k : Nat) (h : k < s.size) : s[k] = s.data.toList.getD k 0 := by
  have : k < s.data.toList.length := by simpa using h
  rw [List.getD, List.getElem?_eq_getElem this]; rfl
theorem run_step (p : UInt8 → Bool) (l : List UInt8) (k : Nat) (c : UInt8) (hk : k < l.length) (hc : c = l.getD k 0) (h : ∀ i, i < k → p (l.getD i 0) = true) :
    (p c = true → ∀ i, i < k + 1 → p (l.getD i 0) = true) ∧ (p c = false → Lx.runN p l = k) := by
  constructor
  · intro hp i hi
    by_cases e : i = k
    · rw [e, ← hc]; exact hp
    · exact h i (by omega)
  · intro hp
    exact Lx.runN_eq p l k (by omega) h (Or.inr (by rw [← hc]; exact hp))

set_option maxHeartbeats 1000000 in
theorem run_letter (s : ByteArray) (w : World) (hs : s.size ≤ maxLen) :
    Calls Tryz.prog 111 #[.string s, .func (.func 77) #[] #[]] w fun e w' => e = .returned (.int .i64 (Lx.runN Lx.letter s.data.toList : Nat)) ∧ w = w' := by
  unfold maxLen at hs
  obtain ⟨l, hl⟩ : ∃ l, l = s.data.toList := ⟨_, rfl⟩
  have HL : Hid (∀ k (h : k < s.size), s[k] = l.getD k 0) := fun k h => by rw [hl]; exact ba_get s k h
  have HN : Hid (l.length = s.size) := by rw [hl]; exact Lib.size_eq s ▸ rfl
  rw [← hl]; clear hl
  obtain ⟨r, hr⟩ : ∃ r, r = Lx.runN Lx.letter l := ⟨_, rfl⟩
  rw [← hr]
  have HR := Lib.hid hr; clear hr
  go_enter Tryz.func111, Tryz.ntmps111
  go_wp2
  go_loop [8] (fun vi => ∃ k : Nat, vi = .int .i64 k ∧ k ≤ s.size ∧ Hid (∀ i, i < k → Lx.letter (l.getD i 0) = true)) (fun vi => s.size - (intOf vi).toNat)
  case atStart => exact ⟨0, rfl, by omega, fun i h => by omega⟩
  case round =>
    obtain ⟨k, rfl, hk, hall⟩ := hrel
    by_cases hlt : k < s.size
    · have HS := Lib.hid (run_step Lx.letter l k _ (by rw [HN.out]; exact hlt) (HL.out k hlt) hall.out)
      cases hp : Lx.letter s[k]
      · go_wp2_with (go_at_call 77; refine (letter_any _ _).mono ?_; rintro e w' ⟨rfl, rfl⟩)
        go_ret
        exact ⟨ret_int (by rw [HR.out, HS.out.2 hp]), rfl⟩
      · go_wp2_with (go_at_call 77; refine (letter_any _ _).mono ?_; rintro e w' ⟨rfl, rfl⟩)
        go_round
        case rel => exact ⟨k + 1, by go_num, by omega, HS.out.1 hp⟩
        case measure => simp [intOf]; omega
    · have HE : Hid (r = s.size) := by rw [HR.out]; exact Lx.runN_eq _ l s.size (by rw [HN.out]; omega) (fun i hi => hall.out i (by omega)) (Or.inl HN.out.symm)
      go_wp2
      go_ret
      exact ⟨ret_int (by rw [HE.out]), rfl⟩


set_option maxHeartbeats 1000000 in
theorem run_quotable (s : ByteArray) (w : World) (hs : s.size ≤ maxLen) :
    Calls Tryz.prog 111 #[.string s, .func (.func 79) #[] #[]] w fun e w' => e = .returned (.int .i64 (Lx.runN Lx.quot s.data.toList : Nat)) ∧ w = w' := by
  unfold maxLen at hs
  obtain ⟨l, hl⟩ : ∃ l, l = s.data.toList := ⟨_, rfl⟩
  have HL : Hid (∀ k (h : k < s.size), s[k] = l.getD k 0) := fun k h => by rw [hl]; exact ba_get s k h
  have HN : Hid (l.length = s.size) := by rw [hl]; exact Lib.size_eq s ▸ rfl
  rw [← hl]; clear hl
  obtain ⟨r, hr⟩ : ∃ r, r = Lx.runN Lx.quot l := ⟨_, rfl⟩
  rw [← hr]
  have HR := Lib.hid hr; clear hr
  go_enter Tryz.func111, Tryz.ntmps111
  go_wp2
  go_loop [8] (fun vi => ∃ k : Nat, vi = .int .i64 k ∧ k ≤ s.size ∧ Hid (∀ i, i < k → Lx.quot (l.getD i 0) = true)) (fun vi => s.size - (intOf vi).toNat)
  case atStart => exact ⟨0, rfl, by omega, fun i h => by omega⟩
  case round =>
    obtain ⟨k, rfl, hk, hall⟩ := hrel
    by_cases hlt : k < s.size
    · have HS := Lib.hid (run_step Lx.quot l k _ (by rw [HN.out]; exact hlt) (HL.out k hlt) hall.out)
      cases hp : Lx.quot s[k]
      · go_wp2_with (go_at_call 79; refine (quotable_any _ _).mono ?_; rintro e w' ⟨rfl, rfl⟩)
        go_ret
        exact ⟨ret_int (by rw [HR.out, HS.out.2 hp]), rfl⟩
      · go_wp2_with (go_at_call 79; refine (quotable_any _ _).mono ?_; rintro e w' ⟨rfl, rfl⟩)
        go_round
        case rel => exact ⟨k + 1, by go_num, by omega, HS.out.1 hp⟩
        case measure => simp [intOf]; omega
    · have HE : Hid (r = s.size) := by rw [HR.out]; exact Lx.runN_eq _ l s.size (by rw [HN.out]; omega) (fun i hi => hall.out i (by omega)) (Or.inl HN.out.symm)
      go_wp2
      go_ret
      exact ⟨ret_int (by rw [HE.out]), rfl⟩


end Go.Proofs.YtnhcjgnohnedaaaGreatDoor

namespace Go.Proofs.YtnhcjgnohnedaaaGreatDoor
open Go.RowKit

theorem heap_set (w : World) (b i : Nat) (v : Value) (cs : Array Value) (t : TypeId) (h : w.heap[b]? = some (.cells cs t (0, 0))) : (w.setCell ⟨b, i, none⟩ v).heap[b]? = some (.cells (cs.setIfInBounds i v) t (0, 0)) := by
  simp [World.setCell, Array.getElem?_modify, h]
theorem grown_refl (w : World) (r : Option Nat) : w.grownBy w r := ⟨rfl, rfl, rfl, Nat.le_refl _, fun _ _ _ => rfl⟩
theorem grown_trans {a b c : World} {r : Option Nat} (h : a.grownBy b r) (k : b.grownBy c r) : a.grownBy c r :=
  ⟨k.os.trans h.os, k.tape.trans h.tape, k.output.trans h.output, Nat.le_trans h.size k.size, fun i hi hn => (k.block i (Nat.lt_of_lt_of_le hi h.size) hn).trans (h.block i hi hn)⟩
theorem grown_set {a w : World} {b i : Nat} (h : a.grownBy w (some b)) (v : Value) : a.grownBy (w.setCell ⟨b, i, none⟩ v) (some b) :=
  ⟨h.os, h.tape, h.output, by simpa [World.setCell] using h.size, fun j hj hn => (Below.heap_setCell w ⟨b, i, none⟩ v j (fun e => hn (by rw [e]))).trans (h.block j hj hn)⟩
theorem grown_of {a w : World} (h : Below a.heap.size a w) (r : Option Nat) : a.grownBy w r := ⟨h.os, h.tape, h.output, h.size, fun i hi _ => h.block i hi⟩
theorem below_grown {B : Nat} {a w w' : World} {b : Nat} (h : Below B a w) (hg : w.grownBy w' (some b)) (hB : B ≤ w.heap.size) (hb : B ≤ b) : Below B a w' :=
  h.grown hg hB (fun k hk => by injection hk with e; omega)
theorem adv_bd (l : List UInt8) : ∀ p : Int × Int, 1 ≤ p.1 → 1 ≤ p.2 → 1 ≤ (Lx.adv l p).1 ∧ 1 ≤ (Lx.adv l p).2 ∧ (Lx.adv l p).1 ≤ p.1 + l.length ∧ (Lx.adv l p).2 ≤ p.2 + l.length := by
  induction l with
  | nil => intro p h1 h2; simp [Lx.adv_nil]; omega
  | cons c l ih =>
    intro p h1 h2
    rw [Lx.adv_cons]
    have hc : 1 ≤ (Lx.advC c p).1 ∧ 1 ≤ (Lx.advC c p).2 ∧ (Lx.advC c p).1 ≤ p.1 + 1 ∧ (Lx.advC c p).2 ≤ p.2 + 1 := by unfold Lx.advC; split <;> simp <;> omega
    have := ih (Lx.advC c p) hc.1 hc.2.1
    simp only [List.length_cons]
    omega
theorem adv_step (l : List UInt8) (k : Nat) (p : Int × Int) (hk : k < l.length) : Lx.adv (l.take (k + 1)) p = Lx.advC (l.getD k 0) (Lx.adv (l.take k) p) := by
  rw [take_at l k hk, Lx.adv_append]; rfl
theorem ext_list (l : List UInt8) (a b : Nat) : (⟨l.toArray⟩ : ByteArray).extract a b = ⟨((l.take b).drop a).toArray⟩ := by
  apply ByteArray.ext
  simp [ByteArray.data_extract, List.extract_toArray, List.extract_eq_take_drop, List.drop_take]
theorem ba_size (l : List UInt8) : (⟨l.toArray⟩ : ByteArray).size = l.length := rfl
theorem ext_tail (l : List UInt8) (a : Nat) : (⟨l.toArray⟩ : ByteArray).extract a l.length = ⟨(l.drop a).toArray⟩ := by rw [ext_list, List.take_length]
theorem ext_head (l : List UInt8) (a : Nat) : (⟨l.toArray⟩ : ByteArray).extract 0 a = ⟨(l.take a).toArray⟩ := by rw [ext_list, List.drop_zero]

end Go.Proofs.YtnhcjgnohnedaaaGreatDoor

namespace Go.Proofs.YtnhcjgnohnedaaaGreatDoor
open Go.RowKit

theorem hasPrefix_one (l : List UInt8) : Lib.hasPrefix l [37] = decide (l.getD 0 0 = 37) := by
  cases l with
  | nil => rfl
  | cons c l =>
    by_cases h : c = 37
    · subst h; simp [Lib.hasPrefix]
    · have h2 : ¬ (37 : UInt8) = c := fun e => h e.symm
      simp [Lib.hasPrefix, List.isPrefixOf, h, h2]

theorem hasPrefix_any (s p : ByteArray) (w : World) :
    Calls Tryz.prog 138 #[.string s, .string p] w fun e w' => e = .returned (.bool (Lib.hasPrefix s.data.toList p.data.toList)) ∧ w = w' :=
  (Tryz.strings_HasPrefix s p w).mono fun _ _ ⟨h1, h2⟩ => ⟨h1, h2.symm⟩
/-- Ahead of a token, or at the end. -/
def Ahead (l : List UInt8) : Prop := l = [] ∨ ∃ c t, l = c :: t ∧ Lx.blank c = false ∧ c ≠ 37
theorem blanks_gone (l : List UInt8) : l.drop (Lx.runN Lx.blank l) = [] ∨ ∃ c t, l.drop (Lx.runN Lx.blank l) = c :: t ∧ Lx.blank c = false := by
  cases h : l.drop (Lx.runN Lx.blank l) with
  | nil => left; rfl
  | cons c t =>
    right
    have hl := congrArg List.length h
    rw [List.length_drop, List.length_cons] at hl
    have hs := Lx.runN_stop Lx.blank l (by omega)
    have hc : l.getD (Lx.runN Lx.blank l) 0 = c := by
      have := congrArg (fun x => x.getD 0 0) h
      simpa [List.getD] using this
    exact ⟨c, t, rfl, by rw [← hc]; exact hs⟩

end Go.Proofs.YtnhcjgnohnedaaaGreatDoor
