/-
  Contracts of package lex: the reader goes past blanks and comments.
-/
import Derived.Test.YtmfbnlaohlnljaaGreatDoorLxC
import Derived.Deep.LoopGhost
namespace Go.Proofs.YtmfbnlaohlnljaaGreatDoor
open Go.RowKit

/-- The reader, and that its place is small. -/
structure Rd (w : World) (b : Nat) (l : List UInt8) (p : Int × Int) : Prop where
  blk : RdB w b l p.1 p.2
  b1 : 1 ≤ p.1
  b2 : 1 ≤ p.2
  b3 : p.1 + l.length ≤ 20001
  b4 : p.2 + l.length ≤ 20001
theorem Rd.kept {w w' : World} {b : Nat} {l : List UInt8} {p : Int × Int} (h : Rd w b l p) (hb : Below w.heap.size w w') : Rd w' b l p := ⟨h.blk.kept hb, h.b1, h.b2, h.b3, h.b4⟩
theorem Rd.alloc {w : World} {b : Nat} {l : List UInt8} {p : Int × Int} (h : Rd w b l p) (o : Obj) : Rd (w.alloc o) b l p := h.kept ((Below.refl _ _).alloc (Nat.le_refl _) o)
theorem Rd.drop {w w' : World} {b : Nat} {l : List UInt8} {p : Int × Int} (n : Nat) (h : Rd w b l p) (hn : n ≤ l.length) (hb : RdB w' b (l.drop n) (Lx.adv (l.take n) p).1 (Lx.adv (l.take n) p).2) : Rd w' b (l.drop n) (Lx.adv (l.take n) p) := by
  have := adv_bd (l.take n) p h.b1 h.b2
  have h3 := h.b3
  have h4 := h.b4
  have e : (l.take n).length = n := by rw [List.length_take]; omega
  rw [e] at this
  refine ⟨hb, this.1, this.2.1, ?_, ?_⟩ <;> rw [List.length_drop] <;> omega
theorem pass_rd (b : Nat) (l : List UInt8) (p : Int × Int) (n : Nat) (w : World) (h : Rd w b l p) (hn : n ≤ l.length) :
    Calls Tryz.prog 56 #[.pointer (some ⟨b, 0, none⟩), .int .i64 n] w fun e w' => e = .returned (.tuple #[]) ∧ Rd w' b (l.drop n) (Lx.adv (l.take n) p) ∧ w.grownBy w' (some b) :=
  (pass_any b l p.1 p.2 n w h.blk hn h.b1 h.b2 h.b3 h.b4).mono fun _ _ ⟨he, hr, hg⟩ => ⟨he, Rd.drop n h hn hr, hg⟩

set_option maxHeartbeats 1000000 in
theorem take_of (q : UInt8 → Bool) (fv : Value) (b : Nat) (l : List UInt8) (p : Int × Int) (w : World) (h : Rd w b l p)
    (hrun : Calls Tryz.prog 82 #[.string ⟨l.toArray⟩, fv] w fun e w' => e = .returned (.int .i64 (Lx.runN q l : Nat)) ∧ w = w') :
    Calls Tryz.prog 51 #[.pointer (some ⟨b, 0, none⟩), fv] w fun e w' => e = .returned (.tuple #[]) ∧ Rd w' b (l.drop (Lx.runN q l)) (Lx.adv (l.take (Lx.runN q l)) p) ∧ w.grownBy w' (some b) := by
  have c0 := h.blk.at_.1
  have HR := Lib.hid hrun
  have H := Lib.hid h
  clear hrun h
  have hle := Lx.runN_le q l
  go_enter Tryz.func51, Tryz.ntmps51
  go_wp2_with fail
  refine (HR.out).mono ?_; rintro e w' ⟨rfl, rfl⟩
  go_wp2_with fail
  refine (pass_rd b l p _ w H.out hle).mono ?_; rintro e w' ⟨rfl, hr, hg⟩
  have HH := Lib.hid hr
  clear hr
  go_wp2_with fail
  go_end0
  exact ⟨rfl, HH.out, hg⟩

theorem take_blank (b : Nat) (l : List UInt8) (p : Int × Int) (w : World) (h : Rd w b l p) :
    Calls Tryz.prog 51 #[.pointer (some ⟨b, 0, none⟩), .func (.func 52) #[] #[]] w fun e w' => e = .returned (.tuple #[]) ∧ Rd w' b (l.drop (Lx.runN Lx.blank l)) (Lx.adv (l.take (Lx.runN Lx.blank l)) p) ∧ w.grownBy w' (some b) :=
  take_of Lx.blank _ b l p w h (by have := run_blank ⟨l.toArray⟩ w (by rw [ba_size]; have := h.b3; have := h.b1; unfold maxLen; omega); simpa using this)
theorem take_line (b c : Nat) (l : List UInt8) (p : Int × Int) (w : World) (h : Rd w b l p) (hc : w.cell? ⟨c, 0, none⟩ = some (.int .u8 10)) :
    Calls Tryz.prog 51 #[.pointer (some ⟨b, 0, none⟩), .func (.func 84) #[] #[.pointer (some ⟨c, 0, none⟩)]] w fun e w' => e = .returned (.tuple #[]) ∧ Rd w' b (l.drop (Lx.runN Lx.notNl l)) (Lx.adv (l.take (Lx.runN Lx.notNl l)) p) ∧ w.grownBy w' (some b) :=
  take_of Lx.notNl _ b l p w h (by have := run_notNl ⟨l.toArray⟩ c w (by rw [ba_size]; have := h.b3; have := h.b1; unfold maxLen; omega) hc; simpa using this)

set_option maxHeartbeats 400000 in
theorem except_any (w : World) :
    Calls Tryz.prog 54 #[.int .u8 10] w fun e w' => e = .returned (.func (.func 84) #[] #[.pointer (some ⟨w.heap.size, 0, none⟩)]) ∧ w.alloc (.cells #[.int .u8 10] 5) = w' := by
  have hmf : ∀ (fn : Fn) (first cap : Array Value) (w : World), (Instr.makeFunc fn first cap).run Tryz.prog w = .ok (.func fn first cap) w := fun _ _ _ _ => rfl
  go_enter Tryz.func54, Tryz.ntmps54
  go_wp2
  go_ret
  exact ⟨rfl, rfl⟩

theorem hasPrefix_one (l : List UInt8) : Lib.hasPrefix l [37] = decide (l.getD 0 0 = 37) := by
  cases l with
  | nil => rfl
  | cons c l =>
    by_cases h : c = 37
    · subst h; simp [Lib.hasPrefix]
    · have h2 : ¬ (37 : UInt8) = c := fun e => h e.symm
      simp [Lib.hasPrefix, List.isPrefixOf, h, h2]

theorem hasPrefix_any (s p : ByteArray) (w : World) :
    Calls Tryz.prog 53 #[.string s, .string p] w fun e w' => e = .returned (.bool (Lib.hasPrefix s.data.toList p.data.toList)) ∧ w = w' :=
  (Tryz.strings_HasPrefix s p w).mono fun _ _ ⟨h1, h2⟩ => ⟨h1, h2.symm⟩
/-- Ahead of a token, or at the end. -/
def Ahead (l : List UInt8) : Prop := l = [] ∨ ∃ c t, l = c :: t ∧ Lx.blank c = false ∧ c ≠ 37
/-- What skip leaves. -/
def Skipped (w : World) (b : Nat) (l : List UInt8) (p : Int × Int) (w' : World) : Prop :=
  ∃ (m : List UInt8) (q : Int × Int), Rd w' b m q ∧ Lx.toks l p = Lx.toks m q ∧ Ahead m ∧ m.length ≤ l.length ∧ w.grownBy w' (some b)

theorem blanks_gone (l : List UInt8) : l.drop (Lx.runN Lx.blank l) = [] ∨ ∃ c t, l.drop (Lx.runN Lx.blank l) = c :: t ∧ Lx.blank c = false := by
  cases h : l.drop (Lx.runN Lx.blank l) with
  | nil => left; rfl
  | cons c t =>
    right
    have hl := congrArg List.length h
    rw [List.length_drop, List.length_cons] at hl
    have hs := Lx.runN_stop Lx.blank l (by omega)
    have hc : l.getD (Lx.runN Lx.blank l) 0 = c := by
      have := congrArg (fun x => x.getD 0 0) h
      simpa [List.getD] using this
    exact ⟨c, t, rfl, by rw [← hc]; exact hs⟩

set_option maxHeartbeats 2000000 in
theorem skip_any (b : Nat) (l : List UInt8) (p : Int × Int) (w : World) (h : Rd w b l p) :
    Calls Tryz.prog 28 #[.pointer (some ⟨b, 0, none⟩)] w fun e w' => e = .returned (.tuple #[]) ∧ Skipped w b l p w' := by
  have H := Lib.hid h
  clear h
  go_enter Tryz.func28, Tryz.ntmps28
  go_wp2_with fail
  refine (take_blank b l p _ H.out).mono ?_; rintro e w' ⟨rfl, hr, hg⟩
  have H1 := Lib.hid hr
  have hG := Lib.hid hg
  clear hr hg
  go_wp2_with fail
  go_loopg [4] (l.length + 1) (fun k _v wr => ∃ (m : List UInt8) (q : Int × Int), Hid (Rd wr b m q) ∧ Hid (Lx.toks l p = Lx.toks m q) ∧ Hid (m = [] ∨ ∃ c t, m = c :: t ∧ Lx.blank c = false) ∧ m.length < k ∧ m.length ≤ l.length ∧ Hid (w.grownBy wr (some b)))
  case atStart => exact ⟨_, _, H1.out, Lx.toks_blanks l p, blanks_gone l, by rw [List.length_drop]; omega, by rw [List.length_drop]; omega, hG.out⟩
  case round =>
    obtain ⟨m, q, hr, ht, hb, hk, hl, hg⟩ := hrel
    have c0 := hr.out.blk.at_.1
    have hpf := hasPrefix_one m
    by_cases h37 : m.getD 0 0 = 37
    · rw [decide_eq_true h37] at hpf
      have HP := Lib.hid hpf
      clear hpf
      go_wp2_with fail
      refine (hasPrefix_any _ _ _).mono ?_; rintro e w'' ⟨rfl, rfl⟩
      simp only [HP.out]
      go_wp2_with fail
      refine (except_any _).mono ?_; rintro e w'' ⟨rfl, rfl⟩
      go_wp2_with fail
      refine (take_line b wr.heap.size m q _ (hr.out.alloc _) (by simp)).mono ?_; rintro e w2 ⟨rfl, hr2, hg2⟩
      have H2 := Lib.hid hr2
      have G2 : Hid (w.grownBy w2 (some b)) := grown_trans (grown_trans hg.out (World.grownBy_alloc _ _ _)) hg2
      clear hr2 hg2 c0
      go_wp2_with fail
      refine (take_blank b _ _ _ H2.out).mono ?_; rintro e w3 ⟨rfl, hr3, hg3⟩
      have H3 := Lib.hid hr3
      have G3 : Hid (w.grownBy w3 (some b)) := grown_trans G2.out hg3
      have hpos : 1 ≤ Lx.runN Lx.notNl m ∧ Lx.runN Lx.notNl m ≤ m.length := by
        refine ⟨?_, Lx.runN_le _ _⟩
        cases m with
        | nil => simp at h37
        | cons c m => simp only [List.getD_cons_zero] at h37; simp [Lx.runN, Lx.notNl, h37]
      have HQ := Lib.hid (ht.out.trans ((Lx.toks_comment' m q h37).trans (Lx.toks_blanks _ _)))
      clear hr3 hg3
      go_wp2_with fail
      go_roundg (m.length)
      case measure => exact hk
      case rel => exact ⟨_, _, H3.out, HQ.out, blanks_gone _, by rw [List.length_drop, List.length_drop]; omega, by rw [List.length_drop, List.length_drop]; omega, G3.out⟩
    · rw [decide_eq_false h37] at hpf
      have HP := Lib.hid hpf
      clear hpf
      go_wp2_with fail
      refine (hasPrefix_any _ _ _).mono ?_; rintro e w'' ⟨rfl, rfl⟩
      simp only [HP.out]
      go_wp2_with fail
      go_end0
      refine ⟨rfl, m, q, hr.out, ht.out, ?_, hl, hg.out⟩
      rcases hb.out with hb2 | ⟨c, t, rfl, hb2⟩
      · exact Or.inl hb2
      · exact Or.inr ⟨c, t, rfl, hb2, by simpa using h37⟩
end Go.Proofs.YtmfbnlaohlnljaaGreatDoor
