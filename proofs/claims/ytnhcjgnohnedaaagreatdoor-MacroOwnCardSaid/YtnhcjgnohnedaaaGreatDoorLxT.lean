/-
  Contracts of package lex: Text.
  The chapter's examples hold: awake returns true.
  From a walk to a row of layer 3: what the listed variables give, a start that meets the condition, the frame of a law's proof.
-/
import Derived.Test.YtnhcjgnohnedaaaGreatDoorShelfB
import Derived.Test.YtnhcjgnohnedaaaGreatDoorCards
import Derived.Test.YtnhcjgnohnedaaaGreatDoorTie
import Derived.ProofKit
import Derived.LaidMore
import Derived.LaidSub
import Derived.OpenShut
import Derived.HandedShaped
import Derived.Stop.Joined
import Derived.Lib.SmallJoins
import Derived.Lay
import Derived.Deep.Slices
import Derived.Carry
import Derived.SizedLaws
namespace Go.Proofs.YtnhcjgnohnedaaaGreatDoor
open Go.RowKit

namespace Lx
/-- Strings with a blank between two. -/
def jn : List (List UInt8) → List UInt8
  | [] => []
  | x :: l => x ++ l.flatMap fun y => 32 :: y
theorem jn_snoc (l : List (List UInt8)) (y : List UInt8) (h : l ≠ []) : jn (l ++ [y]) = jn l ++ 32 :: y := by
  cases l with
  | nil => exact absurd rfl h
  | cons x l => simp [jn]
theorem jn_mono (l m : List (List UInt8)) : (jn l).length ≤ (jn (l ++ m)).length := by
  cases l with
  | nil => simp [jn]
  | cons x l => simp [jn]
end Lx
def Tv.ok (x : Tv) : Bool := Lx.vldT x.k x.t.data.toList x.p x.q
def Tv.sp (x : Tv) : List UInt8 := Lx.spell x.k x.t.data.toList x.p x.q
/-- A token whose fields fit. -/
structure Tv.fit (x : Tv) : Prop where
  p1 : -9223372036854775808 ≤ x.p
  p2 : x.p ≤ 9223372036854775807
  q1 : -9223372036854775808 ≤ x.q
  q2 : x.q ≤ 9223372036854775807
  ts : x.t.size ≤ maxLen
/-- What Text returns. -/
def textS (l : List Tv) : List UInt8 := if l.all Tv.ok = true then (if 20000 < (Lx.jn (l.map Tv.sp)).length then [] else Lx.jn (l.map Tv.sp)) else []
def textE (l : List Tv) : Int := if l.all Tv.ok = true then (if 20000 < (Lx.jn (l.map Tv.sp)).length then 3 else 0) else 2

theorem wds_short : (Lx.wds.all fun s => decide (s.length ≤ 20)) = true := by decide +kernel
theorem sgs_short : (Lx.sgs.all fun s => decide (s.length ≤ 4)) = true := by decide +kernel
theorem spell_short (k p q : Int) (t : List UInt8) (h : Lx.vldT k t p q = true) : t.length ≤ 100 ∧ (Lx.spell k t p q).length ≤ 200 ∧ (k = 2 → Lx.decB p q = true) := by
  unfold Lx.vldT at h
  by_cases k2 : k = 2
  · rw [if_pos k2] at h
    simp only [Bool.and_eq_true] at h
    refine ⟨by have := h.1; cases t <;> simp_all, ?_, fun _ => h.2⟩
    obtain ⟨hv, p0, hpq, hdv⟩ := decB_parts h.2
    obtain ⟨q1, q2, -, p2⟩ := vld_pos hv
    have q3 := div_le q1 hdv
    obtain ⟨r0, r1, d0, m0, m1⟩ := rest_bd p0 q1 q3
    have hpq0 : 0 ≤ p / q := Int.ediv_nonneg p0 (by omega)
    have l1 := Lib.itoa_length_le (p / q) (by omega) (by omega)
    have l2 := Lib.itoa_length_le (100000 + p % q * (100000 / q)) (by omega) (by omega)
    have l3 := trimR_le ((Lib.itoa (100000 + p % q * (100000 / q))).drop 1) 48
    rw [List.length_drop] at l3
    rw [Lx.spell, if_pos k2, Lx.spellN, List.length_append]
    split
    · simp; omega
    · rw [List.length_cons]; omega
  rw [if_neg k2] at h
  have hk : k = 2 → Lx.decB p q = true := fun e => absurd e k2
  split at h
  · cases h
  split at h
  · rename_i k0
    simp only [Bool.and_eq_true, decide_eq_true_eq] at h
    refine ⟨by omega, ?_, hk⟩
    rw [Lx.spell, if_neg k2, if_neg (by omega)]; omega
  split at h
  · rename_i k1
    have := List.all_eq_true.1 wds_short t (of_decide_eq_true h)
    simp only [decide_eq_true_eq] at this
    refine ⟨by omega, ?_, hk⟩
    rw [Lx.spell, if_neg k2, if_neg (by omega)]; omega
  split at h
  · rename_i k3
    simp only [Bool.and_eq_true, decide_eq_true_eq] at h
    refine ⟨by omega, ?_, hk⟩
    rw [Lx.spell, if_neg k2, if_pos k3]; simp; omega
  split at h
  · have := List.all_eq_true.1 sgs_short t (of_decide_eq_true h)
    simp only [decide_eq_true_eq] at this
    refine ⟨by omega, ?_, hk⟩
    rw [Lx.spell, if_neg k2, if_neg (by omega)]; omega
  · cases h

theorem isB_below {T e : TypeId} {B b : Nat} {bs : List Value} {w w' : World} (h : Lib.IsBuilderF T e B b bs w) (hb : Below w.heap.size w w') : Lib.IsBuilderF T e B b bs w' := by
  have key : ∀ p, Lib.BuilderAtF T e B b p bs w → Lib.BuilderAtF T e B b p bs w' := fun p ⟨h1, v, h2, h3, h4⟩ =>
    ⟨h1, v, (hb.block b (Array.getElem?_eq_some_iff.1 h2).1).trans h2, h3.kept (grown_of hb none) (by cases hv : v.ownBlock <;> simp), h4⟩
  exact h.imp (key _) (key _)
theorem isB_fresh (w : World) (T e : TypeId) : Lib.IsBuilderF T e w.heap.size w.heap.size [] (w.alloc (.cells #[.pointer none, .slice none 0 0] T)) :=
  Or.inl ⟨Nat.le_refl _, _, heap_alloc_new w _, World.ownsRowF_nil _ _ _ _, by simp [Value.ownBlock]⟩

set_option maxRecDepth 100000 in
set_option maxHeartbeats 8000000 in
theorem text_bad (A : Option Addr) (c : Nat) (l : List Tv) (w : World) (he : EnvL w) (h1 : TokSl w w.heap.size A l) (hl : l.length ≤ 1000000000) (hf : ∀ x ∈ l, x.fit) (hbad : l.all Tv.ok = false) :
    Calls Tryz.prog 122 #[.slice A l.length c] w fun e w' => e = .returned (.tuple #[.string ⟨#[]⟩, .int .i64 2]) ∧ Below w.heap.size w w' := by
  have H1 := Lib.hid h1
  have HE := Lib.hid he
  have HF := Lib.hid hf
  have HBAD := Lib.hid hbad
  generalize hL : l.length = n at *
  have HL := Lib.hid hL
  clear h1 he hf hbad hL
  go_enter Tryz.func122, Tryz.ntmps122
  go_wp2_with fail
  go_loopw [11] (fun v wr => ∃ k : Nat, v = .int .i64 k ∧ k ≤ n ∧ Hid (∀ (i : Nat) (x : Tv), i < k → l[i]? = some x → x.ok = true) ∧ Below w.heap.size w wr) (fun v _ => n - (intOf v).toNat)
  case atStart => exact ⟨0, rfl, by omega, fun i x h => by omega, Below.refl _ _⟩
  case round =>
    obtain ⟨k, rfl, hk, hs, hB⟩ := hrel
    by_cases hlt : k < n
    · obtain ⟨ad1, rfl, hb1, at1⟩ := H1.out (by rw [HL.out]; omega)
      have hx : l[k]? = some (l[k]'(by rw [HL.out]; exact hlt)) := List.getElem?_eq_getElem _
      have hmem : l[k]'(by rw [HL.out]; exact hlt) ∈ l := List.getElem_mem _
      generalize l[k]'(by rw [HL.out]; exact hlt) = x at hx hmem
      have tx := (at1 k x hx).below hB (by rw [block_of_add]; exact hb1)
      have g1 := block_of_add ad1 (k * 6)
      obtain ⟨⟨xb, xo, xs⟩, hE1⟩ : ∃ E, ad1.add (k * 6) = E := ⟨_, rfl⟩
      rw [hE1] at tx g1
      obtain ⟨x0, x1, x2, x3, x4, x5⟩ := tx
      simp only at x0 x1 x2 x3 x4 x5 g1
      have hsz := hB.size
      have HX := Lib.hid hx
      have BB := Lib.hid hB
      have hxb : xb < wr.heap.size := by omega
      have fx := HF.out x hmem
      have HV := Lib.hid (fun W (hW : EnvL W) => lvalid_any x.k x.p x.q x.a x.c x.t W hW fx.p1 fx.p2 fx.q1 fx.q2 fx.ts)
      clear hx hmem at1 g1 hb1 hB fx
      have hk0 : (0 : Int) ≤ (k : Int) := by omega
      have hk1 : (k : Int) < (n : Int) := by omega
      cases hok : x.ok
      · unfold Tv.ok at hok
        rw [hok] at HV
        clear hok
        go_wp2_with fail
        refine (HV.out _ (by exact HE.out.below (BB.out.alloc BB.out.size _))).mono ?_; rintro e w1 ⟨rfl, hb⟩
        have B1 := Lib.hid ((BB.out.alloc hsz _).trans (hb.mono (by simp; omega)))
        clear hb x0 x1 x2 x3 x4 x5
        go_wp2_with fail
        go_ret2
        exact ⟨rfl, B1.out⟩
      · have hok2 := Lib.hid hok
        unfold Tv.ok at hok
        rw [hok] at HV
        clear hok
        go_wp2_with fail
        refine (HV.out _ (by exact HE.out.below (BB.out.alloc BB.out.size _))).mono ?_; rintro e w1 ⟨rfl, hb⟩
        have B1 := Lib.hid ((BB.out.alloc hsz _).trans (hb.mono (by simp; omega)))
        clear hb x0 x1 x2 x3 x4 x5
        go_wp2_with fail
        go_roundw
        case rel =>
          refine ⟨k + 1, by go_num, by omega, ?_, B1.out⟩
          intro i u hi hu
          by_cases e : i = k
          · subst e; rw [HX.out] at hu; injection hu with hu; subst hu; exact hok2.out
          · exact hs.out i u (by omega) hu
        case measure => simp [intOf]; omega
    · exfalso
      have : l.all Tv.ok = true := by
        rw [List.all_eq_true]
        intro x hx
        obtain ⟨i, hi, rfl⟩ := List.getElem_of_mem hx
        have := HL.out
        exact hs.out i _ (by omega) (List.getElem?_eq_getElem hi)
      rw [HBAD.out] at this; cases this

theorem jn_take (l : List (List UInt8)) (k : Nat) (y : List UInt8) (h : l[k]? = some y) : Lx.jn (l.take (k + 1)) = if k = 0 then y else Lx.jn (l.take k) ++ 32 :: y := by
  have hk := (List.getElem?_eq_some_iff.1 h).1
  have hy := (List.getElem?_eq_some_iff.1 h).2
  rw [List.take_succ_eq_append_getElem hk, hy]
  by_cases h0 : k = 0
  · subst h0; simp [Lx.jn]
  · rw [if_neg h0]
    refine Lx.jn_snoc _ _ ?_
    intro e
    have := congrArg List.length e
    rw [List.length_take] at this
    simp only [List.length_nil] at this
    omega

abbrev IsB (b : Nat) (L : List UInt8) (w : World) : Prop := Lib.IsBuilderF 190 5 b b (Lib.byteCells L) w
theorem blen (b : Nat) (L : List UInt8) (w : World) (h : IsB b L w) :
    Calls Tryz.prog 144 #[.pointer (some ⟨b, 0, none⟩)] w fun e w' => e = .returned (.int .i64 (L.length : Nat)) ∧ w = w' :=
  (Tryz.Builder_Len_f b b _ w h).mono fun _ _ ⟨h1, h2⟩ => ⟨by rw [h1, Lib.byteCells_length], h2.symm⟩
theorem bytes_snoc (L : List UInt8) : Lib.byteCells (L ++ [32]) = Lib.byteCells L ++ [.int .u8 32] := by simp [Lib.byteCells]
theorem bytes_app (L s : List UInt8) : Lib.byteCells (L ++ s) = Lib.byteCells L ++ Lib.strCells ⟨s.toArray⟩ := by simp [Lib.byteCells, Lib.strCells]
theorem bbyte (b : Nat) (L : List UInt8) (w : World) (h : IsB b L w) (hL : L.length ≤ 100000) (hb : b ≤ w.heap.size) :
    Calls Tryz.prog 141 #[.pointer (some ⟨b, 0, none⟩), .int .u8 32] w fun e w' => e = .returned .nilIface ∧ IsB b (L ++ [32]) w' ∧ Below b w w' ∧ Lib.OthersKept 5 (some b) w w' :=
  (Tryz.Builder_WriteByte_k b b _ 32 w h (by rw [Lib.byteCells_length]; omega) hb).mono fun _ _ ⟨h1, h2, h3, h4⟩ => ⟨h1, Or.inr ((bytes_snoc L).symm ▸ h2), h3, h4⟩
theorem bstr (b : Nat) (L s : List UInt8) (w : World) (h : IsB b L w) (hL : L.length ≤ 100000) (hs : s.length ≤ 100000) (hb : b ≤ w.heap.size) :
    Calls Tryz.prog 142 #[.pointer (some ⟨b, 0, none⟩), .string ⟨s.toArray⟩] w fun e w' => e = .returned (.tuple #[.int .i64 (s.length : Nat), .nilIface]) ∧ IsB b (L ++ s) w' ∧ Below b w w' ∧ Lib.OthersKept 5 (some b) w w' :=
  (Tryz.Builder_WriteString_k b b _ ⟨s.toArray⟩ w h (by rw [Lib.byteCells_length, ba_size]; omega) hb).mono fun _ _ ⟨h1, h2, h3, h4⟩ => ⟨h1, Or.inr ((bytes_app L s).symm ▸ h2), h3, h4⟩
theorem bstring (b : Nat) (L : List UInt8) (w : World) (h : IsB b L w) (hb : b ≤ w.heap.size) :
    Calls Tryz.prog 145 #[.pointer (some ⟨b, 0, none⟩)] w fun e w' => e = .returned (.string ⟨L.toArray⟩) ∧ Below b w w' :=
  (Tryz.Builder_String_any_k b b L w h hb).mono fun _ _ ⟨h1, _, h3, _⟩ => ⟨h1, h3⟩
set_option maxRecDepth 100000 in
set_option maxHeartbeats 16000000 in
theorem text_ok (A : Option Addr) (c : Nat) (l : List Tv) (w : World) (he : EnvL w) (h1 : TokSl w w.heap.size A l) (hl : l.length ≤ 1000000000) (hf : ∀ x ∈ l, x.fit) (hok : l.all Tv.ok = true) (S : List UInt8) (E : Int)
    (hS : S = if 20000 < (Lx.jn (l.map Tv.sp)).length then [] else Lx.jn (l.map Tv.sp)) (hE : E = if 20000 < (Lx.jn (l.map Tv.sp)).length then 3 else 0) :
    Calls Tryz.prog 122 #[.slice A l.length c] w fun e w' => e = .returned (.tuple #[.string ⟨S.toArray⟩, .int .i64 E]) ∧ Below w.heap.size w w' := by
  have H1 := Lib.hid h1
  have HE := Lib.hid he
  have HF := Lib.hid hf
  have HOK := Lib.hid hok
  have HS := Lib.hid (And.intro hS hE)
  generalize hL : l.length = n at *
  have HL := Lib.hid hL
  clear h1 he hf hok hL hS hE
  go_enter Tryz.func122, Tryz.ntmps122
  go_wp2_with fail
  go_loopw [11] (fun v wr => ∃ k : Nat, v = .int .i64 k ∧ k ≤ n ∧ Below w.heap.size w wr) (fun v _ => n - (intOf v).toNat)
  case atStart => exact ⟨0, rfl, by omega, Below.refl _ _⟩
  case round =>
    obtain ⟨k, rfl, hk, hB⟩ := hrel
    by_cases hlt : k < n
    · obtain ⟨ad1, rfl, hb1, at1⟩ := H1.out (by rw [HL.out]; omega)
      have hx : l[k]? = some (l[k]'(by rw [HL.out]; exact hlt)) := List.getElem?_eq_getElem _
      have hmem : l[k]'(by rw [HL.out]; exact hlt) ∈ l := List.getElem_mem _
      generalize l[k]'(by rw [HL.out]; exact hlt) = x at hx hmem
      have tx := (at1 k x hx).below hB (by rw [block_of_add]; exact hb1)
      have g1 := block_of_add ad1 (k * 6)
      obtain ⟨⟨xb, xo, xs⟩, hE1⟩ : ∃ E, ad1.add (k * 6) = E := ⟨_, rfl⟩
      rw [hE1] at tx g1
      obtain ⟨x0, x1, x2, x3, x4, x5⟩ := tx
      simp only at x0 x1 x2 x3 x4 x5 g1
      have hsz := hB.size
      have BB := Lib.hid hB
      have hxb : xb < wr.heap.size := by omega
      have fx := HF.out x hmem
      have hok : x.ok = true := List.all_eq_true.1 HOK.out x hmem
      unfold Tv.ok at hok
      have hva := fun W (hW : EnvL W) => lvalid_any x.k x.p x.q x.a x.c x.t W hW fx.p1 fx.p2 fx.q1 fx.q2 fx.ts
      rw [hok] at hva
      have HV := Lib.hid hva
      clear hx hmem at1 g1 hb1 hB fx hok hva
      have hk0 : (0 : Int) ≤ (k : Int) := by omega
      have hk1 : (k : Int) < (n : Int) := by omega
      go_wp2_with fail
      refine (HV.out _ (by exact HE.out.below (BB.out.alloc BB.out.size _))).mono ?_; rintro e w1 ⟨rfl, hb⟩
      have B1 := Lib.hid ((BB.out.alloc hsz _).trans (hb.mono (by simp; omega)))
      clear hb x0 x1 x2 x3 x4 x5
      go_wp2_with fail
      go_roundw
      case rel => exact ⟨k + 1, by go_num, by omega, B1.out⟩
      case measure => simp [intOf]; omega
    · obtain rfl : k = n := by omega
      have BB := Lib.hid hB
      have hsz := hB.size
      clear hB hlt hk
      obtain ⟨w0, hw0⟩ : ∃ w0, w0 = wr := ⟨_, rfl⟩
      rw [← hw0] at BB hsz ⊢
      clear hw0
      go_wp2_with fail
      have hfr := Lib.hid (isB_fresh w0 190 5)
      go_loopw [21] (fun v wr => ∃ j : Nat, v = .int .i64 j ∧ j ≤ k ∧ Hid (Lib.IsBuilderF 190 5 w0.heap.size w0.heap.size (Lib.byteCells (Lx.jn ((l.map Tv.sp).take j))) wr) ∧ Hid ((Lx.jn ((l.map Tv.sp).take j)).length ≤ 20000) ∧ Hid (Below w.heap.size w wr) ∧ w0.heap.size < wr.heap.size) (fun v _ => k - (intOf v).toNat)
      case atStart => exact ⟨0, rfl, by omega, hfr.out, by simp [Lx.jn, Hid], BB.out.alloc hsz _, by simp⟩
      case round =>
        obtain ⟨j, rfl, hj, hbu, hlen, hB, hwz⟩ := hrel
        by_cases hlt : j < k
        · obtain ⟨ad1, rfl, hb1, at1⟩ := H1.out (by rw [HL.out]; omega)
          have hx : l[j]? = some (l[j]'(by rw [HL.out]; exact hlt)) := List.getElem?_eq_getElem _
          have hmem : l[j]'(by rw [HL.out]; exact hlt) ∈ l := List.getElem_mem _
          generalize l[j]'(by rw [HL.out]; exact hlt) = x at hx hmem
          have tx := (at1 j x hx).below hB.out (by rw [block_of_add]; exact hb1)
          have g1 := block_of_add ad1 (j * 6)
          obtain ⟨⟨xb, xo, xs⟩, hE1⟩ : ∃ E, ad1.add (j * 6) = E := ⟨_, rfl⟩
          rw [hE1] at tx g1
          obtain ⟨x0, x1, x2, x3, x4, x5⟩ := tx
          simp only at x0 x1 x2 x3 x4 x5 g1
          have hxb : xb < wr.heap.size := by omega
          have hok : x.ok = true := List.all_eq_true.1 HOK.out x hmem
          obtain ⟨s1, s2, s3⟩ := spell_short _ _ _ _ hok
          have HSP := Lib.hid (fun W (hW : EnvL W) => spelled_any x.k x.p x.q x.a x.c x.t W hW (by have := Lib.size_eq x.t; omega) s3)
          have hms : (l.map Tv.sp)[j]? = some x.sp := by rw [List.getElem?_map, hx]; rfl
          have hjt := jn_take _ _ _ hms
          have hsp : Lx.spell x.k x.t.data.toList x.p x.q = x.sp := rfl
          rw [hsp] at HSP s2
          have HJ := Lib.hid hjt
          have HEW : Hid (EnvL wr) := HE.out.below hB.out
          obtain ⟨sp, hspp⟩ : ∃ sp, sp = x.sp := ⟨_, rfl⟩
          rw [← hspp] at HSP s2 HJ
          clear hx hmem at1 g1 hb1 hok s3 s1 hms hjt hsp hspp
          have hk0 : (0 : Int) ≤ (j : Int) := by omega
          have hk1 : (j : Int) < (k : Int) := by omega
          have hB0 : Hid (Below w.heap.size w (wr.alloc (.cells #[.int .i64 x.k, .string x.t, .int .i64 x.p, .int .i64 x.q, .int .i64 x.a, .int .i64 x.c] 41))) := hB.out.alloc hB.out.size _
          have hI0 : Hid (IsB w0.heap.size (Lx.jn ((l.map Tv.sp).take j)) (wr.alloc (.cells #[.int .i64 x.k, .string x.t, .int .i64 x.p, .int .i64 x.q, .int .i64 x.a, .int .i64 x.c] 41))) := isB_below hbu.out ((Below.refl _ _).alloc (Nat.le_refl _) _)
          by_cases hj0 : j = 0
          · have hj1 : ¬ (0 : Int) < (j : Int) := by omega
            rw [if_pos hj0] at HJ
            have hL0 : (Lx.jn ((l.map Tv.sp).take j)) = [] := by rw [hj0]; rfl
            rw [hL0] at hI0
            clear hj0 hL0
            go_wp2_with fail
            refine (HSP.out _ (by exact HEW.out.below ((Below.refl _ _).alloc (Nat.le_refl _) _))).mono ?_; rintro e w1 ⟨rfl, hb⟩
            have hI1 := Lib.hid (isB_below hI0.out hb)
            have hB1 := Lib.hid (hB0.out.trans (hb.mono hB0.out.size))
            have hz1 := hb.size
            simp at hz1
            clear hb
            go_wp2_with fail
            refine (bstr w0.heap.size [] sp w1 hI1.out (by simp) (by omega) (by omega)).mono ?_; rintro e w2 ⟨rfl, hI2, hb, -⟩
            have hI3 : IsB w0.heap.size (Lx.jn ((l.map Tv.sp).take (j + 1))) w2 := by rw [HJ.out]; simpa using hI2
            have HI2 := Lib.hid hI3
            have hB2 := Lib.hid (hB1.out.trans (hb.mono hsz))
            have hz2 := hb.size
            clear hI2 hb hI3
            have hJ2 : (Lx.jn ((l.map Tv.sp).take (j + 1))).length ≤ 30000 := by have h3 := hlen.out; rw [HJ.out]; omega
            generalize hJL : Lx.jn ((l.map Tv.sp).take (j + 1)) = JL at *
            have HJL := Lib.hid hJL
            clear hJL x0 x1 x2 x3 x4 x5
            by_cases hbig : 20000 < JL.length
            · have hfin : 20000 < (Lx.jn (l.map Tv.sp)).length := by
                have := Lx.jn_mono ((l.map Tv.sp).take (j + 1)) ((l.map Tv.sp).drop (j + 1))
                rw [List.take_append_drop, HJL.out] at this
                omega
              have HS2 := HS.out
              rw [if_pos hfin, if_pos hfin] at HS2
              obtain ⟨rfl, rfl⟩ := HS2
              clear hfin HS
              go_wp2_with fail
              refine (blen w0.heap.size JL w2 HI2.out).mono ?_; rintro e w3 ⟨rfl, rfl⟩
              go_wp2_with fail
              go_ret2
              exact ⟨rfl, hB2.out⟩
            · have HLE : Hid (JL.length ≤ 20000) := by have := hbig; exact Nat.le_of_not_lt this
              go_wp2_with fail
              refine (blen w0.heap.size JL w2 HI2.out).mono ?_; rintro e w3 ⟨rfl, rfl⟩
              go_wp2_with fail
              go_roundw
              case rel => exact ⟨j + 1, by go_num, by omega, by rw [HJL.out]; exact HI2.out, by rw [HJL.out]; exact HLE.out, hB2.out, by omega⟩
              case measure => simp [intOf]; omega
          · have hj1 : (0 : Int) < (j : Int) := by omega
            rw [if_neg hj0] at HJ
            clear hj0
            go_wp2_with fail
            refine (bbyte w0.heap.size _ _ hI0.out (by have := hlen.out; omega) (by simp; omega)).mono ?_; rintro e w01 ⟨rfl, hI01, hb01, hok01⟩
            have HI01 := Lib.hid hI01
            have hB01 := Lib.hid (hB0.out.trans (hb01.mono hsz))
            have hz01 := hb01.size
            simp at hz01
            have hcl := hok01 wr.heap.size _ (heap_alloc_new wr _) (by simp; omega) (by intro c fz h; injection h with h1 h2; revert h2; decide)
            obtain ⟨⟨z0, z1, z2, z3, z4, z5⟩, -, -⟩ := blk6 hcl
            clear hI01 hb01 hok01 hcl x0 x1 x2 x3 x4 x5
            go_wp2_with fail
            refine (HSP.out _ (HE.out.below hB01.out)).mono ?_; rintro e w1 ⟨rfl, hb⟩
            have hI1 := Lib.hid (isB_below HI01.out hb)
            have hB1 := Lib.hid (hB01.out.trans (hb.mono hB01.out.size))
            have hz1 := hb.size
            clear hb z0 z1 z2 z3 z4 z5
            go_wp2_with fail
            refine (bstr w0.heap.size _ sp w1 hI1.out (by have := hlen.out; rw [List.length_append]; simp; omega) (by omega) (by omega)).mono ?_; rintro e w2 ⟨rfl, hI2, hb, -⟩
            have hI3 : IsB w0.heap.size (Lx.jn ((l.map Tv.sp).take (j + 1))) w2 := by rw [HJ.out]; simpa using hI2
            have HI2 := Lib.hid hI3
            have hB2 := Lib.hid (hB1.out.trans (hb.mono hsz))
            have hz2 := hb.size
            clear hI2 hb hI3
            have hJ2 : (Lx.jn ((l.map Tv.sp).take (j + 1))).length ≤ 30000 := by have h3 := hlen.out; rw [HJ.out]; rw [List.length_append, List.length_cons]; omega
            generalize hJL : Lx.jn ((l.map Tv.sp).take (j + 1)) = JL at *
            have HJL := Lib.hid hJL
            clear hJL
            by_cases hbig : 20000 < JL.length
            · have hfin : 20000 < (Lx.jn (l.map Tv.sp)).length := by
                have := Lx.jn_mono ((l.map Tv.sp).take (j + 1)) ((l.map Tv.sp).drop (j + 1))
                rw [List.take_append_drop, HJL.out] at this
                omega
              have HS2 := HS.out
              rw [if_pos hfin, if_pos hfin] at HS2
              obtain ⟨rfl, rfl⟩ := HS2
              clear hfin HS
              go_wp2_with fail
              refine (blen w0.heap.size JL w2 HI2.out).mono ?_; rintro e w3 ⟨rfl, rfl⟩
              go_wp2_with fail
              go_ret2
              exact ⟨rfl, hB2.out⟩
            · have HLE : Hid (JL.length ≤ 20000) := by have := hbig; exact Nat.le_of_not_lt this
              go_wp2_with fail
              refine (blen w0.heap.size JL w2 HI2.out).mono ?_; rintro e w3 ⟨rfl, rfl⟩
              go_wp2_with fail
              go_roundw
              case rel => exact ⟨j + 1, by go_num, by omega, by rw [HJL.out]; exact HI2.out, by rw [HJL.out]; exact HLE.out, hB2.out, by omega⟩
              case measure => simp [intOf]; omega
        · obtain rfl : j = k := by omega
          have hfull : (l.map Tv.sp).take j = l.map Tv.sp := List.take_of_length_le (by rw [List.length_map, HL.out]; omega)
          rw [hfull] at hbu hlen
          have HS2 := HS.out
          have hle := hlen.out
          rw [if_neg (by omega), if_neg (by omega)] at HS2
          obtain ⟨hSS, rfl⟩ := HS2
          rw [← hSS] at hbu
          clear HS hfull hle hSS
          go_wp2_with fail
          refine (bstring w0.heap.size S wr hbu.out (by omega)).mono ?_; rintro e w3 ⟨rfl, hb⟩
          have hB2 := Lib.hid (hB.out.trans (hb.mono hsz))
          clear hb
          go_wp2_with fail
          go_ret2
          exact ⟨rfl, hB2.out⟩

/-- What Text returns, of any tokens. -/
theorem text_any' (A : Option Addr) (c : Nat) (l : List Tv) (w : World) (he : EnvL w) (h1 : TokSl w w.heap.size A l) (hl : l.length ≤ 1000000000) (hf : ∀ x ∈ l, x.fit) :
    Calls Tryz.prog 122 #[.slice A l.length c] w fun e w' => e = .returned (.tuple #[.string ⟨(textS l).toArray⟩, .int .i64 (textE l)]) ∧ Below w.heap.size w w' := by
  cases h : l.all Tv.ok
  · have e1 : textS l = [] := by rw [textS, h]; rfl
    have e2 : textE l = 2 := by rw [textE, h]; rfl
    rw [e1, e2]
    exact text_bad A c l w he h1 hl hf h
  · exact text_ok A c l w he h1 hl hf h _ _ (by rw [textS, h, if_pos rfl]) (by rw [textE, h, if_pos rfl])
end Go.Proofs.YtnhcjgnohnedaaaGreatDoor

namespace Go.Proofs.YtnhcjgnohnedaaaGreatDoor
open Go.RowKit

def Tv.of (t : Lx.Tp) : Tv := ⟨t.kind, ⟨t.text.toArray⟩, t.p, t.q, t.line, t.col⟩
theorem rowOf_get : ∀ (l : List Lx.Tp) (j : Nat) (x : Lx.Tp), l[j]? = some x → ∀ i, i < 6 → (rowOf l)[j * 6 + i]? = (tpCells x)[i]?
  | [], j, x, h, _, _ => by simp at h
  | y :: l, 0, x, h, i, hi => by
    simp at h; subst h
    rw [show rowOf (y :: l) = tpCells y ++ rowOf l by simp [rowOf], List.getElem?_append_left (by simp [tpCells]; omega)]
    simp
  | y :: l, j + 1, x, h, i, hi => by
    rw [show rowOf (y :: l) = tpCells y ++ rowOf l by simp [rowOf], List.getElem?_append_right (by simp [tpCells]; omega)]
    have := rowOf_get l j x (by simpa using h) i hi
    rw [← this]
    congr 1
    simp [tpCells]; omega
theorem addr_row (g m : Nat) : (⟨g, 0, none⟩ : Addr).add m = ⟨g, m, none⟩ := by unfold Addr.add; split <;> simp_all
/-- A slice of tokens of the call's own, as one that is read. -/
theorem Toks.sl {w : World} {B : Nat} {v : Value} {l : List Lx.Tp} (h : Toks w B v l) : ∃ A c, v = .slice A l.length c ∧ TokSl w w.heap.size A (l.map Tv.of) ∧ (0 < l.length → ∃ g, A = some ⟨g, 0, none⟩ ∧ B ≤ g ∧ g < w.heap.size) ∧ (A = none → c = 0 ∧ l = []) := by
  rcases h.2 with ⟨rfl, h0⟩ | ⟨g, cap, cur, rfl, hB, hg, hn, hc, hs, ht⟩
  · rw [h0]
    exact ⟨none, 0, rfl, fun hn => by rw [List.length_map] at hn; omega, fun hn => by omega, fun _ => ⟨rfl, List.eq_nil_of_length_eq_zero h0⟩⟩
  · refine ⟨some ⟨g, 0, none⟩, cap, rfl, fun _ => ⟨⟨g, 0, none⟩, rfl, (Array.getElem?_eq_some_iff.1 hg).1, fun j x hj => ?_⟩, fun _ => ⟨g, rfl, hB, (Array.getElem?_eq_some_iff.1 hg).1⟩, fun e => by cases e⟩
    rw [List.getElem?_map] at hj
    cases hy : l[j]? with
    | none => rw [hy] at hj; cases hj
    | some y =>
      rw [hy] at hj
      injection hj with hj
      subst hj
      have key : ∀ i u, i < 6 → (tpCells y)[i]? = some u → w.cell? ⟨g, j * 6 + i, none⟩ = some u := fun i u hi hu => by
        have := World.ownsRow.cells h (g := g) rfl (j * 6 + i) u (by rw [rowOf_get l j y hy i hi]; exact hu)
        rwa [addr_row] at this
      rw [addr_row]
      exact ⟨key 0 _ (by omega) rfl, key 1 _ (by omega) rfl, key 2 _ (by omega) rfl, key 3 _ (by omega) rfl, key 4 _ (by omega) rfl, key 5 _ (by omega) rfl⟩

/-- What a call of Tokens leaves, read. -/
def TokRet (ts : List Lx.Tp) (w : World) (e : Ending) (w' : World) : Prop := ∃ A c, e = .returned (.tuple #[.slice A ts.length c, faultV 0 [] 0 0]) ∧ TokSl w' w'.heap.size A (ts.map Tv.of) ∧ (0 < ts.length → ∃ g, A = some ⟨g, 0, none⟩ ∧ w.heap.size ≤ g ∧ g < w'.heap.size) ∧ ts.length ≤ 20000 ∧ Below w.heap.size w w' ∧ (A = none → c = 0 ∧ ts = [])
def aw1 : List UInt8 := [120, 49, 61, 46, 53, 42, 122, 46, 108, 101, 102, 116, 59, 37, 101, 110, 100]
def aw2 : List UInt8 := [49, 46, 46, 50]
def aw3 : List UInt8 := [124, 61, 58, 124, 62]
def aw4 : List UInt8 := [32, 35]
def awT1 : List Lx.Tp := [⟨⟨0, [120], 0, 0⟩, 1, 1⟩, ⟨⟨2, [], 1, 1⟩, 1, 2⟩, ⟨⟨4, [61], 0, 0⟩, 1, 3⟩, ⟨⟨2, [], 1, 2⟩, 1, 4⟩, ⟨⟨4, [42], 0, 0⟩, 1, 6⟩, ⟨⟨0, [122], 0, 0⟩, 1, 7⟩, ⟨⟨4, [46], 0, 0⟩, 1, 8⟩, ⟨⟨0, [108, 101, 102, 116], 0, 0⟩, 1, 9⟩, ⟨⟨4, [59], 0, 0⟩, 1, 13⟩]
def awS : List UInt8 := [120, 32, 49, 32, 61, 32, 48, 46, 53, 32, 42, 32, 122, 32, 46, 32, 108, 101, 102, 116, 32, 59]
theorem aw1_toks : Lx.toks aw1 (1, 1) = .ok awT1 := by decide +kernel
theorem aw2_toks : Lx.toks aw2 (1, 1) = .ok [⟨⟨2, [], 1, 1⟩, 1, 1⟩, ⟨⟨4, [46, 46], 0, 0⟩, 1, 2⟩, ⟨⟨2, [], 2, 1⟩, 1, 4⟩] := by decide +kernel
theorem aw3_toks : Lx.toks aw3 (1, 1) = .ok [⟨⟨4, [124, 61, 58, 124], 0, 0⟩, 1, 1⟩, ⟨⟨4, [62], 0, 0⟩, 1, 5⟩] := by decide +kernel
theorem aw4_toks : Lx.toks aw4 (1, 1) = .bad 10 [35] 1 2 := by decide +kernel
theorem it1 : Lib.itoa 1 = [49] := by simp [Lib.itoa, Lib.decDigits_one]
theorem it0 : Lib.itoa 0 = [48] := by simp [Lib.itoa, Lib.decDigits_one]
theorem it15 : Lib.itoa 150000 = [49, 53, 48, 48, 48, 48] := by
  have : (150000 : Int) = ((150000 : Nat) : Int) := rfl
  rw [this, Lib.itoa_nonneg]
  simp [Lib.decDigits]
theorem sp11 : Lx.spellN 1 1 = [49] := by simp [Lx.spellN, it1]
theorem sp12 : Lx.spellN 1 2 = [48, 46, 53] := by
  have : (100000 + (1 : Int) % 2 * (100000 / 2)) = 150000 := by decide
  simp [Lx.spellN, it0, it15, Lib.trimRightB]
theorem aw_textS : textS (awT1.map Tv.of) = awS ∧ textE (awT1.map Tv.of) = 0 := by
  have hok : (awT1.map Tv.of).all Tv.ok = true := by decide +kernel
  have hsp : (awT1.map Tv.of).map Tv.sp = [[120], [49], [61], [48, 46, 53], [42], [122], [46], [108, 101, 102, 116], [59]] := by
    simp [awT1, Tv.of, Tv.sp, Lx.spell, sp11, sp12]
  rw [textS, textE, hok, hsp]
  decide

theorem fill_mem : ([102, 105, 108, 108] : List UInt8) ∈ Lx.wds := by decide +kernel
theorem pmp_mem : ([43, 45, 43] : List UInt8) ∈ Lx.sgs := by decide +kernel
theorem heap_new_b (w : World) (o : Obj) (B : Nat) (h : B ≤ w.heap.size) : Below B w (w.alloc o) := (Below.refl _ _).alloc h o
theorem fit_of (ts : List Lx.Tp) (h : ∀ t ∈ ts, -9223372036854775808 ≤ t.p ∧ t.p ≤ 9223372036854775807 ∧ -9223372036854775808 ≤ t.q ∧ t.q ≤ 9223372036854775807 ∧ t.text.length ≤ 100000) : ∀ x ∈ ts.map Tv.of, x.fit := by
  intro x hx
  obtain ⟨t, ht, rfl⟩ := List.mem_map.1 hx
  obtain ⟨h1, h2, h3, h4, h5⟩ := h t ht
  exact ⟨h1, h2, h3, h4, by show (⟨t.text.toArray⟩ : ByteArray).size ≤ maxLen; rw [ba_size]; unfold maxLen; omega⟩
theorem aw1_fit : ∀ x ∈ awT1.map Tv.of, x.fit := fit_of awT1 (by
  have : (awT1.all fun t => decide (-9223372036854775808 ≤ t.p ∧ t.p ≤ 9223372036854775807 ∧ -9223372036854775808 ≤ t.q ∧ t.q ≤ 9223372036854775807 ∧ t.text.length ≤ 100000)) = true := by decide +kernel
  intro t ht
  simpa using List.all_eq_true.1 this t ht)

end Go.Proofs.YtnhcjgnohnedaaaGreatDoor

namespace Go.Proofs.YtnhcjgnohnedaaaGreatDoor
open Go.ChangeShapes Go.WideShapes Go.ChangeAt Go.RowKit Go.Joins

theorem own : ownKnob Tryz.prog.godebug = none := by kernel_rfl
/-- A law whose row lists variables: the shape of the world is handed on, too. -/
theorem returns_and_shaped {H : Type} {enc : TypeId × Value → H} {a : Assume} {C : Checked} {os : Os} {f : FuncId} {fn : Func} {s : ChangeSpec} {apart fresh handsOn again : Bool} {X : World → Array Value → Prop}
    (hX : ∀ (w w' : World) (args : Array Value), w.heap = w'.heap → X w args → X w' args)
    (own : ownKnob C.prog.godebug = none) (started : os.Started) (noInit : C.prog.inits.idxOf? f = none) (hfn : C.prog.funcs[f]? = some fn)
    (witness : ∃ (w : World) (tape : Tape) (i : Input), w.os = os ∧ (w.forCall tape i).Shaped C.prog ∧ i.vars = [] ∧ Input.okWide C.prog (w.forCall tape i) .any w.heap.size f i ∧
      ((s.pre enc C.prog fn [] apart (w.forCall tape i).memory i.args ∧ X (w.forCall tape i).memory i.args) ∧ sizedMet enc C.prog fn (OpenSpec.ofChange s) apart (w.forCall tape i).memory i.args) ∧ a.holds C.prog (lone (Frame.enter C.prog f i.args .normal) [] (w.forCall tape i)))
    (contract : ∀ (W : World) (base : Nat) (args : Array Value) (ds gs : List (DataW H)) (before : List MemPlace),
      (∀ (j : Nat) t v, fn.params[j]? = some t → args[j]? = some v → Value.okWide C.prog W .any base t v) →
      DataW.Whole enc C.prog fn.params.toList s.vars apart W args.toList ds gs before →
      (DataW.weightsEach C.prog (fn.params.toList ++ (OpenSpec.ofChange s).bare.plain.varTypes C.prog) (ds ++ gs)).all (· ≤ reachBytes) = true →
      W.ShapedOpen C.prog → X W args →
      Calls C.prog f args W fun e W' => ∃ v, e = .returned v ∧ s.post enc C.prog fn apart fresh handsOn again W args v W') :
    ReturnsInHanded a C os f .any (fun w args => (s.pre enc C.prog fn [] apart w args ∧ X w args) ∧ sizedMet enc C.prog fn (OpenSpec.ofChange s) apart w args) (s.post enc C.prog fn apart fresh handsOn again) := by
  refine returnsInHanded_of_calls own started noInit witness ?_
  intro w tape i _ hsh _ hok hpre _
  obtain ⟨_, _, _, fn', hfn', _, _, _, _, hval⟩ := hok
  have e : fn' = fn := Option.some.inj (hfn'.symm.trans hfn)
  subst e
  obtain ⟨⟨⟨ds, gs, before, hw, _⟩, hx⟩, hz⟩ := hpre
  have hwt := hz.weights hw
  have hw' := DataW.Whole.of_heap (w' := w.forCall tape i) (by rfl) hw
  refine (contract (w.forCall tape i) w.heap.size i.args ds gs before hval hw' hwt hsh (hX _ _ _ (by rfl) hx)).mono fun e W' ⟨v, he, hp⟩ => ?_
  subst he
  exact ChangeSpec.post_blind hp

def strData (l : List (List UInt8)) : DataW Unit := .agg (l.map fun s => .lit (.string s))
theorem cells_of_strs {P : Program} {w : World} {enc : TypeId × Value → Unit} {base : Nat} {sp : Nat → Bool} {held : Bool} {fuel : Nat} {t e : TypeId} {n : Nat} {cs : List Value} {zs : List (List UInt8)} {p : List MemPlace}
    (ht : P.underlying t = some (.array n e)) (he : P.underlying e = some .string) (hce : P.cellsOf e = 1) (hct : P.cellsOf t = n)
    (h : DataW.trod enc P w base sp held fuel t cs = some (strData zs, p)) : cs = zs.map fun z => Value.string ⟨z.toArray⟩ := by
  cases fuel with
  | zero => simp [DataW.trod] at h
  | succ fuel =>
    simp only [DataW.trod, ht, hce, hct, Nat.mul_one] at h
    split at h
    · rename_i hl
      obtain ⟨xs, hm, hx⟩ := Option.map_eq_some_iff.1 h
      have hxs : xs.map (·.1) = zs.map fun z => (DataW.lit (.string z) : DataW Unit) := by
        have := congrArg Prod.fst hx
        simpa [strData] using this
      have hxl : xs.length = n := by simpa using Lib.mapM_length hm
      have hzl : zs.length = n := by
        have := congrArg List.length hxs
        simp at this
        omega
      apply List.ext_getElem?
      intro i
      by_cases hi : i < n
      · obtain ⟨b, hb, hf⟩ := Lib.mapM_at hm i i (by simp [hi])
        obtain ⟨z, hc, rfl, _⟩ := DataW.trod_string he hf
        have h1 : cs[i]? = some (.string z) := by
          have := congrArg (·[0]?) hc
          simpa [List.getElem?_take, List.getElem?_drop] using this
        have h2 : (xs.map (·.1))[i]? = some (DataW.lit (.string z.data.toList) : DataW Unit) := by simp [hb]
        rw [hxs] at h2
        simp only [List.getElem?_map, Option.map_eq_some_iff, DataW.lit.injEq, Lit.string.injEq] at h2
        obtain ⟨z', hz', rfl⟩ := h2
        simp [h1, hz']
      · rw [List.getElem?_eq_none (by omega), List.getElem?_eq_none (by simp; omega)]
    · cases h
theorem strs_of_head {P : Program} {W : World} {name : String} {zs : List (List UInt8)} {rest : List (String × DataW Unit)} {g : Nat} {t e : TypeId} {n : Nat}
    (hg : P.globalNamed name = some g) (hty : (P.globals[g]?).map (·.type) = some t) (ht : P.underlying t = some (.array n e)) (he : P.underlying e = some .string) (hce : P.cellsOf e = 1) (hct : P.cellsOf t = n)
    (h : laidMet P ((name, strData zs) :: rest) W) : ∃ tt fr, W.heap[g]? = some (.cells (strsV zs) tt fr) := by
  obtain ⟨ps, ⟨g', t', cs, fuel, p, q, hg', ht', hvar, hd, _, _⟩, _⟩ := h
  obtain rfl := Option.some.inj (hg.symm.trans hg')
  obtain rfl := Option.some.inj (hty.symm.trans ht')
  have hcs : cs = strsV zs := by
    have := cells_of_strs ht he hce hct hd
    rw [strsV, ← this]
  subst hcs
  unfold World.var? at hvar
  rw [hg] at hvar
  simp only [Option.bind_some] at hvar
  split at hvar
  · rename_i cs' tt fr hh
    injection hvar with hvar
    subst hvar
    exact ⟨tt, fr, hh⟩
  · cases hvar

/-- The listed variables of layer 3. -/
abbrev laid3 : List (String × DataW Unit) := Rows.macroExpandsRow.laid
theorem pow_type : (Tryz.prog.globals[2]?).map (·.type) = some 224 := by kernel_rfl
theorem sg_type : (Tryz.prog.globals[1]?).map (·.type) = some 185 := by kernel_rfl
theorem wd_type : (Tryz.prog.globals[0]?).map (·.type) = some 88 := by kernel_rfl
theorem sg_name : Tryz.prog.globalNamed "fleuron/lex.signs" = some 1 := by kernel_rfl
theorem wd_name : Tryz.prog.globalNamed "fleuron/lex.words" = some 0 := by kernel_rfl
theorem pow_only : (laid3.filter fun x => x.1 == "internal/strconv.uint64pow10") = [("internal/strconv.uint64pow10", Lib.tabData .u64 Lib.pow10Tab)] := by kernel_rfl
theorem sg_only : (laid3.filter fun x => x.1 == "fleuron/lex.signs") = [("fleuron/lex.signs", strData Lx.sgs)] := by kernel_rfl
theorem wd_only : (laid3.filter fun x => x.1 == "fleuron/lex.words") = [("fleuron/lex.words", strData Lx.wds)] := by kernel_rfl
theorem envL_of {W : World} (hsh : W.ShapedOpen Tryz.prog) (h : laidMetH Tryz.prog laid3 W) : EnvL W := by
  rw [MakeChecks.laidMetH_plain _ _ _ (by kernel_rfl)] at h
  have h2 := h.filter fun x => x.1 == "internal/strconv.uint64pow10"
  rw [pow_only] at h2
  have h3 := h.filter fun x => x.1 == "fleuron/lex.signs"
  rw [sg_only] at h3
  have h4 := h.filter fun x => x.1 == "fleuron/lex.words"
  rw [wd_only] at h4
  obtain ⟨m, hm⟩ : ∃ m, W.cell? ⟨7, 0, none⟩ = some (.int .i64 m) := Go.Proofs.cell_of_shapedOpen_int (zero := #[.int .i64 0]) (t := 3) hsh (of_decide_eq_true (by kernel_rfl)) (by kernel_rfl) rfl (by kernel_rfl) (by kernel_rfl) Tryz.underlying3
  refine ⟨⟨⟨m, hm⟩, Lib.tabIs_of_head pow_name pow_type Tryz.underlying224 Tryz.underlying112 (by kernel_rfl) (by kernel_rfl) h2, ?_⟩,
    strs_of_head sg_name sg_type Tryz.underlying185 Tryz.underlying9 (by kernel_rfl) (by kernel_rfl) h3, strs_of_head wd_name wd_type Tryz.underlying88 Tryz.underlying9 (by kernel_rfl) (by kernel_rfl) h4⟩
  have h7 := hsh.1 7 (((begin Tryz.prog (fun _ _ => 0) default).world.heap[7]?.bind Obj.row?).get!).1 (((begin Tryz.prog (fun _ _ => 0) default).world.heap[7]?.bind Obj.row?).get!).2 (of_decide_eq_true (by kernel_rfl)) (by kernel_rfl)
  obtain ⟨cs, hcs, _⟩ := h7
  have := (Array.getElem?_eq_some_iff.1 hcs).1
  omega
end Go.Proofs.YtnhcjgnohnedaaaGreatDoor
