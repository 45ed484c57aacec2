/-
  Contracts of package lex: Text.
-/
import Derived.Test.YtmfbnlaohlnljaaGreatDoorLxQ
import Derived.Test.YtmfbnlaohlnljaaGreatDoorShelfB
namespace Go.Proofs.YtmfbnlaohlnljaaGreatDoor
open Go.RowKit

namespace Lx
/-- Strings with a blank between two. -/
def jn : List (List UInt8) → List UInt8
  | [] => []
  | x :: l => x ++ l.flatMap fun y => 32 :: y
theorem jn_snoc (l : List (List UInt8)) (y : List UInt8) (h : l ≠ []) : jn (l ++ [y]) = jn l ++ 32 :: y := by
  cases l with
  | nil => exact absurd rfl h
  | cons x l => simp [jn]
theorem jn_mono (l m : List (List UInt8)) : (jn l).length ≤ (jn (l ++ m)).length := by
  cases l with
  | nil => simp [jn]
  | cons x l => simp [jn]
end Lx
def Tv.ok (x : Tv) : Bool := Lx.vldT x.k x.t.data.toList x.p x.q
def Tv.sp (x : Tv) : List UInt8 := Lx.spell x.k x.t.data.toList x.p x.q
/-- A token whose fields fit. -/
structure Tv.fit (x : Tv) : Prop where
  p1 : -9223372036854775808 ≤ x.p
  p2 : x.p ≤ 9223372036854775807
  q1 : -9223372036854775808 ≤ x.q
  q2 : x.q ≤ 9223372036854775807
  ts : x.t.size ≤ maxLen
/-- What Text returns. -/
def textS (l : List Tv) : List UInt8 := if l.all Tv.ok = true then (if 20000 < (Lx.jn (l.map Tv.sp)).length then [] else Lx.jn (l.map Tv.sp)) else []
def textE (l : List Tv) : Int := if l.all Tv.ok = true then (if 20000 < (Lx.jn (l.map Tv.sp)).length then 3 else 0) else 2

theorem wds_short : (Lx.wds.all fun s => decide (s.length ≤ 20)) = true := by decide +kernel
theorem sgs_short : (Lx.sgs.all fun s => decide (s.length ≤ 4)) = true := by decide +kernel
theorem spell_short (k p q : Int) (t : List UInt8) (h : Lx.vldT k t p q = true) : t.length ≤ 100 ∧ (Lx.spell k t p q).length ≤ 200 ∧ (k = 2 → Lx.decB p q = true) := by
  unfold Lx.vldT at h
  by_cases k2 : k = 2
  · rw [if_pos k2] at h
    simp only [Bool.and_eq_true] at h
    refine ⟨by have := h.1; cases t <;> simp_all, ?_, fun _ => h.2⟩
    obtain ⟨hv, p0, hpq, hdv⟩ := decB_parts h.2
    obtain ⟨q1, q2, -, p2⟩ := vld_pos hv
    have q3 := div_le q1 hdv
    obtain ⟨r0, r1, d0, m0, m1⟩ := rest_bd p0 q1 q3
    have hpq0 : 0 ≤ p / q := Int.ediv_nonneg p0 (by omega)
    have l1 := Lib.itoa_length_le (p / q) (by omega) (by omega)
    have l2 := Lib.itoa_length_le (100000 + p % q * (100000 / q)) (by omega) (by omega)
    have l3 := trimR_le ((Lib.itoa (100000 + p % q * (100000 / q))).drop 1) 48
    rw [List.length_drop] at l3
    rw [Lx.spell, if_pos k2, Lx.spellN, List.length_append]
    split
    · simp; omega
    · rw [List.length_cons]; omega
  rw [if_neg k2] at h
  have hk : k = 2 → Lx.decB p q = true := fun e => absurd e k2
  split at h
  · cases h
  split at h
  · rename_i k0
    simp only [Bool.and_eq_true, decide_eq_true_eq] at h
    refine ⟨by omega, ?_, hk⟩
    rw [Lx.spell, if_neg k2, if_neg (by omega)]; omega
  split at h
  · rename_i k1
    have := List.all_eq_true.1 wds_short t (of_decide_eq_true h)
    simp only [decide_eq_true_eq] at this
    refine ⟨by omega, ?_, hk⟩
    rw [Lx.spell, if_neg k2, if_neg (by omega)]; omega
  split at h
  · rename_i k3
    simp only [Bool.and_eq_true, decide_eq_true_eq] at h
    refine ⟨by omega, ?_, hk⟩
    rw [Lx.spell, if_neg k2, if_pos k3]; simp; omega
  split at h
  · have := List.all_eq_true.1 sgs_short t (of_decide_eq_true h)
    simp only [decide_eq_true_eq] at this
    refine ⟨by omega, ?_, hk⟩
    rw [Lx.spell, if_neg k2, if_neg (by omega)]; omega
  · cases h

theorem isB_below {T e : TypeId} {B b : Nat} {bs : List Value} {w w' : World} (h : Lib.IsBuilderF T e B b bs w) (hb : Below w.heap.size w w') : Lib.IsBuilderF T e B b bs w' := by
  have key : ∀ p, Lib.BuilderAtF T e B b p bs w → Lib.BuilderAtF T e B b p bs w' := fun p ⟨h1, v, h2, h3, h4⟩ =>
    ⟨h1, v, (hb.block b (Array.getElem?_eq_some_iff.1 h2).1).trans h2, h3.kept (grown_of hb none) (by cases hv : v.ownBlock <;> simp), h4⟩
  exact h.imp (key _) (key _)
theorem isB_fresh (w : World) (T e : TypeId) : Lib.IsBuilderF T e w.heap.size w.heap.size [] (w.alloc (.cells #[.pointer none, .slice none 0 0] T)) :=
  Or.inl ⟨Nat.le_refl _, _, heap_alloc_new w _, World.ownsRowF_nil _ _ _ _, by simp [Value.ownBlock]⟩

set_option maxRecDepth 100000 in
set_option maxHeartbeats 8000000 in
theorem text_bad (A : Option Addr) (c : Nat) (l : List Tv) (w : World) (he : EnvL w) (h1 : TokSl w w.heap.size A l) (hl : l.length ≤ 1000000000) (hf : ∀ x ∈ l, x.fit) (hbad : l.all Tv.ok = false) :
    Calls Tryz.prog 24 #[.slice A l.length c] w fun e w' => e = .returned (.tuple #[.string ⟨#[]⟩, .int .i64 2]) ∧ Below w.heap.size w w' := by
  have H1 := Lib.hid h1
  have HE := Lib.hid he
  have HF := Lib.hid hf
  have HBAD := Lib.hid hbad
  generalize hL : l.length = n at *
  have HL := Lib.hid hL
  clear h1 he hf hbad hL
  go_enter Tryz.func24, Tryz.ntmps24
  go_wp2_with fail
  go_loopw [11] (fun v wr => ∃ k : Nat, v = .int .i64 k ∧ k ≤ n ∧ Hid (∀ (i : Nat) (x : Tv), i < k → l[i]? = some x → x.ok = true) ∧ Below w.heap.size w wr) (fun v _ => n - (intOf v).toNat)
  case atStart => exact ⟨0, rfl, by omega, fun i x h => by omega, Below.refl _ _⟩
  case round =>
    obtain ⟨k, rfl, hk, hs, hB⟩ := hrel
    by_cases hlt : k < n
    · obtain ⟨ad1, rfl, hb1, at1⟩ := H1.out (by rw [HL.out]; omega)
      have hx : l[k]? = some (l[k]'(by rw [HL.out]; exact hlt)) := List.getElem?_eq_getElem _
      have hmem : l[k]'(by rw [HL.out]; exact hlt) ∈ l := List.getElem_mem _
      generalize l[k]'(by rw [HL.out]; exact hlt) = x at hx hmem
      have tx := (at1 k x hx).below hB (by rw [block_of_add]; exact hb1)
      have g1 := block_of_add ad1 (k * 6)
      obtain ⟨⟨xb, xo, xs⟩, hE1⟩ : ∃ E, ad1.add (k * 6) = E := ⟨_, rfl⟩
      rw [hE1] at tx g1
      obtain ⟨x0, x1, x2, x3, x4, x5⟩ := tx
      simp only at x0 x1 x2 x3 x4 x5 g1
      have hsz := hB.size
      have HX := Lib.hid hx
      have BB := Lib.hid hB
      have hxb : xb < wr.heap.size := by omega
      have fx := HF.out x hmem
      have HV := Lib.hid (fun W (hW : EnvL W) => lvalid_any x.k x.p x.q x.a x.c x.t W hW fx.p1 fx.p2 fx.q1 fx.q2 fx.ts)
      clear hx hmem at1 g1 hb1 hB fx
      have hk0 : (0 : Int) ≤ (k : Int) := by omega
      have hk1 : (k : Int) < (n : Int) := by omega
      cases hok : x.ok
      · unfold Tv.ok at hok
        rw [hok] at HV
        clear hok
        go_wp2_with fail
        refine (HV.out _ (by exact HE.out.below (BB.out.alloc BB.out.size _))).mono ?_; rintro e w1 ⟨rfl, hb⟩
        have B1 := Lib.hid ((BB.out.alloc hsz _).trans (hb.mono (by simp; omega)))
        clear hb x0 x1 x2 x3 x4 x5
        go_wp2_with fail
        go_ret2
        exact ⟨rfl, B1.out⟩
      · have hok2 := Lib.hid hok
        unfold Tv.ok at hok
        rw [hok] at HV
        clear hok
        go_wp2_with fail
        refine (HV.out _ (by exact HE.out.below (BB.out.alloc BB.out.size _))).mono ?_; rintro e w1 ⟨rfl, hb⟩
        have B1 := Lib.hid ((BB.out.alloc hsz _).trans (hb.mono (by simp; omega)))
        clear hb x0 x1 x2 x3 x4 x5
        go_wp2_with fail
        go_roundw
        case rel =>
          refine ⟨k + 1, by go_num, by omega, ?_, B1.out⟩
          intro i u hi hu
          by_cases e : i = k
          · subst e; rw [HX.out] at hu; injection hu with hu; subst hu; exact hok2.out
          · exact hs.out i u (by omega) hu
        case measure => simp [intOf]; omega
    · exfalso
      have : l.all Tv.ok = true := by
        rw [List.all_eq_true]
        intro x hx
        obtain ⟨i, hi, rfl⟩ := List.getElem_of_mem hx
        have := HL.out
        exact hs.out i _ (by omega) (List.getElem?_eq_getElem hi)
      rw [HBAD.out] at this; cases this

theorem jn_take (l : List (List UInt8)) (k : Nat) (y : List UInt8) (h : l[k]? = some y) : Lx.jn (l.take (k + 1)) = if k = 0 then y else Lx.jn (l.take k) ++ 32 :: y := by
  have hk := (List.getElem?_eq_some_iff.1 h).1
  have hy := (List.getElem?_eq_some_iff.1 h).2
  rw [List.take_succ_eq_append_getElem hk, hy]
  by_cases h0 : k = 0
  · subst h0; simp [Lx.jn]
  · rw [if_neg h0]
    refine Lx.jn_snoc _ _ ?_
    intro e
    have := congrArg List.length e
    rw [List.length_take] at this
    simp only [List.length_nil] at this
    omega

abbrev IsB (b : Nat) (L : List UInt8) (w : World) : Prop := Lib.IsBuilderF 84 5 b b (Lib.byteCells L) w
theorem blen (b : Nat) (L : List UInt8) (w : World) (h : IsB b L w) :
    Calls Tryz.prog 46 #[.pointer (some ⟨b, 0, none⟩)] w fun e w' => e = .returned (.int .i64 (L.length : Nat)) ∧ w = w' :=
  (Tryz.Builder_Len_f b b _ w h).mono fun _ _ ⟨h1, h2⟩ => ⟨by rw [h1, Lib.byteCells_length], h2.symm⟩
theorem bytes_snoc (L : List UInt8) : Lib.byteCells (L ++ [32]) = Lib.byteCells L ++ [.int .u8 32] := by simp [Lib.byteCells]
theorem bytes_app (L s : List UInt8) : Lib.byteCells (L ++ s) = Lib.byteCells L ++ Lib.strCells ⟨s.toArray⟩ := by simp [Lib.byteCells, Lib.strCells]
theorem bbyte (b : Nat) (L : List UInt8) (w : World) (h : IsB b L w) (hL : L.length ≤ 100000) (hb : b ≤ w.heap.size) :
    Calls Tryz.prog 43 #[.pointer (some ⟨b, 0, none⟩), .int .u8 32] w fun e w' => e = .returned .nilIface ∧ IsB b (L ++ [32]) w' ∧ Below b w w' ∧ Lib.OthersKept 5 (some b) w w' :=
  (Tryz.Builder_WriteByte_k b b _ 32 w h (by rw [Lib.byteCells_length]; omega) hb).mono fun _ _ ⟨h1, h2, h3, h4⟩ => ⟨h1, Or.inr ((bytes_snoc L).symm ▸ h2), h3, h4⟩
theorem bstr (b : Nat) (L s : List UInt8) (w : World) (h : IsB b L w) (hL : L.length ≤ 100000) (hs : s.length ≤ 100000) (hb : b ≤ w.heap.size) :
    Calls Tryz.prog 44 #[.pointer (some ⟨b, 0, none⟩), .string ⟨s.toArray⟩] w fun e w' => e = .returned (.tuple #[.int .i64 (s.length : Nat), .nilIface]) ∧ IsB b (L ++ s) w' ∧ Below b w w' ∧ Lib.OthersKept 5 (some b) w w' :=
  (Tryz.Builder_WriteString_k b b _ ⟨s.toArray⟩ w h (by rw [Lib.byteCells_length, ba_size]; omega) hb).mono fun _ _ ⟨h1, h2, h3, h4⟩ => ⟨h1, Or.inr ((bytes_app L s).symm ▸ h2), h3, h4⟩
theorem bstring (b : Nat) (L : List UInt8) (w : World) (h : IsB b L w) (hb : b ≤ w.heap.size) :
    Calls Tryz.prog 47 #[.pointer (some ⟨b, 0, none⟩)] w fun e w' => e = .returned (.string ⟨L.toArray⟩) ∧ Below b w w' :=
  (Tryz.Builder_String_any_k b b L w h hb).mono fun _ _ ⟨h1, _, h3, _⟩ => ⟨h1, h3⟩
set_option maxRecDepth 100000 in
set_option maxHeartbeats 16000000 in
theorem text_ok (A : Option Addr) (c : Nat) (l : List Tv) (w : World) (he : EnvL w) (h1 : TokSl w w.heap.size A l) (hl : l.length ≤ 1000000000) (hf : ∀ x ∈ l, x.fit) (hok : l.all Tv.ok = true) (S : List UInt8) (E : Int)
    (hS : S = if 20000 < (Lx.jn (l.map Tv.sp)).length then [] else Lx.jn (l.map Tv.sp)) (hE : E = if 20000 < (Lx.jn (l.map Tv.sp)).length then 3 else 0) :
    Calls Tryz.prog 24 #[.slice A l.length c] w fun e w' => e = .returned (.tuple #[.string ⟨S.toArray⟩, .int .i64 E]) ∧ Below w.heap.size w w' := by
  have H1 := Lib.hid h1
  have HE := Lib.hid he
  have HF := Lib.hid hf
  have HOK := Lib.hid hok
  have HS := Lib.hid (And.intro hS hE)
  generalize hL : l.length = n at *
  have HL := Lib.hid hL
  clear h1 he hf hok hL hS hE
  go_enter Tryz.func24, Tryz.ntmps24
  go_wp2_with fail
  go_loopw [11] (fun v wr => ∃ k : Nat, v = .int .i64 k ∧ k ≤ n ∧ Below w.heap.size w wr) (fun v _ => n - (intOf v).toNat)
  case atStart => exact ⟨0, rfl, by omega, Below.refl _ _⟩
  case round =>
    obtain ⟨k, rfl, hk, hB⟩ := hrel
    by_cases hlt : k < n
    · obtain ⟨ad1, rfl, hb1, at1⟩ := H1.out (by rw [HL.out]; omega)
      have hx : l[k]? = some (l[k]'(by rw [HL.out]; exact hlt)) := List.getElem?_eq_getElem _
      have hmem : l[k]'(by rw [HL.out]; exact hlt) ∈ l := List.getElem_mem _
      generalize l[k]'(by rw [HL.out]; exact hlt) = x at hx hmem
      have tx := (at1 k x hx).below hB (by rw [block_of_add]; exact hb1)
      have g1 := block_of_add ad1 (k * 6)
      obtain ⟨⟨xb, xo, xs⟩, hE1⟩ : ∃ E, ad1.add (k * 6) = E := ⟨_, rfl⟩
      rw [hE1] at tx g1
      obtain ⟨x0, x1, x2, x3, x4, x5⟩ := tx
      simp only at x0 x1 x2 x3 x4 x5 g1
      have hsz := hB.size
      have BB := Lib.hid hB
      have hxb : xb < wr.heap.size := by omega
      have fx := HF.out x hmem
      have hok : x.ok = true := List.all_eq_true.1 HOK.out x hmem
      unfold Tv.ok at hok
      have hva := fun W (hW : EnvL W) => lvalid_any x.k x.p x.q x.a x.c x.t W hW fx.p1 fx.p2 fx.q1 fx.q2 fx.ts
      rw [hok] at hva
      have HV := Lib.hid hva
      clear hx hmem at1 g1 hb1 hB fx hok hva
      have hk0 : (0 : Int) ≤ (k : Int) := by omega
      have hk1 : (k : Int) < (n : Int) := by omega
      go_wp2_with fail
      refine (HV.out _ (by exact HE.out.below (BB.out.alloc BB.out.size _))).mono ?_; rintro e w1 ⟨rfl, hb⟩
      have B1 := Lib.hid ((BB.out.alloc hsz _).trans (hb.mono (by simp; omega)))
      clear hb x0 x1 x2 x3 x4 x5
      go_wp2_with fail
      go_roundw
      case rel => exact ⟨k + 1, by go_num, by omega, B1.out⟩
      case measure => simp [intOf]; omega
    · obtain rfl : k = n := by omega
      have BB := Lib.hid hB
      have hsz := hB.size
      clear hB hlt hk
      obtain ⟨w0, hw0⟩ : ∃ w0, w0 = wr := ⟨_, rfl⟩
      rw [← hw0] at BB hsz ⊢
      clear hw0
      go_wp2_with fail
      have hfr := Lib.hid (isB_fresh w0 84 5)
      go_loopw [21] (fun v wr => ∃ j : Nat, v = .int .i64 j ∧ j ≤ k ∧ Hid (Lib.IsBuilderF 84 5 w0.heap.size w0.heap.size (Lib.byteCells (Lx.jn ((l.map Tv.sp).take j))) wr) ∧ Hid ((Lx.jn ((l.map Tv.sp).take j)).length ≤ 20000) ∧ Hid (Below w.heap.size w wr) ∧ w0.heap.size < wr.heap.size) (fun v _ => k - (intOf v).toNat)
      case atStart => exact ⟨0, rfl, by omega, hfr.out, by simp [Lx.jn, Hid], BB.out.alloc hsz _, by simp⟩
      case round =>
        obtain ⟨j, rfl, hj, hbu, hlen, hB, hwz⟩ := hrel
        by_cases hlt : j < k
        · obtain ⟨ad1, rfl, hb1, at1⟩ := H1.out (by rw [HL.out]; omega)
          have hx : l[j]? = some (l[j]'(by rw [HL.out]; exact hlt)) := List.getElem?_eq_getElem _
          have hmem : l[j]'(by rw [HL.out]; exact hlt) ∈ l := List.getElem_mem _
          generalize l[j]'(by rw [HL.out]; exact hlt) = x at hx hmem
          have tx := (at1 j x hx).below hB.out (by rw [block_of_add]; exact hb1)
          have g1 := block_of_add ad1 (j * 6)
          obtain ⟨⟨xb, xo, xs⟩, hE1⟩ : ∃ E, ad1.add (j * 6) = E := ⟨_, rfl⟩
          rw [hE1] at tx g1
          obtain ⟨x0, x1, x2, x3, x4, x5⟩ := tx
          simp only at x0 x1 x2 x3 x4 x5 g1
          have hxb : xb < wr.heap.size := by omega
          have hok : x.ok = true := List.all_eq_true.1 HOK.out x hmem
          obtain ⟨s1, s2, s3⟩ := spell_short _ _ _ _ hok
          have HSP := Lib.hid (fun W (hW : EnvL W) => spelled_any x.k x.p x.q x.a x.c x.t W hW (by have := Lib.size_eq x.t; omega) s3)
          have hms : (l.map Tv.sp)[j]? = some x.sp := by rw [List.getElem?_map, hx]; rfl
          have hjt := jn_take _ _ _ hms
          have hsp : Lx.spell x.k x.t.data.toList x.p x.q = x.sp := rfl
          rw [hsp] at HSP s2
          have HJ := Lib.hid hjt
          have HEW : Hid (EnvL wr) := HE.out.below hB.out
          obtain ⟨sp, hspp⟩ : ∃ sp, sp = x.sp := ⟨_, rfl⟩
          rw [← hspp] at HSP s2 HJ
          clear hx hmem at1 g1 hb1 hok s3 s1 hms hjt hsp hspp
          have hk0 : (0 : Int) ≤ (j : Int) := by omega
          have hk1 : (j : Int) < (k : Int) := by omega
          have hB0 : Hid (Below w.heap.size w (wr.alloc (.cells #[.int .i64 x.k, .string x.t, .int .i64 x.p, .int .i64 x.q, .int .i64 x.a, .int .i64 x.c] 43))) := hB.out.alloc hB.out.size _
          have hI0 : Hid (IsB w0.heap.size (Lx.jn ((l.map Tv.sp).take j)) (wr.alloc (.cells #[.int .i64 x.k, .string x.t, .int .i64 x.p, .int .i64 x.q, .int .i64 x.a, .int .i64 x.c] 43))) := isB_below hbu.out ((Below.refl _ _).alloc (Nat.le_refl _) _)
          by_cases hj0 : j = 0
          · have hj1 : ¬ (0 : Int) < (j : Int) := by omega
            rw [if_pos hj0] at HJ
            have hL0 : (Lx.jn ((l.map Tv.sp).take j)) = [] := by rw [hj0]; rfl
            rw [hL0] at hI0
            clear hj0 hL0
            go_wp2_with fail
            refine (HSP.out _ (by exact HEW.out.below ((Below.refl _ _).alloc (Nat.le_refl _) _))).mono ?_; rintro e w1 ⟨rfl, hb⟩
            have hI1 := Lib.hid (isB_below hI0.out hb)
            have hB1 := Lib.hid (hB0.out.trans (hb.mono hB0.out.size))
            have hz1 := hb.size
            simp at hz1
            clear hb
            go_wp2_with fail
            refine (bstr w0.heap.size [] sp w1 hI1.out (by simp) (by omega) (by omega)).mono ?_; rintro e w2 ⟨rfl, hI2, hb, -⟩
            have hI3 : IsB w0.heap.size (Lx.jn ((l.map Tv.sp).take (j + 1))) w2 := by rw [HJ.out]; simpa using hI2
            have HI2 := Lib.hid hI3
            have hB2 := Lib.hid (hB1.out.trans (hb.mono hsz))
            have hz2 := hb.size
            clear hI2 hb hI3
            have hJ2 : (Lx.jn ((l.map Tv.sp).take (j + 1))).length ≤ 30000 := by have h3 := hlen.out; rw [HJ.out]; omega
            generalize hJL : Lx.jn ((l.map Tv.sp).take (j + 1)) = JL at *
            have HJL := Lib.hid hJL
            clear hJL x0 x1 x2 x3 x4 x5
            by_cases hbig : 20000 < JL.length
            · have hfin : 20000 < (Lx.jn (l.map Tv.sp)).length := by
                have := Lx.jn_mono ((l.map Tv.sp).take (j + 1)) ((l.map Tv.sp).drop (j + 1))
                rw [List.take_append_drop, HJL.out] at this
                omega
              have HS2 := HS.out
              rw [if_pos hfin, if_pos hfin] at HS2
              obtain ⟨rfl, rfl⟩ := HS2
              clear hfin HS
              go_wp2_with fail
              refine (blen w0.heap.size JL w2 HI2.out).mono ?_; rintro e w3 ⟨rfl, rfl⟩
              go_wp2_with fail
              go_ret2
              exact ⟨rfl, hB2.out⟩
            · have HLE : Hid (JL.length ≤ 20000) := by have := hbig; exact Nat.le_of_not_lt this
              go_wp2_with fail
              refine (blen w0.heap.size JL w2 HI2.out).mono ?_; rintro e w3 ⟨rfl, rfl⟩
              go_wp2_with fail
              go_roundw
              case rel => exact ⟨j + 1, by go_num, by omega, by rw [HJL.out]; exact HI2.out, by rw [HJL.out]; exact HLE.out, hB2.out, by omega⟩
              case measure => simp [intOf]; omega
          · have hj1 : (0 : Int) < (j : Int) := by omega
            rw [if_neg hj0] at HJ
            clear hj0
            go_wp2_with fail
            refine (bbyte w0.heap.size _ _ hI0.out (by have := hlen.out; omega) (by simp; omega)).mono ?_; rintro e w01 ⟨rfl, hI01, hb01, hok01⟩
            have HI01 := Lib.hid hI01
            have hB01 := Lib.hid (hB0.out.trans (hb01.mono hsz))
            have hz01 := hb01.size
            simp at hz01
            have hcl := hok01 wr.heap.size _ (heap_alloc_new wr _) (by simp; omega) (by intro c fz h; injection h with h1 h2; revert h2; decide)
            obtain ⟨⟨z0, z1, z2, z3, z4, z5⟩, -, -⟩ := blk6 hcl
            clear hI01 hb01 hok01 hcl x0 x1 x2 x3 x4 x5
            go_wp2_with fail
            refine (HSP.out _ (HE.out.below hB01.out)).mono ?_; rintro e w1 ⟨rfl, hb⟩
            have hI1 := Lib.hid (isB_below HI01.out hb)
            have hB1 := Lib.hid (hB01.out.trans (hb.mono hB01.out.size))
            have hz1 := hb.size
            clear hb z0 z1 z2 z3 z4 z5
            go_wp2_with fail
            refine (bstr w0.heap.size _ sp w1 hI1.out (by have := hlen.out; rw [List.length_append]; simp; omega) (by omega) (by omega)).mono ?_; rintro e w2 ⟨rfl, hI2, hb, -⟩
            have hI3 : IsB w0.heap.size (Lx.jn ((l.map Tv.sp).take (j + 1))) w2 := by rw [HJ.out]; simpa using hI2
            have HI2 := Lib.hid hI3
            have hB2 := Lib.hid (hB1.out.trans (hb.mono hsz))
            have hz2 := hb.size
            clear hI2 hb hI3
            have hJ2 : (Lx.jn ((l.map Tv.sp).take (j + 1))).length ≤ 30000 := by have h3 := hlen.out; rw [HJ.out]; rw [List.length_append, List.length_cons]; omega
            generalize hJL : Lx.jn ((l.map Tv.sp).take (j + 1)) = JL at *
            have HJL := Lib.hid hJL
            clear hJL
            by_cases hbig : 20000 < JL.length
            · have hfin : 20000 < (Lx.jn (l.map Tv.sp)).length := by
                have := Lx.jn_mono ((l.map Tv.sp).take (j + 1)) ((l.map Tv.sp).drop (j + 1))
                rw [List.take_append_drop, HJL.out] at this
                omega
              have HS2 := HS.out
              rw [if_pos hfin, if_pos hfin] at HS2
              obtain ⟨rfl, rfl⟩ := HS2
              clear hfin HS
              go_wp2_with fail
              refine (blen w0.heap.size JL w2 HI2.out).mono ?_; rintro e w3 ⟨rfl, rfl⟩
              go_wp2_with fail
              go_ret2
              exact ⟨rfl, hB2.out⟩
            · have HLE : Hid (JL.length ≤ 20000) := by have := hbig; exact Nat.le_of_not_lt this
              go_wp2_with fail
              refine (blen w0.heap.size JL w2 HI2.out).mono ?_; rintro e w3 ⟨rfl, rfl⟩
              go_wp2_with fail
              go_roundw
              case rel => exact ⟨j + 1, by go_num, by omega, by rw [HJL.out]; exact HI2.out, by rw [HJL.out]; exact HLE.out, hB2.out, by omega⟩
              case measure => simp [intOf]; omega
        · obtain rfl : j = k := by omega
          have hfull : (l.map Tv.sp).take j = l.map Tv.sp := List.take_of_length_le (by rw [List.length_map, HL.out]; omega)
          rw [hfull] at hbu hlen
          have HS2 := HS.out
          have hle := hlen.out
          rw [if_neg (by omega), if_neg (by omega)] at HS2
          obtain ⟨hSS, rfl⟩ := HS2
          rw [← hSS] at hbu
          clear HS hfull hle hSS
          go_wp2_with fail
          refine (bstring w0.heap.size S wr hbu.out (by omega)).mono ?_; rintro e w3 ⟨rfl, hb⟩
          have hB2 := Lib.hid (hB.out.trans (hb.mono hsz))
          clear hb
          go_wp2_with fail
          go_ret2
          exact ⟨rfl, hB2.out⟩

/-- What Text returns, of any tokens. -/
theorem text_any' (A : Option Addr) (c : Nat) (l : List Tv) (w : World) (he : EnvL w) (h1 : TokSl w w.heap.size A l) (hl : l.length ≤ 1000000000) (hf : ∀ x ∈ l, x.fit) :
    Calls Tryz.prog 24 #[.slice A l.length c] w fun e w' => e = .returned (.tuple #[.string ⟨(textS l).toArray⟩, .int .i64 (textE l)]) ∧ Below w.heap.size w w' := by
  cases h : l.all Tv.ok
  · have e1 : textS l = [] := by rw [textS, h]; rfl
    have e2 : textE l = 2 := by rw [textE, h]; rfl
    rw [e1, e2]
    exact text_bad A c l w he h1 hl hf h
  · exact text_ok A c l w he h1 hl hf h _ _ (by rw [textS, h, if_pos rfl]) (by rw [textE, h, if_pos rfl])
end Go.Proofs.YtmfbnlaohlnljaaGreatDoor
