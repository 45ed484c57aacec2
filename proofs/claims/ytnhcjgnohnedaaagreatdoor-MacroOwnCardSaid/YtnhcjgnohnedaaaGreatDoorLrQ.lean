/-
  Contracts of the reference of layer 3: the token with which a string begins: numbers.
  Contracts of the reference of layer 3: the token with which a string begins: numbers within the limits.
  Contracts of the reference of layer 3: the token with which a string begins: numbers that are refused.
-/
import Derived.Test.YtnhcjgnohnedaaaGreatDoorPower0
import Derived.Test.YtnhcjgnohnedaaaGreatDoorNRef6
import Derived.BigRegion
namespace Go.Proofs.YtnhcjgnohnedaaaGreatDoor
open Go.RowKit

namespace Lx
theorem drop_cons46 (l : List UInt8) (f : Nat) (h : l.getD f 0 = 46) : l.drop f = 46 :: l.drop (f + 1) := by
  have hf : f < l.length := by
    refine Nat.lt_of_not_le fun hle => ?_
    simp [List.getD, List.getElem?_eq_none hle] at h
  rw [List.drop_eq_getElem_cons hf]
  congr 1
  simpa [List.getD, List.getElem?_eq_getElem hf] using h
/-- The reference's parts of a number are those of the numeral. -/
theorem numParts_eq (l : List UInt8) : (numParts l).1 = runN digit l ∧ (numParts l).2.2 = decide (0 < numeral l) ∧ numeral l = (numParts l).1 + (if 0 < (numParts l).2.1 then 1 + (numParts l).2.1 else 0) := by
  unfold numParts numeral
  by_cases h : l.getD (runN digit l) 0 = 46
  · rw [drop_cons46 l _ h]
    by_cases h2 : 0 < runN digit (l.drop (runN digit l + 1))
    · rw [if_pos ⟨h, h2⟩]
      simp only
      rw [if_neg (by omega), if_pos h2]
      refine ⟨trivial, ?_, by omega⟩
      exact (decide_eq_true (by omega)).symm
    · rw [if_neg (fun x => h2 x.2)]
      simp only
      rw [if_pos (by omega)]
      first | exact ⟨trivial, rfl, by simp⟩ | exact ⟨trivial, trivial, by simp⟩ | simp
  · rw [if_neg (fun x => h x.1)]
    simp only
    have hd : ∀ t, l.drop (runN digit l) ≠ 46 :: t := by
      intro t e
      apply h
      have hf : runN digit l < l.length := by
        refine Nat.lt_of_not_le fun hle => ?_
        rw [List.drop_eq_nil_of_le hle] at e; cases e
      rw [List.drop_eq_getElem_cons hf] at e
      injection e with e _
      simpa [List.getD, List.getElem?_eq_getElem hf] using e
    split
    · rename_i t e; exact absurd e (hd t)
    · first | exact ⟨trivial, rfl, by simp⟩ | exact ⟨trivial, trivial, by simp⟩ | simp
theorem num_lens (l : List UInt8) : ((l.take (numeral l)).take (runN digit (l.take (numeral l)))).length = (numParts l).1 ∧ ((l.take (numeral l)).drop (runN digit (l.take (numeral l)) + 1)).length = (numParts l).2.1 := by
  obtain ⟨h1, -, h3⟩ := numParts_eq l
  have hle := numeral_le l
  have hr : runN digit (l.take (numeral l)) = (numParts l).1 := by
    rw [h1]
    have hf := runN_le digit l
    refine runN_eq digit _ _ (by rw [List.length_take]; omega) (fun i hi => ?_) ?_
    · have := runN_at digit l i hi
      rw [List.getD, List.getElem?_take, if_pos (by omega)]
      exact this
    · by_cases hb : 0 < (numParts l).2.1
      · right
        rw [if_pos hb] at h3
        rw [List.getD, List.getElem?_take, if_pos (by omega)]
        have := runN_stop digit l (by omega)
        exact this
      · left
        rw [if_neg hb] at h3
        rw [List.length_take]; omega
  rw [hr, List.length_take, List.length_take, List.length_drop, List.length_take]
  constructor
  · omega
  · split at h3 <;> omega
end Lx
/-- What the walk of a number takes. -/
structure NumPre (l : List UInt8) (f b N : Nat) : Prop where
  f1 : f = (Lx.numParts l).1
  b1 : b = (Lx.numParts l).2.1
  N1 : N = Lx.numeral l
  nn : N = f + (if 0 < b then 1 + b else 0)
  le : N ≤ l.length
  pos : 0 < N
theorem numPre (l : List UInt8) (h0 : 0 < Lx.numeral l) : NumPre l (Lx.numParts l).1 (Lx.numParts l).2.1 (Lx.numeral l) :=
  ⟨rfl, rfl, rfl, (Lx.numParts_eq l).2.2, Lx.numeral_le l, h0⟩
set_option maxRecDepth 100000 in
set_option maxHeartbeats 4000000 in
theorem rone_num_lim (l : List UInt8) (w : World) (hl : l.length ≤ 20000) (hlet : Lx.runN Lx.letter l = 0) (hnum : 0 < Lx.numeral l) (hlim : 9 < (Lx.numParts l).1 ∨ 5 < (Lx.numParts l).2.1) :
    Calls Tryz.prog 49 #[.string ⟨l.toArray⟩] w fun e w' => e = .returned (roneV (Lx.One.bad (Lx.numeral l) 3) l) ∧ Below w.heap.size w w' := by
  have HL := Lib.hid (fun W => rletters_any ⟨l.toArray⟩ W (by rw [ba_size]; unfold maxLen; omega)); have HNM := Lib.hid (fun W => rnumber_any ⟨l.toArray⟩ W (by rw [ba_size]; unfold maxLen; omega)); have P := numPre l hnum; have h22 : (Lx.numParts l).2.2 = true := (Lx.numParts_eq l).2.1.trans (decide_eq_true hnum); simp only at HL HNM; rw [hlet] at HL; rw [h22] at HNM
  have HFX0 : Hid (∀ N, N ≤ l.length → ∀ W, Calls Tryz.prog 84 #[.string ⟨(l.take N).toArray⟩] W fun e w' => e = .returned (.string ⟨(l.take (min N 40)).toArray⟩) ∧ W = w') := fun N hN W => by
    have := rfirst_any ⟨(l.take N).toArray⟩ W (by rw [ba_size, List.length_take]; unfold maxLen; omega)
    rw [ba_size, ext_head, List.length_take, show min (min N l.length) 40 = min N 40 by omega, List.take_take, show min (min N 40) N = min N 40 by omega] at this
    exact this
  generalize (Lx.numParts l).1 = f at *
  generalize (Lx.numParts l).2.1 = b at *
  generalize Lx.numeral l = N at *
  have hN := P.nn
  have hNl := P.le
  have hx := ext_head l N
  have HFX := Lib.hid (HFX0.out N hNl)
  obtain ⟨s, hs⟩ : ∃ s : ByteArray, s = ⟨l.toArray⟩ := ⟨_, rfl⟩
  have hz : s.size = l.length := by rw [hs]; rfl
  rw [← hs] at HL HNM hx ⊢
  obtain ⟨T, hT⟩ : ∃ T : ByteArray, T = ⟨(l.take N).toArray⟩ := ⟨_, rfl⟩
  obtain ⟨F, hF⟩ : ∃ F : ByteArray, F = ⟨(l.take (min N 40)).toArray⟩ := ⟨_, rfl⟩
  rw [← hT] at hx HFX
  rw [← hF] at HFX
  rw [← hz] at hl hNl
  have HF := Lib.hid hF
  clear hs hz hT hF HFX0 P h22
  by_cases hb : 0 < b
  · rw [if_pos hb] at hN
    have hNi : (f : Int) + (1 + (b : Int)) = N := by omega
    clear hN
    by_cases h9 : 9 < f
    · clear hlim
      go_enter Tryz.func49, Tryz.ntmps49
      go_wp2_with fail
      refine (HL.out _).mono ?_; rintro e w' ⟨rfl, rfl⟩
      go_wp2_with fail
      refine (HNM.out _).mono ?_; rintro e w' ⟨rfl, rfl⟩
      go_wp2_with fail
      refine (HFX.out _).mono ?_; rintro e w' ⟨rfl, rfl⟩
      go_wp2_with fail
      exact bodyPost_ret (v := roneV (Lx.One.bad N 3) l) (by simp [results, Tryz.results49, go_sem, roneV, tokV, faultV, Lx.One.bad]; exact HF.out) rfl ⟨rfl, ((Below.refl _ _).alloc (Nat.le_refl _) _).alloc (by simp) _⟩
    · have h5 : 5 < b := by omega
      clear hlim
      go_enter Tryz.func49, Tryz.ntmps49
      go_wp2_with fail
      refine (HL.out _).mono ?_; rintro e w' ⟨rfl, rfl⟩
      go_wp2_with fail
      refine (HNM.out _).mono ?_; rintro e w' ⟨rfl, rfl⟩
      go_wp2_with fail
      refine (HFX.out _).mono ?_; rintro e w' ⟨rfl, rfl⟩
      go_wp2_with fail
      exact bodyPost_ret (v := roneV (Lx.One.bad N 3) l) (by simp [results, Tryz.results49, go_sem, roneV, tokV, faultV, Lx.One.bad]; exact HF.out) rfl ⟨rfl, ((Below.refl _ _).alloc (Nat.le_refl _) _).alloc (by simp) _⟩
  · rw [if_neg hb, Nat.add_zero] at hN
    have h9 : 9 < f := by omega
    have hb0 : b = 0 := by omega
    subst hb0
    subst hN
    clear hlim hb
    · go_enter Tryz.func49, Tryz.ntmps49
      go_wp2_with fail
      refine (HL.out _).mono ?_; rintro e w' ⟨rfl, rfl⟩
      go_wp2_with fail
      refine (HNM.out _).mono ?_; rintro e w' ⟨rfl, rfl⟩
      go_wp2_with fail
      refine (HFX.out _).mono ?_; rintro e w' ⟨rfl, rfl⟩
      go_wp2_with fail
      exact bodyPost_ret (v := roneV (Lx.One.bad N 3) l) (by simp [results, Tryz.results49, go_sem, roneV, tokV, faultV, Lx.One.bad]; exact HF.out) rfl ⟨rfl, ((Below.refl _ _).alloc (Nat.le_refl _) _).alloc (by simp) _⟩
end Go.Proofs.YtnhcjgnohnedaaaGreatDoor

namespace Go.Proofs.YtnhcjgnohnedaaaGreatDoor
open Go.RowKit

set_option maxRecDepth 100000 in
set_option maxHeartbeats 8000000 in
theorem rone_num_ok (l : List UInt8) (P0 Q0 : Int) (w : World) (hl : l.length ≤ 20000) (hlet : Lx.runN Lx.letter l = 0) (hnum : 0 < Lx.numeral l) (hlim : ¬ (9 < (Lx.numParts l).1 ∨ 5 < (Lx.numParts l).2.1)) (hd : decV (l.take (Lx.numeral l)) = numV P0 Q0 0) :
    Calls Tryz.prog 49 #[.string ⟨l.toArray⟩] w fun e w' => e = .returned (roneV ⟨⟨2, [], P0, Q0⟩, Lx.numeral l, 0⟩ l) ∧ Below w.heap.size w w' := by
  have HL := Lib.hid (fun W => rletters_any ⟨l.toArray⟩ W (by rw [ba_size]; unfold maxLen; omega)); have HNM := Lib.hid (fun W => rnumber_any ⟨l.toArray⟩ W (by rw [ba_size]; unfold maxLen; omega)); have P := numPre l hnum; have h22 : (Lx.numParts l).2.2 = true := (Lx.numParts_eq l).2.1.trans (decide_eq_true hnum); simp only at HL HNM; rw [hlet] at HL; rw [h22] at HNM
  have HDC : Hid (∀ W, Calls Tryz.prog 86 #[.string ⟨(l.take (Lx.numeral l)).toArray⟩] W fun e w' => e = .returned (numV P0 Q0 0) ∧ Below W.heap.size W w') := fun W => by
    have := rdecimal_any ⟨(l.take (Lx.numeral l)).toArray⟩ W (by have := P.nn; have := P.f1; have := P.b1; rw [ba_size, List.length_take]; split at * <;> omega)
    rw [← hd]; exact this
  generalize (Lx.numParts l).1 = f at *
  generalize (Lx.numParts l).2.1 = b at *
  generalize Lx.numeral l = N at *
  have hN := P.nn
  have hNl := P.le
  have hx := ext_head l N
  obtain ⟨s, hs⟩ : ∃ s : ByteArray, s = ⟨l.toArray⟩ := ⟨_, rfl⟩
  have hz : s.size = l.length := by rw [hs]; rfl
  rw [← hs] at HL HNM hx ⊢
  obtain ⟨T, hT⟩ : ∃ T : ByteArray, T = ⟨(l.take N).toArray⟩ := ⟨_, rfl⟩
  rw [← hT] at hx HDC
  rw [← hz] at hl hNl
  have h9 : ¬ 9 < f := fun h => hlim (Or.inl h)
  have h5 : ¬ 5 < b := fun h => hlim (Or.inr h)
  clear hs hz hT P h22 hd hlim
  by_cases hb : 0 < b
  · rw [if_pos hb] at hN
    have hNi : (f : Int) + (1 + (b : Int)) = N := by omega
    clear hN
    go_enter Tryz.func49, Tryz.ntmps49
    go_wp2_with fail
    refine (HL.out _).mono ?_; rintro e w' ⟨rfl, rfl⟩
    go_wp2_with fail
    refine (HNM.out _).mono ?_; rintro e w' ⟨rfl, rfl⟩
    go_wp2_with fail
    refine (HDC.out _).mono ?_; rintro e w1 ⟨rfl, hb⟩
    simp only [numV]; have hz1 := hb.size; simp at hz1; have K1 := Lib.hid ((hb.block w.heap.size (by simp; omega)).trans (blk_alloc (heap_alloc_new w (.cells #[.int .i64 0, .string ⟨#[]⟩, .int .i64 0, .int .i64 0, .int .i64 0, .int .i64 0] 41)) (.cells #[.int .i64 0, .string ⟨#[]⟩, .int .i64 0, .int .i64 0] 27))); have K2 := Lib.hid ((hb.block (w.heap.size + 1) (by simp)).trans (blk_new2 w (.cells #[.int .i64 0, .string ⟨#[]⟩, .int .i64 0, .int .i64 0, .int .i64 0, .int .i64 0] 41) (.cells #[.int .i64 0, .string ⟨#[]⟩, .int .i64 0, .int .i64 0] 27))); have B1 := Lib.hid ((((Below.refl w.heap.size w).alloc (Nat.le_refl _) (.cells #[.int .i64 0, .string ⟨#[]⟩, .int .i64 0, .int .i64 0, .int .i64 0, .int .i64 0] 41)).alloc (by simp) (.cells #[.int .i64 0, .string ⟨#[]⟩, .int .i64 0, .int .i64 0] 27)).trans (hb.mono (by simp; omega))); clear hb; obtain ⟨⟨x0, x1, x2, x3, x4, x5⟩, ⟨y0, y1, y2, y3, y4, y5⟩, xl⟩ := blk6 K1.out; obtain ⟨⟨u0, u1, u2, u3⟩, ⟨v0, v1, v2, v3⟩, ul⟩ := blk4 K2.out
    go_wp2_with fail
    have hT6 := set6 K1.out (.int .i64 2) (.string ⟨#[]⟩) (.int .i64 P0) (.int .i64 Q0) (.int .i64 0) (.int .i64 0)
    have hF6 := (far6 (w := w1) (show w.heap.size + 1 ≠ w.heap.size by omega) (.int .i64 2) (.string ⟨#[]⟩) (.int .i64 P0) (.int .i64 Q0) (.int .i64 0) (.int .i64 0)).trans K2.out
    obtain ⟨⟨q0, q1, q2, q3, q4, q5⟩, -, -⟩ := blk6 (blk_alloc ((far4 (show w.heap.size ≠ w.heap.size + 1 by omega) (.int .i64 0) (.string ⟨#[]⟩) (.int .i64 0) (.int .i64 0)).trans hT6) (.cells #[.int .i64 P0, .int .i64 Q0] 39))
    obtain ⟨⟨r0, r1, r2, r3⟩, -, -⟩ := blk4 (blk_alloc (set4 hF6 (.int .i64 0) (.string ⟨#[]⟩) (.int .i64 0) (.int .i64 0)) (.cells #[.int .i64 P0, .int .i64 Q0] 39))
    have BF := below4 (below6 B1.out (Nat.le_refl _) (.int .i64 2) (.string ⟨#[]⟩) (.int .i64 P0) (.int .i64 Q0) (.int .i64 0) (.int .i64 0)) (b := w.heap.size + 1) (by omega) (.int .i64 0) (.string ⟨#[]⟩) (.int .i64 0) (.int .i64 0)
    exact bodyPost_ret (v := roneV ⟨⟨2, [], P0, Q0⟩, N, 0⟩ l) (by simp [results, Tryz.results49, go_sem, roneV, tokV, faultV, q0, q1, q2, q3, q4, q5, r0, r1, r2, r3]) rfl ⟨rfl, BF.alloc BF.size _⟩
  · rw [if_neg hb, Nat.add_zero] at hN
    have hb0 : b = 0 := by omega
    subst hb0
    subst hN
    clear hb
    go_enter Tryz.func49, Tryz.ntmps49
    go_wp2_with fail
    refine (HL.out _).mono ?_; rintro e w' ⟨rfl, rfl⟩
    go_wp2_with fail
    refine (HNM.out _).mono ?_; rintro e w' ⟨rfl, rfl⟩
    go_wp2_with fail
    refine (HDC.out _).mono ?_; rintro e w1 ⟨rfl, hb⟩
    simp only [numV]; have hz1 := hb.size; simp at hz1; have K1 := Lib.hid ((hb.block w.heap.size (by simp; omega)).trans (blk_alloc (heap_alloc_new w (.cells #[.int .i64 0, .string ⟨#[]⟩, .int .i64 0, .int .i64 0, .int .i64 0, .int .i64 0] 41)) (.cells #[.int .i64 0, .string ⟨#[]⟩, .int .i64 0, .int .i64 0] 27))); have K2 := Lib.hid ((hb.block (w.heap.size + 1) (by simp)).trans (blk_new2 w (.cells #[.int .i64 0, .string ⟨#[]⟩, .int .i64 0, .int .i64 0, .int .i64 0, .int .i64 0] 41) (.cells #[.int .i64 0, .string ⟨#[]⟩, .int .i64 0, .int .i64 0] 27))); have B1 := Lib.hid ((((Below.refl w.heap.size w).alloc (Nat.le_refl _) (.cells #[.int .i64 0, .string ⟨#[]⟩, .int .i64 0, .int .i64 0, .int .i64 0, .int .i64 0] 41)).alloc (by simp) (.cells #[.int .i64 0, .string ⟨#[]⟩, .int .i64 0, .int .i64 0] 27)).trans (hb.mono (by simp; omega))); clear hb; obtain ⟨⟨x0, x1, x2, x3, x4, x5⟩, ⟨y0, y1, y2, y3, y4, y5⟩, xl⟩ := blk6 K1.out; obtain ⟨⟨u0, u1, u2, u3⟩, ⟨v0, v1, v2, v3⟩, ul⟩ := blk4 K2.out
    go_wp2_with fail
    have hT6 := set6 K1.out (.int .i64 2) (.string ⟨#[]⟩) (.int .i64 P0) (.int .i64 Q0) (.int .i64 0) (.int .i64 0)
    have hF6 := (far6 (w := w1) (show w.heap.size + 1 ≠ w.heap.size by omega) (.int .i64 2) (.string ⟨#[]⟩) (.int .i64 P0) (.int .i64 Q0) (.int .i64 0) (.int .i64 0)).trans K2.out
    obtain ⟨⟨q0, q1, q2, q3, q4, q5⟩, -, -⟩ := blk6 (blk_alloc ((far4 (show w.heap.size ≠ w.heap.size + 1 by omega) (.int .i64 0) (.string ⟨#[]⟩) (.int .i64 0) (.int .i64 0)).trans hT6) (.cells #[.int .i64 P0, .int .i64 Q0] 39))
    obtain ⟨⟨r0, r1, r2, r3⟩, -, -⟩ := blk4 (blk_alloc (set4 hF6 (.int .i64 0) (.string ⟨#[]⟩) (.int .i64 0) (.int .i64 0)) (.cells #[.int .i64 P0, .int .i64 Q0] 39))
    have BF := below4 (below6 B1.out (Nat.le_refl _) (.int .i64 2) (.string ⟨#[]⟩) (.int .i64 P0) (.int .i64 Q0) (.int .i64 0) (.int .i64 0)) (b := w.heap.size + 1) (by omega) (.int .i64 0) (.string ⟨#[]⟩) (.int .i64 0) (.int .i64 0)
    exact bodyPost_ret (v := roneV ⟨⟨2, [], P0, Q0⟩, N, 0⟩ l) (by simp [results, Tryz.results49, go_sem, roneV, tokV, faultV, q0, q1, q2, q3, q4, q5, r0, r1, r2, r3]) rfl ⟨rfl, BF.alloc BF.size _⟩
end Go.Proofs.YtnhcjgnohnedaaaGreatDoor

namespace Go.Proofs.YtnhcjgnohnedaaaGreatDoor
open Go.RowKit

set_option maxRecDepth 100000 in
set_option maxHeartbeats 8000000 in
theorem rone_num_err (l : List UInt8) (P0 Q0 E0 : Int) (hE : E0 ≠ 0) (w : World) (hl : l.length ≤ 20000) (hlet : Lx.runN Lx.letter l = 0) (hnum : 0 < Lx.numeral l) (hlim : ¬ (9 < (Lx.numParts l).1 ∨ 5 < (Lx.numParts l).2.1)) (hd : decV (l.take (Lx.numeral l)) = numV P0 Q0 E0) :
    Calls Tryz.prog 49 #[.string ⟨l.toArray⟩] w fun e w' => e = .returned (roneV (Lx.One.bad (Lx.numeral l) E0) l) ∧ Below w.heap.size w w' := by
  have HL := Lib.hid (fun W => rletters_any ⟨l.toArray⟩ W (by rw [ba_size]; unfold maxLen; omega)); have HNM := Lib.hid (fun W => rnumber_any ⟨l.toArray⟩ W (by rw [ba_size]; unfold maxLen; omega)); have P := numPre l hnum; have h22 : (Lx.numParts l).2.2 = true := (Lx.numParts_eq l).2.1.trans (decide_eq_true hnum); simp only at HL HNM; rw [hlet] at HL; rw [h22] at HNM
  have HDC : Hid (∀ W, Calls Tryz.prog 86 #[.string ⟨(l.take (Lx.numeral l)).toArray⟩] W fun e w' => e = .returned (numV P0 Q0 E0) ∧ Below W.heap.size W w') := fun W => by
    have := rdecimal_any ⟨(l.take (Lx.numeral l)).toArray⟩ W (by have := P.nn; have := P.f1; have := P.b1; rw [ba_size, List.length_take]; split at * <;> omega)
    rw [← hd]; exact this
  generalize (Lx.numParts l).1 = f at *
  generalize (Lx.numParts l).2.1 = b at *
  generalize Lx.numeral l = N at *
  have hN := P.nn
  have hNl := P.le
  have hx := ext_head l N
  obtain ⟨s, hs⟩ : ∃ s : ByteArray, s = ⟨l.toArray⟩ := ⟨_, rfl⟩
  have hz : s.size = l.length := by rw [hs]; rfl
  rw [← hs] at HL HNM hx ⊢
  obtain ⟨T, hT⟩ : ∃ T : ByteArray, T = ⟨(l.take N).toArray⟩ := ⟨_, rfl⟩
  have h40 : min N 40 = N := by have := P.nn; split at this <;> omega
  have HT : Hid (T = ⟨(l.take (min N 40)).toArray⟩) := by rw [h40]; exact hT
  have HEN := Lib.hid hE
  have e1 : (E0 == 0) = false := by simpa using hE
  have e2 : (E0 != 0) = true := by simpa using hE
  rw [← hT] at hx HDC
  rw [← hz] at hl hNl
  have h9 : ¬ 9 < f := fun h => hlim (Or.inl h)
  have h5 : ¬ 5 < b := fun h => hlim (Or.inr h)
  clear hs hz hT P h22 hd hlim hE h40
  by_cases hb : 0 < b
  · rw [if_pos hb] at hN
    have hNi : (f : Int) + (1 + (b : Int)) = N := by omega
    clear hN
    go_enter Tryz.func49, Tryz.ntmps49
    go_wp2_with fail
    refine (HL.out _).mono ?_; rintro e w' ⟨rfl, rfl⟩
    go_wp2_with fail
    refine (HNM.out _).mono ?_; rintro e w' ⟨rfl, rfl⟩
    go_wp2_with fail
    refine (HDC.out _).mono ?_; rintro e w1 ⟨rfl, hb⟩
    simp only [numV]; have hz1 := hb.size; simp at hz1; have K1 := Lib.hid ((hb.block w.heap.size (by simp; omega)).trans (blk_alloc (heap_alloc_new w (.cells #[.int .i64 0, .string ⟨#[]⟩, .int .i64 0, .int .i64 0, .int .i64 0, .int .i64 0] 41)) (.cells #[.int .i64 0, .string ⟨#[]⟩, .int .i64 0, .int .i64 0] 27))); have K2 := Lib.hid ((hb.block (w.heap.size + 1) (by simp)).trans (blk_new2 w (.cells #[.int .i64 0, .string ⟨#[]⟩, .int .i64 0, .int .i64 0, .int .i64 0, .int .i64 0] 41) (.cells #[.int .i64 0, .string ⟨#[]⟩, .int .i64 0, .int .i64 0] 27))); have B1 := Lib.hid ((((Below.refl w.heap.size w).alloc (Nat.le_refl _) (.cells #[.int .i64 0, .string ⟨#[]⟩, .int .i64 0, .int .i64 0, .int .i64 0, .int .i64 0] 41)).alloc (by simp) (.cells #[.int .i64 0, .string ⟨#[]⟩, .int .i64 0, .int .i64 0] 27)).trans (hb.mono (by simp; omega))); clear hb; obtain ⟨⟨x0, x1, x2, x3, x4, x5⟩, ⟨y0, y1, y2, y3, y4, y5⟩, xl⟩ := blk6 K1.out; obtain ⟨⟨u0, u1, u2, u3⟩, ⟨v0, v1, v2, v3⟩, ul⟩ := blk4 K2.out
    go_wp2_with fail
    go_region
    go_wp2_with fail
    have hT6 := set6 K1.out (.int .i64 0) (.string ⟨#[]⟩) (.int .i64 0) (.int .i64 0) (.int .i64 0) (.int .i64 0)
    have hF6 := (far6 (w := w1) (show w.heap.size + 1 ≠ w.heap.size by omega) (.int .i64 0) (.string ⟨#[]⟩) (.int .i64 0) (.int .i64 0) (.int .i64 0) (.int .i64 0)).trans K2.out
    obtain ⟨⟨q0, q1, q2, q3, q4, q5⟩, -, -⟩ := blk6 (blk_alloc ((far4 (show w.heap.size ≠ w.heap.size + 1 by omega) (.int .i64 E0) (.string T) (.int .i64 0) (.int .i64 0)).trans hT6) (.cells #[.int .i64 P0, .int .i64 Q0] 39))
    obtain ⟨⟨r0, r1, r2, r3⟩, -, -⟩ := blk4 (blk_alloc (set4 hF6 (.int .i64 E0) (.string T) (.int .i64 0) (.int .i64 0)) (.cells #[.int .i64 P0, .int .i64 Q0] 39))
    have BF := below4 (below6 B1.out (Nat.le_refl _) (.int .i64 0) (.string ⟨#[]⟩) (.int .i64 0) (.int .i64 0) (.int .i64 0) (.int .i64 0)) (b := w.heap.size + 1) (by omega) (.int .i64 E0) (.string T) (.int .i64 0) (.int .i64 0)
    exact bodyPost_ret (v := roneV (Lx.One.bad N E0) l) (by simp [results, Tryz.results49, go_sem, roneV, tokV, faultV, Lx.One.bad, HEN.out, q0, q1, q2, q3, q4, q5, r0, r1, r2, r3]; exact HT.out) rfl ⟨rfl, (BF.alloc BF.size _).drew⟩
  · rw [if_neg hb, Nat.add_zero] at hN
    have hb0 : b = 0 := by omega
    subst hb0
    subst hN
    clear hb
    go_enter Tryz.func49, Tryz.ntmps49
    go_wp2_with fail
    refine (HL.out _).mono ?_; rintro e w' ⟨rfl, rfl⟩
    go_wp2_with fail
    refine (HNM.out _).mono ?_; rintro e w' ⟨rfl, rfl⟩
    go_wp2_with fail
    refine (HDC.out _).mono ?_; rintro e w1 ⟨rfl, hb⟩
    simp only [numV]; have hz1 := hb.size; simp at hz1; have K1 := Lib.hid ((hb.block w.heap.size (by simp; omega)).trans (blk_alloc (heap_alloc_new w (.cells #[.int .i64 0, .string ⟨#[]⟩, .int .i64 0, .int .i64 0, .int .i64 0, .int .i64 0] 41)) (.cells #[.int .i64 0, .string ⟨#[]⟩, .int .i64 0, .int .i64 0] 27))); have K2 := Lib.hid ((hb.block (w.heap.size + 1) (by simp)).trans (blk_new2 w (.cells #[.int .i64 0, .string ⟨#[]⟩, .int .i64 0, .int .i64 0, .int .i64 0, .int .i64 0] 41) (.cells #[.int .i64 0, .string ⟨#[]⟩, .int .i64 0, .int .i64 0] 27))); have B1 := Lib.hid ((((Below.refl w.heap.size w).alloc (Nat.le_refl _) (.cells #[.int .i64 0, .string ⟨#[]⟩, .int .i64 0, .int .i64 0, .int .i64 0, .int .i64 0] 41)).alloc (by simp) (.cells #[.int .i64 0, .string ⟨#[]⟩, .int .i64 0, .int .i64 0] 27)).trans (hb.mono (by simp; omega))); clear hb; obtain ⟨⟨x0, x1, x2, x3, x4, x5⟩, ⟨y0, y1, y2, y3, y4, y5⟩, xl⟩ := blk6 K1.out; obtain ⟨⟨u0, u1, u2, u3⟩, ⟨v0, v1, v2, v3⟩, ul⟩ := blk4 K2.out
    go_wp2_with fail
    go_region
    go_wp2_with fail
    have hT6 := set6 K1.out (.int .i64 0) (.string ⟨#[]⟩) (.int .i64 0) (.int .i64 0) (.int .i64 0) (.int .i64 0)
    have hF6 := (far6 (w := w1) (show w.heap.size + 1 ≠ w.heap.size by omega) (.int .i64 0) (.string ⟨#[]⟩) (.int .i64 0) (.int .i64 0) (.int .i64 0) (.int .i64 0)).trans K2.out
    obtain ⟨⟨q0, q1, q2, q3, q4, q5⟩, -, -⟩ := blk6 (blk_alloc ((far4 (show w.heap.size ≠ w.heap.size + 1 by omega) (.int .i64 E0) (.string T) (.int .i64 0) (.int .i64 0)).trans hT6) (.cells #[.int .i64 P0, .int .i64 Q0] 39))
    obtain ⟨⟨r0, r1, r2, r3⟩, -, -⟩ := blk4 (blk_alloc (set4 hF6 (.int .i64 E0) (.string T) (.int .i64 0) (.int .i64 0)) (.cells #[.int .i64 P0, .int .i64 Q0] 39))
    have BF := below4 (below6 B1.out (Nat.le_refl _) (.int .i64 0) (.string ⟨#[]⟩) (.int .i64 0) (.int .i64 0) (.int .i64 0) (.int .i64 0)) (b := w.heap.size + 1) (by omega) (.int .i64 E0) (.string T) (.int .i64 0) (.int .i64 0)
    exact bodyPost_ret (v := roneV (Lx.One.bad N E0) l) (by simp [results, Tryz.results49, go_sem, roneV, tokV, faultV, Lx.One.bad, HEN.out, q0, q1, q2, q3, q4, q5, r0, r1, r2, r3]; exact HT.out) rfl ⟨rfl, (BF.alloc BF.size _).drew⟩
end Go.Proofs.YtnhcjgnohnedaaaGreatDoor
