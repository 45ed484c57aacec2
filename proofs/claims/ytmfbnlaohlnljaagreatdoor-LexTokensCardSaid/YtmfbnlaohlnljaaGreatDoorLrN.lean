/-
  Contracts of the reference of layer 3: the token with which a string begins: numbers within the limits.
-/
import Derived.Test.YtmfbnlaohlnljaaGreatDoorLrM
namespace Go.Proofs.YtmfbnlaohlnljaaGreatDoor
open Go.RowKit

set_option maxRecDepth 100000 in
set_option maxHeartbeats 8000000 in
theorem rone_num_ok (l : List UInt8) (P0 Q0 : Int) (w : World) (hl : l.length ≤ 20000) (hlet : Lx.runN Lx.letter l = 0) (hnum : 0 < Lx.numeral l) (hlim : ¬ (9 < (Lx.numParts l).1 ∨ 5 < (Lx.numParts l).2.1)) (hd : decV (l.take (Lx.numeral l)) = numV P0 Q0 0) :
    Calls Tryz.prog 30 #[.string ⟨l.toArray⟩] w fun e w' => e = .returned (roneV ⟨⟨2, [], P0, Q0⟩, Lx.numeral l, 0⟩ l) ∧ Below w.heap.size w w' := by
  have HL := Lib.hid (fun W => rletters_any ⟨l.toArray⟩ W (by rw [ba_size]; unfold maxLen; omega)); have HNM := Lib.hid (fun W => rnumber_any ⟨l.toArray⟩ W (by rw [ba_size]; unfold maxLen; omega)); have P := numPre l hnum; have h22 : (Lx.numParts l).2.2 = true := (Lx.numParts_eq l).2.1.trans (decide_eq_true hnum); simp only at HL HNM; rw [hlet] at HL; rw [h22] at HNM
  have HDC : Hid (∀ W, Calls Tryz.prog 60 #[.string ⟨(l.take (Lx.numeral l)).toArray⟩] W fun e w' => e = .returned (numV P0 Q0 0) ∧ Below W.heap.size W w') := fun W => by
    have := rdecimal_any ⟨(l.take (Lx.numeral l)).toArray⟩ W (by have := P.nn; have := P.f1; have := P.b1; rw [ba_size, List.length_take]; split at * <;> omega)
    rw [← hd]; exact this
  generalize (Lx.numParts l).1 = f at *
  generalize (Lx.numParts l).2.1 = b at *
  generalize Lx.numeral l = N at *
  have hN := P.nn
  have hNl := P.le
  have hx := ext_head l N
  obtain ⟨s, hs⟩ : ∃ s : ByteArray, s = ⟨l.toArray⟩ := ⟨_, rfl⟩
  have hz : s.size = l.length := by rw [hs]; rfl
  rw [← hs] at HL HNM hx ⊢
  obtain ⟨T, hT⟩ : ∃ T : ByteArray, T = ⟨(l.take N).toArray⟩ := ⟨_, rfl⟩
  rw [← hT] at hx HDC
  rw [← hz] at hl hNl
  have h9 : ¬ 9 < f := fun h => hlim (Or.inl h)
  have h5 : ¬ 5 < b := fun h => hlim (Or.inr h)
  clear hs hz hT P h22 hd hlim
  by_cases hb : 0 < b
  · rw [if_pos hb] at hN
    have hNi : (f : Int) + (1 + (b : Int)) = N := by omega
    clear hN
    go_enter Tryz.func30, Tryz.ntmps30
    go_wp2_with fail
    refine (HL.out _).mono ?_; rintro e w' ⟨rfl, rfl⟩
    go_wp2_with fail
    refine (HNM.out _).mono ?_; rintro e w' ⟨rfl, rfl⟩
    go_wp2_with fail
    refine (HDC.out _).mono ?_; rintro e w1 ⟨rfl, hb⟩
    simp only [numV]; have hz1 := hb.size; simp at hz1; have K1 := Lib.hid ((hb.block w.heap.size (by simp; omega)).trans (blk_alloc (heap_alloc_new w (.cells #[.int .i64 0, .string ⟨#[]⟩, .int .i64 0, .int .i64 0, .int .i64 0, .int .i64 0] 43)) (.cells #[.int .i64 0, .string ⟨#[]⟩, .int .i64 0, .int .i64 0] 26))); have K2 := Lib.hid ((hb.block (w.heap.size + 1) (by simp)).trans (blk_new2 w (.cells #[.int .i64 0, .string ⟨#[]⟩, .int .i64 0, .int .i64 0, .int .i64 0, .int .i64 0] 43) (.cells #[.int .i64 0, .string ⟨#[]⟩, .int .i64 0, .int .i64 0] 26))); have B1 := Lib.hid ((((Below.refl w.heap.size w).alloc (Nat.le_refl _) (.cells #[.int .i64 0, .string ⟨#[]⟩, .int .i64 0, .int .i64 0, .int .i64 0, .int .i64 0] 43)).alloc (by simp) (.cells #[.int .i64 0, .string ⟨#[]⟩, .int .i64 0, .int .i64 0] 26)).trans (hb.mono (by simp; omega))); clear hb; obtain ⟨⟨x0, x1, x2, x3, x4, x5⟩, ⟨y0, y1, y2, y3, y4, y5⟩, xl⟩ := blk6 K1.out; obtain ⟨⟨u0, u1, u2, u3⟩, ⟨v0, v1, v2, v3⟩, ul⟩ := blk4 K2.out
    go_wp2_with fail
    have hT6 := set6 K1.out (.int .i64 2) (.string ⟨#[]⟩) (.int .i64 P0) (.int .i64 Q0) (.int .i64 0) (.int .i64 0)
    have hF6 := (far6 (w := w1) (show w.heap.size + 1 ≠ w.heap.size by omega) (.int .i64 2) (.string ⟨#[]⟩) (.int .i64 P0) (.int .i64 Q0) (.int .i64 0) (.int .i64 0)).trans K2.out
    obtain ⟨⟨q0, q1, q2, q3, q4, q5⟩, -, -⟩ := blk6 (blk_alloc ((far4 (show w.heap.size ≠ w.heap.size + 1 by omega) (.int .i64 0) (.string ⟨#[]⟩) (.int .i64 0) (.int .i64 0)).trans hT6) (.cells #[.int .i64 P0, .int .i64 Q0] 41))
    obtain ⟨⟨r0, r1, r2, r3⟩, -, -⟩ := blk4 (blk_alloc (set4 hF6 (.int .i64 0) (.string ⟨#[]⟩) (.int .i64 0) (.int .i64 0)) (.cells #[.int .i64 P0, .int .i64 Q0] 41))
    have BF := below4 (below6 B1.out (Nat.le_refl _) (.int .i64 2) (.string ⟨#[]⟩) (.int .i64 P0) (.int .i64 Q0) (.int .i64 0) (.int .i64 0)) (b := w.heap.size + 1) (by omega) (.int .i64 0) (.string ⟨#[]⟩) (.int .i64 0) (.int .i64 0)
    exact bodyPost_ret (v := roneV ⟨⟨2, [], P0, Q0⟩, N, 0⟩ l) (by simp [results, Tryz.results30, go_sem, roneV, tokV, faultV, q0, q1, q2, q3, q4, q5, r0, r1, r2, r3]) rfl ⟨rfl, BF.alloc BF.size _⟩
  · rw [if_neg hb, Nat.add_zero] at hN
    have hb0 : b = 0 := by omega
    subst hb0
    subst hN
    clear hb
    go_enter Tryz.func30, Tryz.ntmps30
    go_wp2_with fail
    refine (HL.out _).mono ?_; rintro e w' ⟨rfl, rfl⟩
    go_wp2_with fail
    refine (HNM.out _).mono ?_; rintro e w' ⟨rfl, rfl⟩
    go_wp2_with fail
    refine (HDC.out _).mono ?_; rintro e w1 ⟨rfl, hb⟩
    simp only [numV]; have hz1 := hb.size; simp at hz1; have K1 := Lib.hid ((hb.block w.heap.size (by simp; omega)).trans (blk_alloc (heap_alloc_new w (.cells #[.int .i64 0, .string ⟨#[]⟩, .int .i64 0, .int .i64 0, .int .i64 0, .int .i64 0] 43)) (.cells #[.int .i64 0, .string ⟨#[]⟩, .int .i64 0, .int .i64 0] 26))); have K2 := Lib.hid ((hb.block (w.heap.size + 1) (by simp)).trans (blk_new2 w (.cells #[.int .i64 0, .string ⟨#[]⟩, .int .i64 0, .int .i64 0, .int .i64 0, .int .i64 0] 43) (.cells #[.int .i64 0, .string ⟨#[]⟩, .int .i64 0, .int .i64 0] 26))); have B1 := Lib.hid ((((Below.refl w.heap.size w).alloc (Nat.le_refl _) (.cells #[.int .i64 0, .string ⟨#[]⟩, .int .i64 0, .int .i64 0, .int .i64 0, .int .i64 0] 43)).alloc (by simp) (.cells #[.int .i64 0, .string ⟨#[]⟩, .int .i64 0, .int .i64 0] 26)).trans (hb.mono (by simp; omega))); clear hb; obtain ⟨⟨x0, x1, x2, x3, x4, x5⟩, ⟨y0, y1, y2, y3, y4, y5⟩, xl⟩ := blk6 K1.out; obtain ⟨⟨u0, u1, u2, u3⟩, ⟨v0, v1, v2, v3⟩, ul⟩ := blk4 K2.out
    go_wp2_with fail
    have hT6 := set6 K1.out (.int .i64 2) (.string ⟨#[]⟩) (.int .i64 P0) (.int .i64 Q0) (.int .i64 0) (.int .i64 0)
    have hF6 := (far6 (w := w1) (show w.heap.size + 1 ≠ w.heap.size by omega) (.int .i64 2) (.string ⟨#[]⟩) (.int .i64 P0) (.int .i64 Q0) (.int .i64 0) (.int .i64 0)).trans K2.out
    obtain ⟨⟨q0, q1, q2, q3, q4, q5⟩, -, -⟩ := blk6 (blk_alloc ((far4 (show w.heap.size ≠ w.heap.size + 1 by omega) (.int .i64 0) (.string ⟨#[]⟩) (.int .i64 0) (.int .i64 0)).trans hT6) (.cells #[.int .i64 P0, .int .i64 Q0] 41))
    obtain ⟨⟨r0, r1, r2, r3⟩, -, -⟩ := blk4 (blk_alloc (set4 hF6 (.int .i64 0) (.string ⟨#[]⟩) (.int .i64 0) (.int .i64 0)) (.cells #[.int .i64 P0, .int .i64 Q0] 41))
    have BF := below4 (below6 B1.out (Nat.le_refl _) (.int .i64 2) (.string ⟨#[]⟩) (.int .i64 P0) (.int .i64 Q0) (.int .i64 0) (.int .i64 0)) (b := w.heap.size + 1) (by omega) (.int .i64 0) (.string ⟨#[]⟩) (.int .i64 0) (.int .i64 0)
    exact bodyPost_ret (v := roneV ⟨⟨2, [], P0, Q0⟩, N, 0⟩ l) (by simp [results, Tryz.results30, go_sem, roneV, tokV, faultV, q0, q1, q2, q3, q4, q5, r0, r1, r2, r3]) rfl ⟨rfl, BF.alloc BF.size _⟩
end Go.Proofs.YtmfbnlaohlnljaaGreatDoor
