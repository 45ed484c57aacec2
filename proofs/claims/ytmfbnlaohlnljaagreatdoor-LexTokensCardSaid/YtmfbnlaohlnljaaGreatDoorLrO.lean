/-
  Contracts of the reference of layer 3: the token with which a string begins: signs.
-/
import Derived.Test.YtmfbnlaohlnljaaGreatDoorLrN
namespace Go.Proofs.YtmfbnlaohlnljaaGreatDoor
open Go.RowKit

set_option maxRecDepth 100000 in
set_option maxHeartbeats 8000000 in
theorem rone_sign (l : List UInt8) (w : World) (hl : l.length ≤ 20000) (hne : l ≠ []) (hlet : Lx.runN Lx.letter l = 0) (hnum : Lx.numeral l = 0) (hq : l.getD 0 0 ≠ 34) (hs1 : Lx.sgn l ≠ []) :
    Calls Tryz.prog 30 #[.string ⟨l.toArray⟩] w fun e w' => e = .returned (roneV ⟨⟨4, Lx.sgn l, 0, 0⟩, (Lx.sgn l).length, 0⟩ l) ∧ Below w.heap.size w w' := by
  have HL := Lib.hid (fun W => rletters_any ⟨l.toArray⟩ W (by rw [ba_size]; unfold maxLen; omega))
  have HNM := Lib.hid (fun W => rnumber_any ⟨l.toArray⟩ W (by rw [ba_size]; unfold maxLen; omega))
  have HSG := Lib.hid (fun W => rsgn_any ⟨l.toArray⟩ W (by rw [ba_size]; unfold maxLen; omega))
  have h22 : (Lx.numParts l).2.2 = false := (Lx.numParts_eq l).2.1.trans (decide_eq_false (by omega))
  simp only at HL HNM HSG
  rw [hlet] at HL
  rw [h22] at HNM
  have hpos : 0 < l.length := List.length_pos_iff.2 hne
  obtain ⟨s, hs⟩ : ∃ s : ByteArray, s = ⟨l.toArray⟩ := ⟨_, rfl⟩
  have hz : s.size = l.length := by rw [hs]; rfl
  have hsz0 : 0 < s.size := by omega
  have hs0 : s[0] = l.getD 0 0 := by rw [ba_get s 0 hsz0, hs]
  have hc34 : ((s[0].toNat : Int) == 34) = false := by
    rw [hs0]
    exact u8_ne (fun e => hq (UInt8.toNat_inj.1 (by have : ((34 : UInt8).toNat : Int) = 34 := rfl; omega)))
  have hsl : (Lx.sgn l).length ≤ 4 ∧ 0 < (Lx.sgn l).length := by
    rcases Lx.sgn_mem l with h | h
    · exact absurd h hs1
    · have := Lx.sgs_small _ h.1; omega
  obtain ⟨S, hS⟩ : ∃ S : ByteArray, S = ⟨(Lx.sgn l).toArray⟩ := ⟨_, rfl⟩
  have hSz : S.size = (Lx.sgn l).length := by rw [hS]; rfl
  have hSe : S.toList.isEmpty = false := by rw [Lib.toList_data, hS]; simpa using hs1
  rw [← hs] at HL HNM HSG ⊢
  rw [← hS] at HSG
  have HS := Lib.hid hS
  have HSZ := Lib.hid hSz
  have hS4 : S.size ≤ 4 := by omega
  generalize (Lx.numParts l).1 = f at HNM
  generalize (Lx.numParts l).2.1 = b at HNM
  clear hs hS hSz hs0 hz hpos h22 hsl hs1 hq hne
  go_enter Tryz.func30, Tryz.ntmps30
  go_wp2_with fail
  refine (HL.out _).mono ?_; rintro e w' ⟨rfl, rfl⟩
  go_wp2_with fail
  refine (HNM.out _).mono ?_; rintro e w' ⟨rfl, rfl⟩
  go_wp2_with fail
  refine (HSG.out _).mono ?_; rintro e w1 ⟨rfl, hb⟩
  simp only [numV]; have hz1 := hb.size; simp at hz1; have K1 := Lib.hid ((hb.block w.heap.size (by simp; omega)).trans (blk_alloc (heap_alloc_new w (.cells #[.int .i64 0, .string ⟨#[]⟩, .int .i64 0, .int .i64 0, .int .i64 0, .int .i64 0] 43)) (.cells #[.int .i64 0, .string ⟨#[]⟩, .int .i64 0, .int .i64 0] 26))); have K2 := Lib.hid ((hb.block (w.heap.size + 1) (by simp)).trans (blk_new2 w (.cells #[.int .i64 0, .string ⟨#[]⟩, .int .i64 0, .int .i64 0, .int .i64 0, .int .i64 0] 43) (.cells #[.int .i64 0, .string ⟨#[]⟩, .int .i64 0, .int .i64 0] 26))); have B1 := Lib.hid ((((Below.refl w.heap.size w).alloc (Nat.le_refl _) (.cells #[.int .i64 0, .string ⟨#[]⟩, .int .i64 0, .int .i64 0, .int .i64 0, .int .i64 0] 43)).alloc (by simp) (.cells #[.int .i64 0, .string ⟨#[]⟩, .int .i64 0, .int .i64 0] 26)).trans (hb.mono (by simp; omega))); clear hb; obtain ⟨⟨x0, x1, x2, x3, x4, x5⟩, ⟨y0, y1, y2, y3, y4, y5⟩, xl⟩ := blk6 K1.out; obtain ⟨⟨u0, u1, u2, u3⟩, ⟨v0, v1, v2, v3⟩, ul⟩ := blk4 K2.out
  go_wp2_with fail
  have hT6 := set6 K1.out (.int .i64 4) (.string S) (.int .i64 0) (.int .i64 0) (.int .i64 0) (.int .i64 0)
  have hF6 := (far6 (w := w1) (show w.heap.size + 1 ≠ w.heap.size by omega) (.int .i64 4) (.string S) (.int .i64 0) (.int .i64 0) (.int .i64 0) (.int .i64 0)).trans K2.out
  obtain ⟨⟨q0, q1, q2, q3, q4, q5⟩, -, -⟩ := blk6 ((far4 (show w.heap.size ≠ w.heap.size + 1 by omega) (.int .i64 0) (.string ⟨#[]⟩) (.int .i64 0) (.int .i64 0)).trans hT6)
  obtain ⟨⟨r0, r1, r2, r3⟩, -, -⟩ := blk4 (set4 hF6 (.int .i64 0) (.string ⟨#[]⟩) (.int .i64 0) (.int .i64 0))
  have BF := below4 (below6 B1.out (Nat.le_refl _) (.int .i64 4) (.string S) (.int .i64 0) (.int .i64 0) (.int .i64 0) (.int .i64 0)) (b := w.heap.size + 1) (by omega) (.int .i64 0) (.string ⟨#[]⟩) (.int .i64 0) (.int .i64 0)

  exact bodyPost_ret (v := roneV ⟨⟨4, Lx.sgn l, 0, 0⟩, (Lx.sgn l).length, 0⟩ l) (by simp [results, Tryz.results30, go_sem, roneV, tokV, faultV, q0, q1, q2, q3, q4, q5, r0, r1, r2, r3]; exact ⟨HS.out, by have := HSZ.out; omega⟩) rfl ⟨rfl, BF⟩
end Go.Proofs.YtmfbnlaohlnljaaGreatDoor
