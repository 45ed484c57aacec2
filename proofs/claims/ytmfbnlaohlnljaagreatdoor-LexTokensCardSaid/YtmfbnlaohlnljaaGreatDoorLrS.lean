/-
  Contracts of the reference of layer 3: the token with which a string begins: no sign.
  Contracts of the reference of layer 3: the token with which a string begins, whatever it is.
-/
import Derived.Test.YtmfbnlaohlnljaaGreatDoorLrN
import Derived.BigRegion
import Derived.Test.YtmfbnlaohlnljaaGreatDoorLrR
import Derived.Test.YtmfbnlaohlnljaaGreatDoorLrO
namespace Go.Proofs.YtmfbnlaohlnljaaGreatDoor
open Go.RowKit

set_option maxRecDepth 100000 in
set_option maxHeartbeats 8000000 in
theorem rone_none (l : List UInt8) (w : World) (hl : l.length ≤ 20000) (hne : l ≠ []) (hlet : Lx.runN Lx.letter l = 0) (hnum : Lx.numeral l = 0) (hq : l.getD 0 0 ≠ 34) (hs1 : Lx.sgn l = []) :
    Calls Tryz.prog 30 #[.string ⟨l.toArray⟩] w fun e w' => e = .returned (roneV (Lx.One.bad 1 10) l) ∧ Below w.heap.size w w' := by
  have HL := Lib.hid (fun W => rletters_any ⟨l.toArray⟩ W (by rw [ba_size]; unfold maxLen; omega))
  have HNM := Lib.hid (fun W => rnumber_any ⟨l.toArray⟩ W (by rw [ba_size]; unfold maxLen; omega))
  have HSG := Lib.hid (fun W => rsgn_any ⟨l.toArray⟩ W (by rw [ba_size]; unfold maxLen; omega))
  have h22 : (Lx.numParts l).2.2 = false := (Lx.numParts_eq l).2.1.trans (decide_eq_false (by omega))
  simp only at HL HNM HSG
  rw [hlet] at HL
  rw [h22] at HNM
  have hpos : 0 < l.length := List.length_pos_iff.2 hne
  obtain ⟨s, hs⟩ : ∃ s : ByteArray, s = ⟨l.toArray⟩ := ⟨_, rfl⟩
  have hz : s.size = l.length := by rw [hs]; rfl
  have hsz0 : 0 < s.size := by omega
  have hs0 : s[0] = l.getD 0 0 := by rw [ba_get s 0 hsz0, hs]
  have hc34 : ((s[0].toNat : Int) == 34) = false := by
    rw [hs0]
    exact u8_ne (fun e => hq (UInt8.toNat_inj.1 (by have : ((34 : UInt8).toNat : Int) = 34 := rfl; omega)))
  have hx := ext_head l 1
  obtain ⟨F, hF⟩ : ∃ F : ByteArray, F = ⟨(l.take 1).toArray⟩ := ⟨_, rfl⟩
  rw [← hF] at hx
  have HF := Lib.hid hF
  rw [hs1] at HSG
  rw [← hs] at HL HNM HSG hx ⊢
  generalize (Lx.numParts l).1 = f at HNM
  generalize (Lx.numParts l).2.1 = b at HNM
  clear hs hs0 hz hpos h22 hs1 hq hne hF
  go_enter Tryz.func30, Tryz.ntmps30
  go_wp2_with fail
  refine (HL.out _).mono ?_; rintro e w' ⟨rfl, rfl⟩
  go_wp2_with fail
  refine (HNM.out _).mono ?_; rintro e w' ⟨rfl, rfl⟩
  go_wp2_with fail
  refine (HSG.out _).mono ?_; rintro e w1 ⟨rfl, hb⟩
  simp only [numV]; have hz1 := hb.size; simp at hz1; have K1 := Lib.hid ((hb.block w.heap.size (by simp; omega)).trans (blk_alloc (heap_alloc_new w (.cells #[.int .i64 0, .string ⟨#[]⟩, .int .i64 0, .int .i64 0, .int .i64 0, .int .i64 0] 43)) (.cells #[.int .i64 0, .string ⟨#[]⟩, .int .i64 0, .int .i64 0] 26))); have K2 := Lib.hid ((hb.block (w.heap.size + 1) (by simp)).trans (blk_new2 w (.cells #[.int .i64 0, .string ⟨#[]⟩, .int .i64 0, .int .i64 0, .int .i64 0, .int .i64 0] 43) (.cells #[.int .i64 0, .string ⟨#[]⟩, .int .i64 0, .int .i64 0] 26))); have B1 := Lib.hid ((((Below.refl w.heap.size w).alloc (Nat.le_refl _) (.cells #[.int .i64 0, .string ⟨#[]⟩, .int .i64 0, .int .i64 0, .int .i64 0, .int .i64 0] 43)).alloc (by simp) (.cells #[.int .i64 0, .string ⟨#[]⟩, .int .i64 0, .int .i64 0] 26)).trans (hb.mono (by simp; omega))); clear hb; obtain ⟨⟨x0, x1, x2, x3, x4, x5⟩, ⟨y0, y1, y2, y3, y4, y5⟩, xl⟩ := blk6 K1.out; obtain ⟨⟨u0, u1, u2, u3⟩, ⟨v0, v1, v2, v3⟩, ul⟩ := blk4 K2.out
  go_wp2_with fail
  go_region
  go_wp2_with fail
  have hT6 := set6 K1.out (.int .i64 0) (.string ⟨#[]⟩) (.int .i64 0) (.int .i64 0) (.int .i64 0) (.int .i64 0)
  have hF6 := (far6 (w := w1) (show w.heap.size + 1 ≠ w.heap.size by omega) (.int .i64 0) (.string ⟨#[]⟩) (.int .i64 0) (.int .i64 0) (.int .i64 0) (.int .i64 0)).trans K2.out
  obtain ⟨⟨q0, q1, q2, q3, q4, q5⟩, -, -⟩ := blk6 ((far4 (show w.heap.size ≠ w.heap.size + 1 by omega) (.int .i64 10) (.string F) (.int .i64 0) (.int .i64 0)).trans hT6)
  obtain ⟨⟨r0, r1, r2, r3⟩, -, -⟩ := blk4 (set4 hF6 (.int .i64 10) (.string F) (.int .i64 0) (.int .i64 0))
  have BF := below4 (below6 B1.out (Nat.le_refl _) (.int .i64 0) (.string ⟨#[]⟩) (.int .i64 0) (.int .i64 0) (.int .i64 0) (.int .i64 0)) (b := w.heap.size + 1) (by omega) (.int .i64 10) (.string F) (.int .i64 0) (.int .i64 0)
  exact bodyPost_ret (v := roneV (Lx.One.bad 1 10) l) (by simp [results, Tryz.results30, go_sem, roneV, tokV, faultV, Lx.One.bad, q0, q1, q2, q3, q4, q5, r0, r1, r2, r3]; exact HF.out) rfl ⟨rfl, BF.drew⟩
end Go.Proofs.YtmfbnlaohlnljaaGreatDoor

namespace Go.Proofs.YtmfbnlaohlnljaaGreatDoor
open Go.RowKit

theorem rone_any (l : List UInt8) (w : World) (hl : l.length ≤ 20000) (hne : l ≠ []) :
    Calls Tryz.prog 30 #[.string ⟨l.toArray⟩] w fun e w' => e = .returned (roneV (Lx.first l) l) ∧ Below w.heap.size w w' := by
  by_cases hlet : 0 < Lx.runN Lx.letter l
  · by_cases h40 : 40 < Lx.runN Lx.letter l
    · rw [Lx.first, if_pos hlet, if_pos h40]
      exact rone_long l w hl h40
    · rw [Lx.first, if_pos hlet, if_neg h40]
      exact rone_name l w hl hlet (by omega)
  have hlet0 : Lx.runN Lx.letter l = 0 := by omega
  by_cases hnum : 0 < Lx.numeral l
  · rw [Lx.first, if_neg hlet, if_pos hnum]
    obtain ⟨n1, n2⟩ := Lx.num_lens l
    have hN : (l.take (Lx.numeral l)).length = Lx.numeral l := by rw [List.length_take]; have := Lx.numeral_le l; omega
    by_cases hlim : 9 < (Lx.numParts l).1 ∨ 5 < (Lx.numParts l).2.1
    · have e : Lx.numOf (l.take (Lx.numeral l)) = Lx.One.bad (Lx.numeral l) 3 := by
        rw [← n1, ← n2] at hlim
        simp only [Lx.numOf]
        rw [if_pos hlim, hN]
      rw [e]
      exact rone_num_lim l w hl hlet0 hnum hlim
    · have hd := Lx.decV_numeral l hnum
      have e : ∃ P Q E, (E = 0 ∧ Lx.numOf (l.take (Lx.numeral l)) = ⟨⟨2, [], P, Q⟩, Lx.numeral l, 0⟩) ∨ (E = 17 ∧ Lx.numOf (l.take (Lx.numeral l)) = Lx.One.bad (Lx.numeral l) 17) := by
        have hlim2 := hlim
        rw [← n1, ← n2] at hlim2
        simp only [Lx.numOf]
        rw [if_neg hlim2, hN]
        by_cases hz : Nm.mkE (dval ((l.take (Lx.numeral l)).take (Lx.runN Lx.digit (l.take (Lx.numeral l))) ++ (l.take (Lx.numeral l)).drop (Lx.runN Lx.digit (l.take (Lx.numeral l)) + 1))) ((10 ^ ((l.take (Lx.numeral l)).drop (Lx.runN Lx.digit (l.take (Lx.numeral l)) + 1)).length : Nat) : Int) = 0
        · exact ⟨_, _, 0, Or.inl ⟨rfl, if_pos hz⟩⟩
        · exact ⟨0, 0, 17, Or.inr ⟨rfl, if_neg hz⟩⟩
      obtain ⟨P, Q, E, ⟨-, e⟩ | ⟨-, e⟩⟩ := e
      · rw [e] at hd ⊢
        rw [if_neg (show ¬ (0 : Int) = 3 by decide)] at hd
        exact rone_num_ok l P Q w hl hlet0 hnum hlim hd
      · rw [e] at hd ⊢
        rw [if_neg (show ¬ (Lx.One.bad (Lx.numeral l) 17).e = 3 from fun h => absurd (show (17 : Int) = 3 from h) (by decide))] at hd
        exact rone_num_err l 0 0 17 (by decide) w hl hlet0 hnum hlim hd
  have hnum0 : Lx.numeral l = 0 := by omega
  by_cases hq : l.getD 0 0 = 34
  · rw [Lx.first, if_neg hlet, if_neg hnum, if_pos hq]
    simp only [Lx.strOf]
    have hle := Lx.runN_le Lx.notQ (l.drop 1)
    by_cases hend : Lx.runN Lx.notQ (l.drop 1) = (l.drop 1).length
    · rw [if_pos (Or.inl hend)]
      exact rone_str_open l w hl hne hlet0 hnum0 hq hend
    · cases hall : Lx.allB Lx.quot ((l.drop 1).take (Lx.runN Lx.notQ (l.drop 1)))
      · rw [if_pos (Or.inr rfl)]
        exact rone_str_bad l w hl hne hlet0 hnum0 hq (by omega) hall
      · rw [if_neg (by rintro (h | h); exact hend h; cases h)]
        by_cases h100 : 100 < Lx.runN Lx.notQ (l.drop 1)
        · rw [if_pos h100]
          exact rone_str_long l w hl hne hlet0 hnum0 hq (by omega) hall h100
        · rw [if_neg h100]
          exact rone_str_ok l w hl hne hlet0 hnum0 hq (by omega) hall h100
  · rw [Lx.first, if_neg hlet, if_neg hnum, if_neg hq]
    by_cases hs : Lx.sgn l = []
    · rw [if_pos hs]
      exact rone_none l w hl hne hlet0 hnum0 hq hs
    · rw [if_neg hs]
      exact rone_sign l w hl hne hlet0 hnum0 hq hs
end Go.Proofs.YtmfbnlaohlnljaaGreatDoor
