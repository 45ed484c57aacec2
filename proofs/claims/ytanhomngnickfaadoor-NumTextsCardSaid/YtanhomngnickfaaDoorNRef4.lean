/-
  Contract of the reference: Parse, any string.
-/
-- LAW 01
import Derived.Test.YtanhomngnickfaaDoorNRef3
import Derived.Test.YtanhomngnickfaaDoorNParse2
namespace Go.Proofs.YtanhomngnickfaaDoor
open Go.RowKit

theorem dec_le : ∀ (K n : Nat), n < 10 ^ (K + 1) → (Lib.decDigits n).length ≤ K + 1
  | 0, n, h => by
    have : n < 10 := by simpa using h
    rw [Lib.decDigits, dif_pos this]; simp
  | K + 1, n, h => by
    by_cases h1 : n < 10
    · rw [Lib.decDigits, dif_pos h1]; simp
    · rw [Nat.pow_succ] at h
      have ih := dec_le K (n / 10) (by omega)
      rw [Lib.decDigits, dif_neg h1, List.length_append]
      simp; omega
theorem whM_dec (n : Nat) (h : n ≤ 2147483647) : whM 10 (Lib.decDigits n) = n := by
  obtain ⟨a, b, c⟩ := dec_dig n
  have hl := dec_le 9 n (by simp; omega)
  have hl1 : 1 ≤ (Lib.decDigits n).length := by
    cases hd : Lib.decDigits n with
    | nil => exact absurd hd c
    | cons => simp
  rw [whM, if_pos ⟨hl1, by omega, a⟩, b]
/-- A string of one byte or more, and what stands behind the first byte. -/
theorem head_of (c : UInt8) (tl : List UInt8) : 1 ≤ (⟨(c :: tl).toArray⟩ : ByteArray).size ∧ (∀ h : 0 < (⟨(c :: tl).toArray⟩ : ByteArray).size, (⟨(c :: tl).toArray⟩ : ByteArray)[0] = c) ∧ (⟨(c :: tl).toArray⟩ : ByteArray).extract 1 (⟨(c :: tl).toArray⟩ : ByteArray).size = ⟨tl.toArray⟩ := by
  refine ⟨by rw [Lib.size_eq]; simp, fun h => ?_, ?_⟩
  · rw [sgetN _ 0 h]; simp
  · rw [ba_ext, Lib.size_eq]; simp
theorem rparse_yes (s : ByteArray) (w : World) (hs : s.size ≤ 10000) (p q : Int) (hv : Nm.vld p q = true) (h : txt p q = s.data.toList) :
    Calls Tryd.prog 40 #[.string s] w fun e w' => e = .returned (numV p q 0) ∧ Below w.heap.size w w' := by
  obtain ⟨a1, a2, a3, a4⟩ := vld_bd hv
  have hc := cut_txt p q
  rw [h] at hc
  have l1 := Lib.itoa_length_le p (by omega) (by omega)
  have l2 := Lib.itoa_length_le q (by omega) (by omega)
  have hwq : whM 10 (Lib.itoa q) = q := by
    have := whM_dec q.toNat (by omega)
    unfold Lib.itoa
    rw [if_neg (by omega), this]; omega
  by_cases hp : p < 0
  · obtain ⟨n, hn⟩ : ∃ n : Int, p = -n := ⟨-p, by omega⟩
    subst hn
    have hi : Lib.itoa (-n) = 45 :: Lib.decDigits n.toNat := by
      unfold Lib.itoa
      rw [if_pos hp, show (-n).natAbs = n.toNat by omega]
    have hwp : whM 10 (Lib.decDigits n.toNat) = n := by rw [whM_dec _ (by omega)]; omega
    have hdl := dec_lenN n.toNat (by omega)
    obtain ⟨g1, g2, g3⟩ := head_of 45 (Lib.decDigits n.toNat)
    rw [hi] at hc l1
    by_cases hq : q = 1
    · rw [if_pos hq] at hc
      subst hq
      exact rparse_neg_f_eq s w hs _ _ hc ⟨by omega, by simp⟩ _ rfl g1 g2 _ g3 (by omega) n hwp (by omega) hv h
    · rw [if_neg hq] at hc
      exact rparse_neg_t_eq s w hs _ _ hc ⟨by omega, by omega⟩ _ rfl g1 g2 _ g3 (by omega) n hwp q hwq (by omega) hv h
  · have hi : Lib.itoa p = Lib.decDigits p.toNat := by unfold Lib.itoa; rw [if_neg hp]
    have hwp : whM 10 (Lib.decDigits p.toNat) = p := by rw [whM_dec _ (by omega)]; omega
    obtain ⟨a, b, c⟩ := dec_dig p.toNat
    rw [hi] at hc l1
    cases hd : Lib.decDigits p.toNat with
    | nil => exact absurd hd c
    | cons ch tl =>
      rw [hd] at hc l1 hwp a
      have hch : ch ≠ 45 := by
        intro e
        have := dig_at_mem a ch (List.mem_cons_self ..)
        subst e
        have h45 : (45 : UInt8).toNat = 45 := rfl
        omega
      obtain ⟨g1, g2, g3⟩ := head_of ch tl
      by_cases hq : q = 1
      · rw [if_pos hq] at hc
        subst hq
        exact rparse_pos_f_eq s w hs _ _ hc ⟨by omega, by simp⟩ _ rfl g1 ch g2 hch p hwp (by omega) hv h
      · rw [if_neg hq] at hc
        exact rparse_pos_t_eq s w hs _ _ hc ⟨by omega, by omega⟩ _ rfl g1 ch g2 hch p hwp q hwq (by omega) hv h
theorem rparse_no (s : ByteArray) (w : World) (hs : s.size ≤ 10000) (h : ∀ p q, Nm.vld p q = true → txt p q ≠ s.data.toList) :
    Calls Tryd.prog 40 #[.string s] w fun e w' => e = .returned (numV 0 0 30) ∧ Below w.heap.size w w' := by
  obtain ⟨top, bot, dv, hc⟩ : ∃ top bot dv, Lib.cut s.data.toList [47] = (top, bot, dv) := ⟨_, _, _, rfl⟩
  have hl0 := cutL _ _ _ _ _ hc
  have h1 : s.data.toList.length = s.size := by have := Lib.size_eq s; omega
  have hl : top.length ≤ 10000 ∧ bot.length ≤ 10000 := by omega
  cases top with
  | nil =>
    have e : whM 10 [] = -1 := by decide
    cases dv
    · exact rparse_nil_f_bad s w hs [] bot hc hl rfl (-1) e (by omega)
    · exact rparse_nil_t_bad s w hs [] bot hc hl rfl (-1) e _ rfl (by omega)
  | cons ch tl =>
    obtain ⟨g1, g2, g3⟩ := head_of ch tl
    have htl : tl.length ≤ 10000 := by have := hl.1; simp at this; omega
    by_cases hch : ch = 45
    · subst hch
      by_cases hn : whM 10 tl < 0
      · cases dv
        · exact rparse_neg_f_bad s w hs _ _ hc hl _ rfl g1 g2 _ g3 htl _ rfl hn
        · exact rparse_neg_t_bad s w hs _ _ hc hl _ rfl g1 g2 _ g3 htl _ rfl _ rfl hn
      · cases dv
        · cases hv : Nm.vld (-whM 10 tl) 1
          · exact rparse_neg_f_inv s w hs _ _ hc hl _ rfl g1 g2 _ g3 htl _ rfl hn hv
          · exact rparse_neg_f_ne s w hs _ _ hc hl _ rfl g1 g2 _ g3 htl _ rfl hn hv (h _ _ hv)
        · cases hv : Nm.vld (-whM 10 tl) (whM 10 bot)
          · exact rparse_neg_t_inv s w hs _ _ hc hl _ rfl g1 g2 _ g3 htl _ rfl _ rfl hn hv
          · exact rparse_neg_t_ne s w hs _ _ hc hl _ rfl g1 g2 _ g3 htl _ rfl _ rfl hn hv (h _ _ hv)
    · by_cases hn : whM 10 (ch :: tl) < 0
      · cases dv
        · exact rparse_pos_f_bad s w hs _ _ hc hl _ rfl g1 ch g2 hch _ rfl hn
        · exact rparse_pos_t_bad s w hs _ _ hc hl _ rfl g1 ch g2 hch _ rfl _ rfl hn
      · cases dv
        · cases hv : Nm.vld (whM 10 (ch :: tl)) 1
          · exact rparse_pos_f_inv s w hs _ _ hc hl _ rfl g1 ch g2 hch _ rfl hn hv
          · exact rparse_pos_f_ne s w hs _ _ hc hl _ rfl g1 ch g2 hch _ rfl hn hv (h _ _ hv)
        · cases hv : Nm.vld (whM 10 (ch :: tl)) (whM 10 bot)
          · exact rparse_pos_t_inv s w hs _ _ hc hl _ rfl g1 ch g2 hch _ rfl _ rfl hn hv
          · exact rparse_pos_t_ne s w hs _ _ hc hl _ rfl g1 ch g2 hch _ rfl _ rfl hn hv (h _ _ hv)
end Go.Proofs.YtanhomngnickfaaDoor
