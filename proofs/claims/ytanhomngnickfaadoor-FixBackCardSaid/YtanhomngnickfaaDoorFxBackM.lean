/-
  Plain mathematics of a fixed number's string: it is read as it was written; no string of fewer digits is read so.
-/
import Derived.Test.YtanhomngnickfaaDoorFxCut
namespace Go.Proofs.YtanhomngnickfaaDoor
namespace Fx

theorem dec_K (n : Nat) (h : n ≤ 32768) : ∃ K, 1 ≤ K ∧ K ≤ 5 ∧ n < 10 ^ K ∧ Lib.decDigits n = pad K n := by
  by_cases h1 : n < 10
  · exact ⟨1, by omega, by omega, by simpa using h1, dec_small n h1⟩
  by_cases h2 : n < 100
  · exact ⟨2, by omega, by omega, by simpa using h2, dec_pad 1 n (by simpa using h1) (by simpa using h2)⟩
  by_cases h3 : n < 1000
  · exact ⟨3, by omega, by omega, by simpa using h3, dec_pad 2 n (by simpa using h2) (by simpa using h3)⟩
  by_cases h4 : n < 10000
  · exact ⟨4, by omega, by omega, by simpa using h4, dec_pad 3 n (by simpa using h3) (by simpa using h4)⟩
  · exact ⟨5, by omega, by omega, by simp; omega, dec_pad 4 n (by simpa using h4) (by simp; omega)⟩
theorem dig_ne (l : List UInt8) (h : dig l = true) : (∀ c ∈ l, c ≠ 46) ∧ ∀ c ∈ l, c ≠ 45 := by
  unfold dig at h
  rw [List.all_eq_true] at h
  have h46 : (46 : UInt8).toNat = 46 := rfl
  have h45 : (45 : UInt8).toNat = 45 := rfl
  constructor
  · intro c hc e
    have := h c hc
    subst e
    simp [h46] at this
  · intro c hc e
    have := h c hc
    subst e
    simp [h45] at this
/-- The digits in front of the point. -/
theorem front_ok (W : Nat) (h : W ≤ 32768) : Lib.decDigits W ≠ [] ∧ natOk (Lib.decDigits W) = true ∧ natV (Lib.decDigits W) = (W : Int) ∧ (∀ c ∈ Lib.decDigits W, c ≠ 46) ∧ (∀ c ∈ Lib.decDigits W, c ≠ 45) ∧ (Lib.decDigits W).length ≤ 5 := by
  obtain ⟨K, k1, k2, k3, k4⟩ := dec_K W h
  have hl := pad_len K W
  have hd := pad_dig K W
  have hne := dig_ne _ hd
  have ho : natOk (pad K W) = true := by rw [natOk_short _ (by omega)]; exact hd
  rw [k4]
  refine ⟨?_, ho, ?_, hne.1, hne.2, by omega⟩
  · intro e; rw [e] at hl; simp at hl; omega
  · rw [natV_ok _ ho, dval_pad, Nat.mod_eq_of_lt k3]
def sgl (neg : Bool) : List UInt8 := if neg = true then [45] else []
theorem sgl_pre (neg : Bool) (l : List UInt8) (hl : l ≠ []) (h : ∀ c ∈ l, c ≠ 45) (t : List UInt8) : Lib.hasPrefix (sgl neg ++ (l ++ t)) [45] = neg ∧ Lib.trimPrefix (sgl neg ++ (l ++ t)) [45] = l ++ t := by
  cases neg
  · cases l with
    | nil => exact absurd rfl hl
    | cons b l =>
      have hb := h b (List.mem_cons_self ..)
      have e : Lib.hasPrefix (sgl false ++ (b :: l ++ t)) [45] = false := by
        simp [sgl, Lib.hasPrefix, List.isPrefixOf]
        exact fun e => hb e.symm
      refine ⟨e, ?_⟩
      rw [Lib.trimPrefix, e]
      rfl
  · have e : Lib.hasPrefix (sgl true ++ (l ++ t)) [45] = true := by simp [sgl, Lib.hasPrefix, List.isPrefixOf]
    refine ⟨e, ?_⟩
    rw [Lib.trimPrefix, e]
    simp [sgl]
/-- What is read of digits, a point and digits. -/
theorem pa_point (neg : Bool) (W k e : Nat) (hW : W ≤ 32768) (hk : 1 ≤ k) (hk9 : k ≤ 9) (he : e < 10 ^ k) :
    paN (sgl neg ++ (Lib.decDigits W ++ 46 :: pad k e)) = (if neg = true then -tolN (65536 * (W : Int) + rnd (65536 * (e : Int)) (10 ^ k)) else tolN (65536 * (W : Int) + rnd (65536 * (e : Int)) (10 ^ k))) ∧
    paE (sgl neg ++ (Lib.decDigits W ++ 46 :: pad k e)) = tolE (65536 * (W : Int) + rnd (65536 * (e : Int)) (10 ^ k)) := by
  obtain ⟨f1, f2, f3, f4, f5, f6⟩ := front_ok W hW
  obtain ⟨g1, g2⟩ := sgl_pre neg _ f1 f5 (46 :: pad k e)
  have hl := pad_len k e
  have hd := pad_dig k e
  have ho : natOk (pad k e) = true := by rw [natOk_short _ (by omega)]; exact hd
  have hv : natV (pad k e) = (e : Int) := by rw [natV_ok _ ho, dval_pad, Nat.mod_eq_of_lt he]
  have hem : (pad k e).isEmpty = false := by
    cases hp : pad k e with
    | nil => rw [hp] at hl; simp at hl; omega
    | cons => rfl
  have hpr : prOk (Lib.decDigits W) (pad k e) true = true := by simp [prOk, f2, ho, hem]
  have hpv : prV (Lib.decDigits W) (pad k e) = 65536 * (W : Int) + rnd (65536 * (e : Int)) (10 ^ k) := by rw [prV, f3, hv, hl]
  unfold paN paE
  rw [g1, g2, cut_app _ _ f4]
  dsimp only
  rw [hpr, hpv]
  exact ⟨rfl, rfl⟩
theorem pa_whole (neg : Bool) (W : Nat) (hW : W ≤ 32768) :
    paN (sgl neg ++ Lib.decDigits W) = (if neg = true then -tolN (65536 * (W : Int)) else tolN (65536 * (W : Int))) ∧ paE (sgl neg ++ Lib.decDigits W) = tolE (65536 * (W : Int)) := by
  obtain ⟨f1, f2, f3, f4, f5, f6⟩ := front_ok W hW
  have h := sgl_pre neg _ f1 f5 []
  rw [List.append_nil] at h
  obtain ⟨g1, g2⟩ := h
  have hem : (Lib.decDigits W).isEmpty = false := by
    cases hp : Lib.decDigits W with
    | nil => exact absurd hp f1
    | cons => rfl
  have ho : natOk [] = true := by decide
  have hpr : prOk (Lib.decDigits W) [] false = true := by simp [prOk, f2, ho, hem]
  have hr : rnd (65536 * natV []) (10 ^ ([] : List UInt8).length) = 0 := by decide
  have hpv : prV (Lib.decDigits W) [] = 65536 * (W : Int) := by rw [prV, f3, hr]; omega
  unfold paN paE
  rw [g1, g2, cut_no _ f4]
  dsimp only
  rw [hpr, hpv]
  exact ⟨rfl, rfl⟩
/-- A signed size that is a fixed number. -/
theorem tol_sign (a v : Int) (neg : Bool) (hneg : neg = decide (a < 0)) : (tolE v = 0 ∧ (if neg = true then -tolN v else tolN v) = a) → v = a.natAbs := by
  intro ⟨h1, h2⟩
  unfold tolE at h1
  split at h1
  · rename_i hf
    unfold tolN at h2
    rw [if_pos hf] at h2
    have hb := fxd_bd hf
    subst hneg
    by_cases ha : a < 0
    · rw [decide_eq_true ha, if_pos rfl] at h2; omega
    · rw [decide_eq_false ha, if_neg (by decide)] at h2; omega
  · omega
theorem tol_size (a : Int) (ha : fxd a = true) (neg : Bool) (hneg : neg = decide (a < 0)) : tolE (a.natAbs : Int) = 0 ∧ (if neg = true then -tolN (a.natAbs : Int) else tolN (a.natAbs : Int)) = a := by
  have hb := fxd_bd ha
  have hf : fxd (a.natAbs : Int) = true := decide_eq_true (by omega)
  unfold tolE tolN
  rw [if_pos hf, if_pos hf]
  subst hneg
  by_cases h : a < 0
  · rw [decide_eq_true h, if_pos rfl]; omega
  · rw [decide_eq_false h, if_neg (by decide)]; omega
theorem txtF_sgl (a : Int) : txtF a = sgl (decide (a < 0)) ++ (Lib.decDigits (a.natAbs / 65536) ++ (if a.natAbs % 65536 = 0 then [] else 46 :: frac ((a.natAbs % 65536 : Nat) : Int))) := by
  unfold txtF sgl
  by_cases h : a < 0
  · rw [if_pos h, if_pos (decide_eq_true h)]
  · rw [if_neg h, if_neg (show ¬ decide (a < 0) = true by simpa using h)]
/-- Every fixed number is read as it was written. -/
theorem pa_text (a : Int) (ha : fxd a = true) : paN (txtF a) = a ∧ paE (txtF a) = 0 := by
  have hb := fxd_bd ha
  have ht := tol_size a ha _ rfl
  rw [txtF_sgl]
  by_cases hf : a.natAbs % 65536 = 0
  · rw [if_pos hf, List.append_nil]
    have h := pa_whole (decide (a < 0)) (a.natAbs / 65536) (by omega)
    rw [show 65536 * ((a.natAbs / 65536 : Nat) : Int) = (a.natAbs : Int) by omega] at h
    rw [h.1, h.2]
    exact ⟨ht.2, ht.1⟩
  · rw [if_neg hf]
    obtain ⟨n1, n5⟩ := fN_bd ((a.natAbs % 65536 : Nat) : Int)
    have ho := fN_ok ((a.natAbs % 65536 : Nat) : Int) (by omega) (by omega)
    have hlt := ok_lt _ _ n5 (by omega) ho
    have hd0 := (dN_bd ((a.natAbs % 65536 : Nat) : Int) (fN ((a.natAbs % 65536 : Nat) : Int)) n5 (by omega) (by omega)).1
    have hr := of_decide_eq_true ho
    unfold frac
    generalize fN ((a.natAbs % 65536 : Nat) : Int) = N at *
    have e10 : ((10 ^ N : Nat) : Int) = 10 ^ N := by rw [Int.natCast_pow]; rfl
    have h := pa_point (decide (a < 0)) (a.natAbs / 65536) N (dN ((a.natAbs % 65536 : Nat) : Int) N).toNat (by omega) n1 (by omega) (by omega)
    rw [show (((dN ((a.natAbs % 65536 : Nat) : Int) N).toNat : Nat) : Int) = dN ((a.natAbs % 65536 : Nat) : Int) N by omega, hr, show 65536 * ((a.natAbs / 65536 : Nat) : Int) + ((a.natAbs % 65536 : Nat) : Int) = (a.natAbs : Int) by omega] at h
    rw [h.1, h.2]
    exact ⟨ht.2, ht.1⟩
/-- No string of fewer digits behind the point is read so. -/
theorem pa_short (a : Int) (ha : fxd a = true) (_hf : a.natAbs % 65536 ≠ 0) (k e : Nat) (hk : 1 ≤ k) (hkN : k < fN ((a.natAbs % 65536 : Nat) : Int)) (he : e < 10 ^ k) :
    ¬ (paE (sgl (decide (a < 0)) ++ (Lib.decDigits (a.natAbs / 65536) ++ 46 :: pad k e)) = 0 ∧ paN (sgl (decide (a < 0)) ++ (Lib.decDigits (a.natAbs / 65536) ++ 46 :: pad k e)) = a) := by
  have hb := fxd_bd ha
  obtain ⟨n1, n5⟩ := fN_bd ((a.natAbs % 65536 : Nat) : Int)
  have h := pa_point (decide (a < 0)) (a.natAbs / 65536) k e (by omega) hk (by omega) he
  rw [h.1, h.2]
  intro hh
  have hv := tol_sign a _ _ rfl hh
  have hr : rnd (65536 * (e : Int)) (10 ^ k) = ((a.natAbs % 65536 : Nat) : Int) := by omega
  have hno := fN_no _ k hk hkN
  rw [nearest_ok _ _ k (by omega) hr] at hno
  cases hno
theorem pa_shortest (a : Int) (ha : fxd a = true) (hf : a.natAbs % 65536 ≠ 0) :
    ¬ (paE (sgl (decide (a < 0)) ++ Lib.decDigits (a.natAbs / 65536)) = 0 ∧ paN (sgl (decide (a < 0)) ++ Lib.decDigits (a.natAbs / 65536)) = a) := by
  have hb := fxd_bd ha
  have h := pa_whole (decide (a < 0)) (a.natAbs / 65536) (by omega)
  rw [h.1, h.2]
  intro hh
  have hv := tol_sign a _ _ rfl hh
  omega
end Fx
end Go.Proofs.YtanhomngnickfaaDoor
