/-
  Plain facts of strings that are cut at their first point.
-/
import Derived.Test.YtanhomngnickfaaDoorFxTxt
namespace Go.Proofs.YtanhomngnickfaaDoor
namespace Fx

theorem index_nil : Lib.index [] [46] = -1 := rfl
theorem index_cons (b : UInt8) (l : List UInt8) : Lib.index (b :: l) [46] = if b = 46 then 0 else if Lib.index l [46] = -1 then -1 else Lib.index l [46] + 1 := by
  by_cases h : b = 46
  · subst h
    rw [if_pos rfl, Lib.index, if_pos (by simp [List.isPrefixOf])]
  · rw [if_neg h, Lib.index, if_neg (by simp [List.isPrefixOf]; exact fun e => h e.symm)]
    by_cases h2 : Lib.index l [46] = -1
    · rw [if_pos h2, if_pos (by simp [h2])]
    · rw [if_neg h2, if_neg (by simpa using h2)]
theorem index_point : ∀ l : List UInt8, (Lib.index l [46] = -1 ∧ ∀ c ∈ l, c ≠ 46) ∨ (∃ i : Nat, Lib.index l [46] = i ∧ i < l.length ∧ l = l.take i ++ 46 :: l.drop (i + 1) ∧ ∀ c ∈ l.take i, c ≠ 46)
  | [] => .inl ⟨rfl, fun c h => by cases h⟩
  | b :: l => by
    rw [index_cons]
    by_cases h : b = 46
    · subst h
      right
      exact ⟨0, by rw [if_pos rfl]; rfl, by simp, by simp, fun c h => by simp at h⟩
    · rw [if_neg h]
      rcases index_point l with ⟨h1, h2⟩ | ⟨i, h1, h2, h3, h4⟩
      · left
        rw [if_pos h1]
        refine ⟨rfl, fun c hc => ?_⟩
        rcases List.mem_cons.1 hc with rfl | hc
        · exact h
        · exact h2 c hc
      · right
        rw [if_neg (by omega), h1]
        refine ⟨i + 1, by omega, by simp; omega, ?_, fun c hc => ?_⟩
        · simp only [List.take_succ_cons, List.drop_succ_cons, List.cons_append]
          rw [← h3]
        · rw [List.take_succ_cons] at hc
          rcases List.mem_cons.1 hc with rfl | hc
          · exact h
          · exact h4 c hc
theorem cut_spec (l wh pt : List UInt8) (pd : Bool) (h : Lib.cut l [46] = (wh, pt, pd)) : (pd = true ∧ l = wh ++ 46 :: pt ∧ ∀ c ∈ wh, c ≠ 46) ∨ (pd = false ∧ l = wh ∧ pt = [] ∧ ∀ c ∈ wh, c ≠ 46) := by
  unfold Lib.cut at h
  rcases index_point l with ⟨h1, h2⟩ | ⟨i, h1, h2, h3, h4⟩
  · rw [if_neg (by omega)] at h
    simp only [Prod.mk.injEq] at h
    obtain ⟨rfl, rfl, rfl⟩ := h
    exact .inr ⟨rfl, rfl, rfl, h2⟩
  · rw [if_pos (by omega), h1] at h
    simp only [Prod.mk.injEq, Int.toNat_natCast, List.length_singleton] at h
    obtain ⟨rfl, rfl, rfl⟩ := h
    exact .inl ⟨rfl, h3, h4⟩
theorem index_app : ∀ (wh pt : List UInt8), (∀ c ∈ wh, c ≠ 46) → Lib.index (wh ++ 46 :: pt) [46] = wh.length
  | [], pt, _ => by rw [List.nil_append, index_cons, if_pos rfl]; rfl
  | b :: wh, pt, h => by
    have ih := index_app wh pt (fun c hc => h c (List.mem_cons_of_mem _ hc))
    rw [List.cons_append, index_cons, if_neg (h b (List.mem_cons_self ..)), ih, if_neg (by omega)]
    simp
theorem index_no : ∀ (wh : List UInt8), (∀ c ∈ wh, c ≠ 46) → Lib.index wh [46] = -1
  | [], _ => rfl
  | b :: wh, h => by
    have ih := index_no wh (fun c hc => h c (List.mem_cons_of_mem _ hc))
    rw [index_cons, if_neg (h b (List.mem_cons_self ..)), if_pos ih]
theorem cut_app (wh pt : List UInt8) (h : ∀ c ∈ wh, c ≠ 46) : Lib.cut (wh ++ 46 :: pt) [46] = (wh, pt, true) := by
  unfold Lib.cut
  rw [index_app wh pt h, if_pos (by omega)]
  simp
theorem cut_no (wh : List UInt8) (h : ∀ c ∈ wh, c ≠ 46) : Lib.cut wh [46] = (wh, [], false) := by
  unfold Lib.cut
  rw [index_no wh h, if_neg (by omega)]
end Fx
end Go.Proofs.YtanhomngnickfaaDoor
