/-
  LexBack: what it calls; its mathematics.
-/
import Derived.Test.YtnhcjgnohnedaaaGreatDoorLxM7
namespace Go.Proofs.YtnhcjgnohnedaaaGreatDoor
open Go.RowKit

theorem same_tk : ∀ (l : List Tv) (ts : List Lx.Tp), ts.map (·.toTk) = l.map Tv.tk → sameTvs l (ts.map Tv.of) = true
  | [], [], _ => rfl
  | [], _ :: _, h => by simp at h
  | _ :: _, [], h => by simp at h
  | x :: l, y :: ts, h => by
    simp only [List.map_cons, List.cons.injEq] at h
    simp only [List.map_cons, sameTvs, Bool.and_eq_true]
    refine ⟨?_, same_tk l ts h.2⟩
    have e1 := congrArg Lx.Tk.kind h.1
    have e2 := congrArg Lx.Tk.text h.1
    have e3 := congrArg Lx.Tk.p h.1
    have e4 := congrArg Lx.Tk.q h.1
    have e2' : x.t = ⟨y.text.toArray⟩ := by rw [ba_list x.t, e2]; rfl
    exact decide_eq_true ⟨e1.symm, e2', e3.symm, e4.symm⟩
theorem textE_cases (l : List Tv) : textE l = 0 ∧ (∀ x ∈ l, x.ok = true) ∧ textS l = Lx.jn (l.map Tv.sp) ∧ (textS l).length ≤ 20000 ∨ textE l = 3 ∧ textS l = [] ∨ textE l = 2 ∧ textS l = [] ∧ ¬ (∀ x ∈ l, x.ok = true) := by
  unfold textE textS
  by_cases h : l.all Tv.ok = true
  · rw [if_pos h, if_pos h]
    by_cases h2 : 20000 < (Lx.jn (l.map Tv.sp)).length
    · rw [if_pos h2, if_pos h2]; exact .inr (.inl ⟨rfl, rfl⟩)
    · rw [if_neg h2, if_neg h2]; exact .inl ⟨rfl, List.all_eq_true.1 h, rfl, by omega⟩
  · rw [if_neg h, if_neg h]; exact .inr (.inr ⟨rfl, rfl, fun hh => h (List.all_eq_true.2 hh)⟩)
theorem of_ok {t : Lx.Tp} (h : Lx.vldT t.kind t.text t.p t.q = true) : (Tv.of t).ok = true := by
  unfold Tv.ok Tv.of; simpa using h
theorem of_fit {t : Lx.Tp} (h : Lx.vldT t.kind t.text t.p t.q = true) : (Tv.of t).fit := by
  obtain ⟨h1, -, h3⟩ := spell_short _ _ _ _ h
  have hs : (⟨t.text.toArray⟩ : ByteArray).size ≤ maxLen := by rw [ba_size]; unfold maxLen; omega
  by_cases hk : t.kind = 2
  · obtain ⟨hv, p0, -, -⟩ := decB_parts (h3 hk)
    obtain ⟨q1, q2, p1, p2⟩ := vld_pos hv
    exact ⟨show _ ≤ t.p by omega, show t.p ≤ _ by omega, show _ ≤ t.q by omega, show t.q ≤ _ by omega, hs⟩
  · have h0 : t.p = 0 ∧ t.q = 0 := by
      unfold Lx.vldT at h
      rw [if_neg hk] at h
      by_cases h0 : t.p = 0 ∧ t.q = 0
      · exact h0
      · rw [if_pos h0] at h; cases h
    exact ⟨show _ ≤ t.p by omega, show t.p ≤ _ by omega, show _ ≤ t.q by omega, show t.q ≤ _ by omega, hs⟩
theorem of_tk (ts : List Lx.Tp) : (ts.map Tv.of).map Tv.tk = ts.map (·.toTk) := by
  rw [List.map_map]
  apply List.map_congr_left
  intro t _
  simp [Tv.tk, Tv.of]

end Go.Proofs.YtnhcjgnohnedaaaGreatDoor
