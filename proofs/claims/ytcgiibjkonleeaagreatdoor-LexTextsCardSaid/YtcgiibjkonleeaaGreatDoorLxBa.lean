/-
  LexBack: what it calls; its mathematics.
-/
import Derived.Test.YtcgiibjkonleeaaGreatDoorLxM7
namespace Go.Proofs.YtcgiibjkonleeaaGreatDoor
open Go.RowKit

theorem same_tk : ∀ (l : List Tv) (ts : List Lx.Tp), ts.map (·.toTk) = l.map Tv.tk → sameTvs l (ts.map Tv.of) = true
  | [], [], _ => rfl
  | [], _ :: _, h => by simp at h
  | _ :: _, [], h => by simp at h
  | x :: l, y :: ts, h => by
    simp only [List.map_cons, List.cons.injEq] at h
    simp only [List.map_cons, sameTvs, Bool.and_eq_true]
    refine ⟨?_, same_tk l ts h.2⟩
    have e1 := congrArg Lx.Tk.kind h.1
    have e2 := congrArg Lx.Tk.text h.1
    have e3 := congrArg Lx.Tk.p h.1
    have e4 := congrArg Lx.Tk.q h.1
    have e2' : x.t = ⟨y.text.toArray⟩ := by rw [ba_list x.t, e2]; rfl
    exact decide_eq_true ⟨e1.symm, e2', e3.symm, e4.symm⟩
theorem textE_cases (l : List Tv) : textE l = 0 ∧ (∀ x ∈ l, x.ok = true) ∧ textS l = Lx.jn (l.map Tv.sp) ∧ (textS l).length ≤ 20000 ∨ textE l = 3 ∧ textS l = [] ∨ textE l = 2 ∧ textS l = [] ∧ ¬ (∀ x ∈ l, x.ok = true) := by
  unfold textE textS
  by_cases h : l.all Tv.ok = true
  · rw [if_pos h, if_pos h]
    by_cases h2 : 20000 < (Lx.jn (l.map Tv.sp)).length
    · rw [if_pos h2, if_pos h2]; exact .inr (.inl ⟨rfl, rfl⟩)
    · rw [if_neg h2, if_neg h2]; exact .inl ⟨rfl, List.all_eq_true.1 h, rfl, by omega⟩
  · rw [if_neg h, if_neg h]; exact .inr (.inr ⟨rfl, rfl, fun hh => h (List.all_eq_true.2 hh)⟩)
theorem of_ok {t : Lx.Tp} (h : Lx.vldT t.kind t.text t.p t.q = true) : (Tv.of t).ok = true := by
  unfold Tv.ok Tv.of; simpa using h
theorem of_fit {t : Lx.Tp} (h : Lx.vldT t.kind t.text t.p t.q = true) : (Tv.of t).fit := by
  obtain ⟨h1, -, h3⟩ := spell_short _ _ _ _ h
  have hs : (⟨t.text.toArray⟩ : ByteArray).size ≤ maxLen := by rw [ba_size]; unfold maxLen; omega
  by_cases hk : t.kind = 2
  · obtain ⟨hv, p0, -, -⟩ := decB_parts (h3 hk)
    obtain ⟨q1, q2, p1, p2⟩ := vld_pos hv
    exact ⟨show _ ≤ t.p by omega, show t.p ≤ _ by omega, show _ ≤ t.q by omega, show t.q ≤ _ by omega, hs⟩
  · have h0 : t.p = 0 ∧ t.q = 0 := by
      unfold Lx.vldT at h
      rw [if_neg hk] at h
      by_cases h0 : t.p = 0 ∧ t.q = 0
      · exact h0
      · rw [if_pos h0] at h; cases h
    exact ⟨show _ ≤ t.p by omega, show t.p ≤ _ by omega, show _ ≤ t.q by omega, show t.q ≤ _ by omega, hs⟩
theorem of_tk (ts : List Lx.Tp) : (ts.map Tv.of).map Tv.tk = ts.map (·.toTk) := by
  rw [List.map_map]
  apply List.map_congr_left
  intro t _
  simp [Tv.tk, Tv.of]

set_option maxRecDepth 100000 in
set_option maxHeartbeats 4000000 in
/-- It returns true of at most 400 tokens alone. -/
theorem lshort_any (A : Option Addr) (c : Nat) (l : List Tv) (w : World) (h1 : TokSl w w.heap.size A l) (hl : l.length ≤ 9223372036854775807) (hf : ∀ x ∈ l, x.fit) :
    Calls Tryz.prog 10 #[.slice A l.length c] w fun e w' => (∃ b, e = .returned (.bool b) ∧ (b = true → l.length ≤ 400)) ∧ Below w.heap.size w w' := by
  have H1 := Lib.hid h1
  have HF := Lib.hid hf
  generalize hL : l.length = n at *
  have HL := Lib.hid hL
  clear h1 hf hL
  go_enter Tryz.func10, Tryz.ntmps10
  go_wp2_with fail
  go_loopw [3, 8] (fun vs v wr => ∃ (k : Nat) (s : Int), v = .int .i64 k ∧ vs = .int .i64 s ∧ k ≤ n ∧ Below w.heap.size w wr) (fun _ v _ => n - (intOf v).toNat)
  case atStart => exact ⟨0, 0, rfl, rfl, by omega, Below.refl _ _⟩
  case round =>
    obtain ⟨k, s, rfl, rfl, hk, hB⟩ := hrel
    by_cases hlt : k < n
    · obtain ⟨ad1, rfl, hb1, at1⟩ := H1.out (by rw [HL.out]; omega); have hx : l[k]? = some (l[k]'(by rw [HL.out]; exact hlt)) := List.getElem?_eq_getElem _; have hmem : l[k]'(by rw [HL.out]; exact hlt) ∈ l := List.getElem_mem _; generalize l[k]'(by rw [HL.out]; exact hlt) = x at hx hmem; have tx := (at1 k x hx).below hB (by rw [block_of_add]; exact hb1); have g1 := block_of_add ad1 (k * 6); obtain ⟨⟨xb, xo, xs⟩, hE1⟩ : ∃ E, ad1.add (k * 6) = E := ⟨_, rfl⟩; rw [hE1] at tx g1; obtain ⟨x0, x1, x2, x3, x4, x5⟩ := tx; simp only at x0 x1 x2 x3 x4 x5 g1; have hsz := hB.size; have BB := Lib.hid hB; have hxb : xb < wr.heap.size := (by omega); have hk0 : (0 : Int) ≤ (k : Int) := (by omega); have hk1 : (k : Int) < (n : Int) := (by omega)
      clear hx hmem at1 g1 hb1 hB
      go_wp2_with fail
      go_roundw
      case rel => exact ⟨k + 1, _, by go_num, rfl, by omega, BB.out.alloc hsz _⟩
      case measure => simp [intOf]; omega
    · by_cases h4 : n ≤ 400
      · go_wp2_with fail
        go_ret
        exact ⟨⟨_, rfl, fun _ => h4⟩, hB⟩
      · go_wp2_with fail
        go_ret
        exact ⟨rfl, hB⟩
end Go.Proofs.YtcgiibjkonleeaaGreatDoor
