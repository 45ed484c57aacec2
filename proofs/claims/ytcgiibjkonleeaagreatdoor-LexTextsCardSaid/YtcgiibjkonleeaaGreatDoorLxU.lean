/-
  Slices of tokens: one appended to another.
-/
import Derived.Test.YtcgiibjkonleeaaGreatDoorLxS
import Derived.Laws.AppendOwnNone
namespace Go.Proofs.YtcgiibjkonleeaaGreatDoor
open Go.RowKit

def Tv.cells (x : Tv) : List Value := [.int .i64 x.k, .string x.t, .int .i64 x.p, .int .i64 x.q, .int .i64 x.a, .int .i64 x.c]
def rowV (l : List Tv) : List Value := l.flatMap Tv.cells
theorem rowV_len (l : List Tv) : (rowV l).length = l.length * 6 := by
  induction l with
  | nil => rfl
  | cons x l ih => rw [show rowV (x :: l) = x.cells ++ rowV l by simp [rowV], List.length_append, ih, List.length_cons]; simp [Tv.cells]; omega
theorem rowV_get : ∀ (l : List Tv) (j : Nat) (x : Tv), l[j]? = some x → ∀ i, i < 6 → (rowV l)[j * 6 + i]? = x.cells[i]?
  | [], j, x, h, _, _ => by simp at h
  | y :: l, 0, x, h, i, hi => by
    simp at h; subst h
    rw [show rowV (y :: l) = y.cells ++ rowV l by simp [rowV], List.getElem?_append_left (by simp [Tv.cells]; omega)]
    simp
  | y :: l, j + 1, x, h, i, hi => by
    rw [show rowV (y :: l) = y.cells ++ rowV l by simp [rowV], List.getElem?_append_right (by simp [Tv.cells]; omega)]
    have := rowV_get l j x (by simpa using h) i hi
    rw [← this]
    congr 1
    simp [Tv.cells]; omega
theorem rowV_of (l : List Lx.Tp) : rowV (l.map Tv.of) = rowOf l := by
  induction l with
  | nil => rfl
  | cons x l ih => rw [List.map_cons, show rowV (Tv.of x :: l.map Tv.of) = (Tv.of x).cells ++ rowV (l.map Tv.of) by simp [rowV], ih]; rfl
theorem add_of_add (a : Addr) (i j : Nat) : (a.add i).add j = a.add (i + j) := by
  unfold Addr.add
  by_cases hi : i = 0 <;> by_cases hj : j = 0 <;> simp [hi, hj, Nat.add_assoc]
theorem TokAt.cell {w : World} {E : Addr} {x : Tv} (h : TokAt w E x) (r : Nat) (u : Value) (hu : x.cells[r]? = some u) : w.cell? (E.add r) = some u := by
  obtain ⟨h0, h1, h2, h3, h4, h5⟩ := h
  have hr : r < 6 := by have := (List.getElem?_eq_some_iff.1 hu).1; simpa [Tv.cells] using this
  have h := (show r = 0 ∨ r = 1 ∨ r = 2 ∨ r = 3 ∨ r = 4 ∨ r = 5 by omega)
  rcases h with rfl | rfl | rfl | rfl | rfl | rfl <;> (simp only [Tv.cells, List.getElem?_cons_zero, List.getElem?_cons_succ, Option.some.injEq] at hu; subst hu)
  · exact h0
  all_goals assumption
theorem TokSl.cells {w : World} {B : Nat} {ad : Addr} {l : List Tv} (h : TokSl w B (some ad) l) : ∀ j u, (rowV l)[j]? = some u → w.cell? (ad.add j) = some u := by
  intro j u hu
  have hj := (List.getElem?_eq_some_iff.1 hu).1
  rw [rowV_len] at hj
  obtain ⟨ad', e, -, hc⟩ := h (by omega)
  injection e with e
  subst e
  have hi : j / 6 < l.length := by omega
  have h1 := rowV_get l (j / 6) _ (List.getElem?_eq_getElem hi) (j % 6) (by omega)
  rw [show j / 6 * 6 + j % 6 = j by omega, hu] at h1
  have := (hc (j / 6) _ (List.getElem?_eq_getElem hi)).cell (j % 6) u h1.symm
  rwa [add_of_add, show j / 6 * 6 + j % 6 = j by omega] at this
theorem rowV_one (l : List Tv) : ∀ u ∈ rowV l, u.oneCell' = true := by
  intro u hu
  simp only [rowV, List.mem_flatMap] at hu
  obtain ⟨x, -, hx⟩ := hu
  simp only [Tv.cells, List.mem_cons, List.not_mem_nil, or_false] at hx
  rcases hx with rfl | rfl | rfl | rfl | rfl | rfl <;> rfl
/-- A slice of tokens of the call's own. -/
def TokOwn (w : World) (B : Nat) (v : Value) (l : List Tv) : Prop := w.ownsRow B 38 6 v l.length (rowV l)
theorem TokOwn.sl {w : World} {B : Nat} {v : Value} {l : List Tv} (h : TokOwn w B v l) : ∃ A c, v = .slice A l.length c ∧ TokSl w w.heap.size A l := by
  rcases h.2 with ⟨rfl, h0⟩ | ⟨g, cap, cur, rfl, hB, hg, hn, hc, hs, ht⟩
  · rw [h0]
    exact ⟨none, 0, rfl, fun hn => by omega⟩
  · refine ⟨some ⟨g, 0, none⟩, cap, rfl, fun _ => ⟨⟨g, 0, none⟩, rfl, (Array.getElem?_eq_some_iff.1 hg).1, fun j y hy => ?_⟩⟩
    have key : ∀ i u, i < 6 → y.cells[i]? = some u → w.cell? ⟨g, j * 6 + i, none⟩ = some u := fun i u hi hu => by
      have := World.ownsRow.cells h (g := g) rfl (j * 6 + i) u (by rw [rowV_get l j y hy i hi]; exact hu)
      rwa [addr_row] at this
    rw [addr_row]
    exact ⟨key 0 _ (by omega) rfl, key 1 _ (by omega) rfl, key 2 _ (by omega) rfl, key 3 _ (by omega) rfl, key 4 _ (by omega) rfl, key 5 _ (by omega) rfl⟩

/-- Tokens appended to tokens of the call's own. -/
theorem wpList_append_toks {w : World} {ops : Array Oper} {rest : List Oper} {o : Oper} {a : Act} {Q : Exit → Act → World → Prop} (hgd : o.guard = none) (s x : Operand)
    (ho : o.op = .call { callee := .builtin .append, args := #[s, x], argTypes := #[23, 23] }) (base : Nat) (v : Value) (l m : List Tv) (hs : a.eval s = v) (hown : TokOwn w base v l)
    (B c : Nat) (A : Option Addr) (hx : a.eval x = .slice A m.length c) (hA : A = none → c = 0 ∧ m = []) (hm : TokSl w B A m) (hl : l.length + m.length ≤ 1000000) (hbase : base ≤ w.heap.size)
    (h : ∀ v' w', TokOwn w' base v' (l ++ m) → w.grownBy w' v.ownBlock → wpList Tryz.prog ops Q rest (a.put o.dst v') w') : wpList Tryz.prog ops Q (o :: rest) a w := by
  obtain ⟨i0, hi, hz0, hz1, hz2⟩ := info_parts info_tok
  cases A with
  | none =>
    obtain ⟨rfl, rfl⟩ := hA rfl
    exact wpList_append_own_none hgd s x _ ho base 38 i0 6 Tryz.underlying23 hi v l.length (rowV l) hs hown hx (h v w (by rw [List.append_nil]; exact hown) (grown_refl _ _))
  | some ad =>
    refine wpList_append_own w hgd s x _ ho base 38 i0 (.agg #[.int .i64 0, .string ⟨#[]⟩, .int .i64 0, .int .i64 0, .int .i64 0, .int .i64 0]) 6 56 Tryz.underlying23 hi hz0 hz1 hz2 rfl (by decide) v l.length (rowV l) hs hown ad m.length c (rowV m) hx (rowV_len m) hm.cells (rowV_one m) (by unfold maxLen; omega) (by omega) hbase ?_
    intro v' w' h1 h2 _
    refine h v' w' ?_ h2
    unfold TokOwn
    rw [List.length_append, show rowV (l ++ m) = rowV l ++ rowV m by simp [rowV]]
    exact h1
end Go.Proofs.YtcgiibjkonleeaaGreatDoor
