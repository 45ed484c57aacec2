/-
  Contracts of package macro: a caller's own rows beside an expander.
  Contracts of package macro: an argument.
  Contracts of package macro: pieces of a body; places of arguments.
  Contracts of package macro: the body of a definition.
-/
import Derived.Test.YtnhcjgnohnedaaaGreatDoorMxR
import Derived.Deep.LoopGhost
namespace Go.Proofs.YtnhcjgnohnedaaaGreatDoor
open Go.RowKit

namespace Mx
/-- P, and a row's block. -/
def row (P : Nat → Prop) (v : Value) (k : Nat) : Prop := P k ∨ v.ownBlock = some k
/-- A caller's own row has grown: the expander is as it was. -/
theorem Holds.grew {w W : World} {B b σ : Nat} {M P : Nat → Prop} {s : St} {v v' : Value} (H : Holds w B b σ M (row P v) s) (hg : w.grownBy W v.ownBlock) (hv : v'.ownBlock = v.ownBlock ∨ v'.ownBlock = none ∨ ∃ k, v'.ownBlock = some k ∧ w.heap.size ≤ k)
    (hl : ∀ k, v'.ownBlock = some k → k < W.heap.size) (hne : NotExp w v.ownBlock) : Holds W B b σ M (row P v') s := by
  refine H.keep ((Turns.of_grown hg hne).mono (fun k h => Or.inr h)) (fun k hk => ?_) (fun k hk => ?_) (Nat.le_refl _)
  · rcases hk with hk | hk
    · exact Or.inl (Or.inl hk)
    · rcases hv with h | h | ⟨g, h, hge⟩
      · exact Or.inl (Or.inr (h ▸ hk))
      · rw [h] at hk; cases hk
      · rw [h] at hk; injection hk with hk; subst hk; exact Or.inr hge
  · rcases hk with hk | hk
    · exact ⟨(H.lowP k (Or.inl hk)).1, Nat.lt_of_lt_of_le (H.lowP k (Or.inl hk)).2.1 hg.size⟩
    · refine ⟨?_, hl k hk⟩
      rcases hv with h | h | ⟨g, h, hge⟩
      · exact (H.lowP k (Or.inr (h ▸ hk))).1
      · rw [h] at hk; cases hk
      · rw [h] at hk; injection hk with hk; subst hk; exact Nat.le_trans H.Bs hge
/-- A row of the caller's own that holds nothing yet. -/
theorem Holds.noRow {w : World} {B b σ : Nat} {M P : Nat → Prop} {s : St} (H : Holds w B b σ M P s) {v : Value} (hv : v.ownBlock = none) : Holds w B b σ M (row P v) s :=
  H.less (fun k hk => by rcases hk with hk | hk; exact hk; rw [hv] at hk; cases hk)
/-- The row stays as it is while the expander is written. -/
theorem Opens.keep {w w' : World} {B B' b σ : Nat} {M P : Nat → Prop} {s : St} {v : Value} {op : List ByteArray} (h : Opens w B' v op) (H : Holds w B b σ M (row P v) s) (ht : Turns M w w') : Opens w' B' v op :=
  row_keep h (fun k hk => ht.block k (H.lowP k (Or.inr hk)).2.1 (H.lowP k (Or.inr hk)).2.2)
end Mx
end Go.Proofs.YtnhcjgnohnedaaaGreatDoor

namespace Go.Proofs.YtnhcjgnohnedaaaGreatDoor
open Go.RowKit

namespace Mx
theorem arg_bad {f : Nat} {text : Bool} {op : List ByteArray} {acc : List Tv} {s : St} {e : Flt} (h : read s = .bad e) : argument (f + 1) text op acc s = .bad e := by simp [argument, bind, M.bind, h]
theorem arg_k {f : Nat} {text : Bool} {op : List ByteArray} {acc : List Tv} {s s1 : St} {x : Tv} (h : read s = .ok x s1) (hk : ¬ x.k = 4) : argument (f + 1) text op acc s = argument f text op (acc ++ [x]) s1 := by simp [argument, bind, M.bind, h, hk]
theorem arg_ret {f : Nat} {text : Bool} {op : List ByteArray} {acc : List Tv} {s s1 : St} {x : Tv} (h : read s = .ok x s1) (hk : x.k = 4) (hr : (x.t = str [41] ∨ (x.t = str [44] ∧ text = false)) ∧ op = []) : argument (f + 1) text op acc s = .ok (acc, x) s1 := by
  unfold argument
  simp only [bind, M.bind, h, hk, if_true]
  rw [if_pos hr]
  rfl
theorem arg_none {f : Nat} {text : Bool} {op : List ByteArray} {acc : List Tv} {s s1 : St} {x : Tv} (h : read s = .ok x s1) (hk : x.k = 4) (hr : ¬ ((x.t = str [41] ∨ (x.t = str [44] ∧ text = false)) ∧ op = [])) (hb : bracketed op x = none) : argument (f + 1) text op acc s = .bad (failAt 11 x) := by
  unfold argument
  simp only [bind, M.bind, h, hk, if_true]
  rw [if_neg hr, hb]
  rfl
theorem arg_some {f : Nat} {text : Bool} {op op' : List ByteArray} {acc : List Tv} {s s1 : St} {x : Tv} (h : read s = .ok x s1) (hk : x.k = 4) (hr : ¬ ((x.t = str [41] ∨ (x.t = str [44] ∧ text = false)) ∧ op = [])) (hb : bracketed op x = some op') : argument (f + 1) text op acc s = argument f text op' (acc ++ [x]) s1 := by
  conv => lhs; unfold argument
  simp only [bind, M.bind, h, hk, if_true]
  rw [if_neg hr, hb]
theorem brk_len {op op' : List ByteArray} {x : Tv} (h : bracketed op x = some op') : op'.length ≤ op.length + 1 := by
  unfold bracketed at h
  split at h
  · injection h with h; subst h; simp
  split at h
  · injection h with h; subst h; simp
  split at h
  · injection h with h; subst h; simp
  split at h
  · split at h
    · split at h
      · injection h with h; subst h; simp; omega
      · cases h
    · cases h
  · injection h with h; subst h; simp
theorem read_steps {s s1 : St} {x : Tv} (h : read s = .ok x s1) : s1.steps = s.steps + 1 := by
  unfold read next at h
  cases hp : pop s with
  | none => rw [hp] at h; simp [early] at h
  | some q =>
    obtain ⟨t, s'⟩ := q
    rw [hp] at h
    simp only at h
    split at h
    · rename_i q1 s2 heq
      split at heq
      · cases heq
      · injection heq with e1 e2
        injection h with e3 e4
        subst e4 e2
        rfl
    · simp [early] at h
    · cases h
/-- How readArgument ends: the row of tokens is the caller's own, and new. -/
def EndsA (B b σ : Nat) (M P : Nat → Prop) (w : World) (R : Res (List Tv × Tv)) (e : Ending) (w' : World) : Prop :=
  ∃ M', Grows w M M' ∧ Turns M w w' ∧ match R with
  | .ok a s => ∃ va, e = .returned (.tuple #[va, a.2.val]) ∧ a.2.fit ∧ (∀ y ∈ a.1, y.fit) ∧ TokOwn w' B va a.1 ∧ (∀ k, va.ownBlock = some k → w.heap.size ≤ k) ∧ a.1.length ≤ 200000 ∧ Holds w' B b σ M' (row P va) s
  | .bad f => e = .panicked [{ v := .iface 27 (.agg #[.int .i64 f.code, .string f.name, .int .i64 f.line, .int .i64 f.col]), recovered := false }]
theorem endsA_bad {B b σ : Nat} {M P : Nat → Prop} {w w' : World} {R : Res (List Tv × Tv)} {f : Flt} {e : Ending} (hR : R = .bad f) (ht : Turns M w w')
    (he : e = .panicked [{ v := .iface 27 (.agg #[.int .i64 f.code, .string f.name, .int .i64 f.line, .int .i64 f.col]), recovered := false }]) : EndsA B b σ M P w R e w' := by
  rw [hR]; exact ⟨M, Grows.refl _ _, ht, he⟩
/-- Between two tokens of an argument. -/
structure ARnd (w : World) (B b σ : Nat) (M P : Nat → Prop) (R : Res (List Tv × Tv)) (text : Bool) (k : Nat) (va vo : Value) (wr : World) (op : List ByteArray) (acc : List Tv) (s' : St) (M' : Nat → Prop) : Prop where
  eq : R = argument k text op acc s'
  fuel : 200001 ≤ k + s'.steps
  H : Holds wr B b σ M' (row (row (also P w.heap.size) va) vo) s'
  G : Grows w M M'
  T : Turns M w wr
  z : wr.heap[w.heap.size]? = some (.cells #[.int .i64 0, .string ⟨#[]⟩, .int .i64 0, .int .i64 0, .int .i64 0, .int .i64 0] 41)
  own : TokOwn wr B va acc
  opn : Opens wr B vo op
  nw : ∀ k, va.ownBlock = some k → w.heap.size < k
  nwo : ∀ k, vo.ownBlock = some k → w.heap.size < k
  len : acc.length ≤ s'.steps
  lop : op.length ≤ acc.length
  fit : ∀ x ∈ acc, x.fit
theorem TokOwn.lt {w : World} {B : Nat} {v : Value} {l : List Tv} (h : TokOwn w B v l) {k : Nat} (hk : v.ownBlock = some k) : B ≤ k ∧ k < w.heap.size := World.ownsRow.lt h k hk
/-- Rows of two types are two rows. -/
theorem rows_ne {w : World} {B B' : Nat} {e e' : TypeId} {z z' : Nat} {v v' : Value} {n n' : Nat} {xs xs' : List Value} (h : w.ownsRow B e z v n xs) (h' : w.ownsRow B' e' z' v' n' xs') (he : e ≠ e') : ∀ k, v.ownBlock = some k → v'.ownBlock ≠ some k := fun k hk e2 => by
  obtain ⟨c, hc⟩ := row_ty h hk
  obtain ⟨c', hc'⟩ := row_ty h' e2
  exact he (heap_inj hc hc')
/-- A token more. -/
theorem ARnd.more {w w1 w3 : World} {B b σ : Nat} {M P M1 : Nat → Prop} {R : Res (List Tv × Tv)} {text : Bool} {k : Nat} {va vo v1 : Value} {op : List ByteArray} {acc : List Tv} {s1 : St} {x : Tv} (hx : x.fit)
    (H : Holds w1 B b σ M1 (row (row (also P w.heap.size) va) vo) s1) (G : Grows w M M1) (T : Turns M w w1) (z : w1.heap[w.heap.size]? = some (.cells #[.int .i64 0, .string ⟨#[]⟩, .int .i64 0, .int .i64 0, .int .i64 0, .int .i64 0] 41)) (own : TokOwn w1 B va acc) (opn : Opens w1 B vo op) (nw : ∀ k, va.ownBlock = some k → w.heap.size < k) (nwo : ∀ k, vo.ownBlock = some k → w.heap.size < k)
    (len : acc.length + 1 ≤ s1.steps) (lop : op.length ≤ acc.length + 1) (fit : ∀ x ∈ acc, x.fit) (fuel : 200001 ≤ k + s1.steps) (eq : R = argument k text op (acc ++ [x]) s1)
    (own1 : w3.ownsRow B 41 6 v1 (acc.length + 1) (rowV acc ++ [.int .i64 x.k, .string x.t, .int .i64 x.p, .int .i64 x.q, .int .i64 x.a, .int .i64 x.c])) (gr1 : w1.grownBy w3 va.ownBlock) (loc1 : v1.ownBlock = va.ownBlock ∨ ∃ g, v1.ownBlock = some g ∧ w1.heap.size ≤ g) : ARnd w B b σ M P R text k v1 vo w3 op (acc ++ [x]) s1 M1 := by
  have hsz : w.heap.size < w1.heap.size := (Array.getElem?_eq_some_iff.1 z).1
  have own' : TokOwn w3 B v1 (acc ++ [x]) := by
    unfold TokOwn
    rw [List.length_append, show rowV (acc ++ [x]) = rowV acc ++ [.int .i64 x.k, .string x.t, .int .i64 x.p, .int .i64 x.q, .int .i64 x.a, .int .i64 x.c] by simp [rowV, Tv.cells]]
    exact own1
  have hvz : va.ownBlock ≠ some w.heap.size := fun e => by have := nw _ e; omega
  refine ⟨eq, fuel, ?_, G, ⟨gr1.os.trans T.os, gr1.tape.trans T.tape, gr1.output.trans T.output, Nat.le_trans T.size gr1.size, fun k hk hn => (gr1.block k (Nat.lt_of_lt_of_le hk T.size) (fun e => by have := nw k e.symm; omega)).trans (T.block k hk hn), fun k c hc => by
    obtain ⟨c1, h1, e1⟩ := T.exp k c hc
    have hk := (Array.getElem?_eq_some_iff.1 hc).1
    exact ⟨c1, (gr1.block k (Nat.lt_of_lt_of_le hk T.size) (fun e => by have := nw k e.symm; omega)).trans h1, e1⟩⟩, (gr1.block _ hsz (fun e => hvz e.symm)).trans z, own', row_keep opn (fun k hk => gr1.block k (World.ownsRow.lt opn k hk).2 (fun e => rows_ne own opn (by decide) k e.symm hk)), ?_, nwo, by rw [List.length_append]; exact len, by rw [List.length_append]; exact lop, fun y hy => ?_⟩
  · refine ((H.less (P' := row (row (also P w.heap.size) vo) va) (fun k hk => ?_)).grew gr1 ?_ (fun k hk => (World.ownsRow.lt own1 k hk).2) (notExp_row own (by decide))).less (fun k hk => ?_)
    · rcases hk with (hk | hk) | hk
      · exact Or.inl (Or.inl hk)
      · exact Or.inr hk
      · exact Or.inl (Or.inr hk)
    · rcases loc1 with h | h
      · exact Or.inl h
      · exact Or.inr (Or.inr h)
    · rcases hk with (hk | hk) | hk
      · exact Or.inl (Or.inl hk)
      · exact Or.inr hk
      · exact Or.inl (Or.inr hk)
  · intro k hk
    rcases loc1 with h | ⟨g, h, hg⟩
    · exact nw k (h ▸ hk)
    · rw [h] at hk; injection hk with hk; omega
  · rcases List.mem_append.1 hy with h | h
    · exact fit y h
    · rw [List.mem_singleton] at h; subst h; exact hx
end Mx
end Go.Proofs.YtnhcjgnohnedaaaGreatDoor

namespace Go.Proofs.YtnhcjgnohnedaaaGreatDoor
open Go.RowKit

namespace Mx
theorem info_piece : (Tryz.prog.info? 167).map (fun i => (i.zero, i.size, i.bytes)) = some (some (.agg #[.int .i64 0, .string ⟨#[]⟩, .int .i64 0, .int .i64 0, .int .i64 0, .int .i64 0, .int .i64 0, .bool false]), 8, 72) := by kernel_rfl
theorem info_par : (Tryz.prog.info? 131).map (fun i => (i.zero, i.size, i.bytes)) = some (some (.agg #[.bool false, .int .i64 0]), 2, 16) := by kernel_rfl
theorem info_row : (Tryz.prog.info? 22).map (fun i => (i.zero, i.size, i.bytes)) = some (some (.slice none 0 0), 1, 24) := by kernel_rfl
theorem info_group : (Tryz.prog.info? 160).map (fun i => (i.zero, i.size, i.bytes)) = some (some (.slice none 0 0), 1, 24) := by kernel_rfl
def pieceV (i : Nat) (b : Bool) : Value := .agg #[.int .i64 0, .string ⟨#[]⟩, .int .i64 0, .int .i64 0, .int .i64 0, .int .i64 0, .int .i64 i, .bool b]
/-- The map of places, in a block of the caller's own. -/
structure Places (w : World) (mb : Nat) (pl : Pl) : Prop where
  ex : ∃ D : DataW Value, w.ownsMap Tryz.prog 9 rawElem mb pl.length D ∧ Maps.size D = pl.length ∧ ∀ s : ByteArray, s.size ≤ maxLen → (plIdx pl s = 0 → Maps.has D (.string s.data.toList) = false) ∧ D.atKey (.string s.data.toList) (.held (pieceV 0 false)) = .held (pieceV (plIdx pl s) (plText pl s))
theorem Places.keep {w w' : World} {mb : Nat} {pl : Pl} (h : Places w mb pl) (hb : w'.heap[mb]? = w.heap[mb]?) : Places w' mb pl := by
  obtain ⟨D, ⟨es, clock, hh, r⟩, hf⟩ := h.ex
  exact ⟨D, ⟨es, clock, hb.trans hh, r⟩, hf⟩
theorem Places.lt {w : World} {mb : Nat} {pl : Pl} (h : Places w mb pl) : mb < w.heap.size := by obtain ⟨D, hD, -⟩ := h.ex; exact hD.lt
theorem Places.ne {w : World} {mb : Nat} {pl : Pl} (h : Places w mb pl) {g : Nat} {c : Array Value} {t : TypeId} {f : Nat × Nat} (hg : w.heap[g]? = some (.cells c t f)) : mb ≠ g := by obtain ⟨D, hD, -⟩ := h.ex; exact map_ne hD hg
theorem places_nil (w : World) : Places (w.alloc (.map #[] 0)) w.heap.size [] := ⟨.map [], World.ownsMap_made _ _ _ _, rfl, fun s _ => ⟨fun _ => rfl, rfl⟩⟩
theorem pl_snoc (pl : Pl) (n : ByteArray) (b : Bool) (h0 : plIdx pl n = 0) (s : ByteArray) : plIdx (pl ++ [(n, b)]) s = (if s = n then pl.length + 1 else plIdx pl s) ∧ plText (pl ++ [(n, b)]) s = (if s = n then b else plText pl s) := by
  unfold plIdx plText at *
  have hn : pl.findIdx? (fun p => decide (p.1 = n)) = none := by
    cases hq : pl.findIdx? (fun p => decide (p.1 = n)) with
    | none => rfl
    | some i => rw [hq] at h0; simp at h0
  have hn2 : ∀ p ∈ pl, ¬ p.1 = n := by
    rw [List.findIdx?_eq_none_iff] at hn
    intro p hp; simpa using hn p hp
  by_cases e : s = n
  · subst e
    rw [if_pos rfl, if_pos rfl, List.findIdx?_append, hn, List.find?_append]
    have : pl.find? (fun p => decide (p.1 = s)) = none := by rw [List.find?_eq_none]; intro p hp; simpa using hn2 p hp
    rw [this]
    simp
  · have e' : ¬ n = s := fun h => e h.symm
    rw [if_neg e, if_neg e, List.findIdx?_append, List.find?_append]
    cases hq : pl.findIdx? (fun p => decide (p.1 = s)) <;> cases hq2 : pl.find? (fun p => decide (p.1 = s)) <;> simp [e']
theorem Places.put {w w1 : World} {mb : Nat} {pl : Pl} {n : ByteArray} {b : Bool} (h0 : plIdx pl n = 0) (hn : n.size ≤ maxLen) {D : DataW Value} (hD : w.ownsMap Tryz.prog 9 rawElem mb pl.length D) (hs : Maps.size D = pl.length)
    (hf : ∀ s : ByteArray, s.size ≤ maxLen → (plIdx pl s = 0 → Maps.has D (.string s.data.toList) = false) ∧ D.atKey (.string s.data.toList) (.held (pieceV 0 false)) = .held (pieceV (plIdx pl s) (plText pl s)))
    (own1 : w1.ownsMap Tryz.prog 9 rawElem mb (pl.length + 1) (D.put (.string n.data.toList) (.held (pieceV (pl.length + 1) b)))) : Places w1 mb (pl ++ [(n, b)]) := by
  have hIs : Maps.IsMap D := hD.isMap
  have hkl : WideAt.IsKeyLit (Lit.string n.data.toList) := trivial
  have key : ∀ s' : ByteArray, s' ≠ n → (Lit.string s'.data.toList) ≠ (Lit.string n.data.toList) := fun s' h e => by
    injection e with e; exact h (by rw [ba_list s', ba_list n, e])
  refine ⟨_, by rw [List.length_append]; exact own1, ?_, fun s hs' => ?_⟩
  · rw [Maps.size_put (hD.tidy str_key), (hf n hn).1 h0, List.length_append]; simp [hs]
  · obtain ⟨e1, e2⟩ := pl_snoc pl n b h0 s
    rw [e1, e2]
    by_cases e : s = n
    · subst e
      rw [if_pos rfl, if_pos rfl]
      exact ⟨fun h => by omega, Maps.atKey_put_same hIs hkl _ _⟩
    · rw [if_neg e, if_neg e, Maps.has_put_other (key s e), Maps.atKey_put_other (key s e)]
      exact hf s hs'
/-- A place is looked up. -/
theorem wpList_places {w : World} {ops : Array Oper} {rest : List Oper} {o : Oper} {a : Act} {Q : Exit → Act → World → Prop} (hg : o.guard = none) (m x : Operand) (hop : o.op = Op.lookup 169 m x false) (mb : Nat) (pl : Pl)
    (hm : a.eval m = .map (some mb)) (hp : Places w mb pl) (s : ByteArray) (hs : s.size ≤ maxLen) (hx : a.eval x = .string s) (i : Nat) (b : Bool) (hi : i = plIdx pl s) (hb : b = plText pl s)
    (hK : wpList Tryz.prog ops Q rest (a.put o.dst (.agg #[.int .i64 0, .string ⟨#[]⟩, .int .i64 0, .int .i64 0, .int .i64 0, .int .i64 0, .int .i64 i, .bool b])) w) : wpList Tryz.prog ops Q (o :: rest) a w := by
  refine wpList_plain hg fun K' hK' => ?_
  obtain ⟨D, hD, -, hf⟩ := hp.ex
  obtain ⟨v, ps, hrun, hv⟩ := hD.lookup str_key Tryz.underlying169 (z := pieceV 0 false) (Tryz.zeroValue167 w) (zd := .held (pieceV 0 false)) (zp := []) rfl (WideMaps.keyOf_string_mk Tryz.underlying9 hs)
  rw [(hf s hs).2] at hv
  unfold rawElem at hv
  injection hv with hv
  injection hv with hv1 hv2
  injection hv1 with hv1
  rw [hv1] at hrun
  unfold Oper.wp
  simp [execOp, hop, hm, hx, hrun, Result.andThen]
  subst hi hb
  exact hK' _ _ hK
/-- Pieces in a row of the call's own. -/
def Piece.cells (p : Piece) : List Value := p.tok.cells ++ [.int .i64 p.arg, .bool p.text]
def rowP (l : List Piece) : List Value := l.flatMap Piece.cells
def PieceOwn (w : World) (B : Nat) (v : Value) (l : List Piece) : Prop := w.ownsRow B 167 8 v l.length (rowP l)
theorem rowP_get : ∀ (l : List Piece) (j : Nat) (x : Piece), l[j]? = some x → ∀ i, i < 8 → (rowP l)[j * 8 + i]? = x.cells[i]?
  | [], j, x, h, _, _ => by simp at h
  | y :: l, 0, x, h, i, hi => by
    simp at h; subst h
    rw [show rowP (y :: l) = y.cells ++ rowP l by simp [rowP], List.getElem?_append_left (by simp [Piece.cells, Tv.cells]; omega)]
    simp
  | y :: l, j + 1, x, h, i, hi => by
    rw [show rowP (y :: l) = y.cells ++ rowP l by simp [rowP], List.getElem?_append_right (by simp [Piece.cells, Tv.cells]; omega)]
    have := rowP_get l j x (by simpa using h) i hi
    rw [← this]
    congr 1
    simp [Piece.cells, Tv.cells]; omega
theorem addr_row8 (g j : Nat) : (⟨g, 0, none⟩ : Addr).add j = ⟨g, j, none⟩ := by unfold Addr.add; split <;> simp_all
theorem PieceOwn.fix {w : World} {B : Nat} {v : Value} {l : List Piece} {X : Nat → Prop} (h : PieceOwn w B v l) (hX : ∀ k, v.ownBlock = some k → ¬ X k) (hf : ∀ p ∈ l, p.tok.fit) : ∃ A c, v = .slice A l.length c ∧ PieceFix w X A l := by
  rcases h.2 with ⟨rfl, h0⟩ | ⟨g, cap, cur, rfl, hB, hg, hn, hc, hs, ht⟩
  · rw [h0]; exact ⟨none, 0, rfl, fun h => by omega, hf⟩
  · refine ⟨some ⟨g, 0, none⟩, cap, rfl, fun _ => ⟨⟨g, 0, none⟩, rfl, ⟨(Array.getElem?_eq_some_iff.1 hg).1, hX g rfl⟩, fun j y hy => ?_⟩, hf⟩
    have key : ∀ i u, i < 8 → y.cells[i]? = some u → w.cell? ⟨g, j * 8 + i, none⟩ = some u := fun i u hi hu => by
      have := World.ownsRow.cells h (g := g) rfl (j * 8 + i) u (by rw [rowP_get l j y hy i hi]; exact hu)
      rwa [addr_row8] at this
    rw [addr_row8]
    exact ⟨⟨key 0 _ (by omega) rfl, key 1 _ (by omega) rfl, key 2 _ (by omega) rfl, key 3 _ (by omega) rfl, key 4 _ (by omega) rfl, key 5 _ (by omega) rfl⟩, key 6 _ (by omega) rfl, key 7 _ (by omega) rfl⟩
theorem TokOwn.fix {w : World} {B : Nat} {v : Value} {l : List Tv} {X : Nat → Prop} (h : TokOwn w B v l) (hX : ∀ k, v.ownBlock = some k → ¬ X k) (hf : ∀ p ∈ l, p.fit) : ∃ A c, v = .slice A l.length c ∧ (A = none → c = 0 ∧ l = []) ∧ l.length ≤ c ∧ TokFix w X A l := by
  obtain ⟨A, c, hv, hs⟩ := h.sl
  rcases h.2 with ⟨e, h0⟩ | ⟨g, cap, cur, e, hB, hg, hn, hc, -, ht⟩
  · rw [hv] at e; injection e with e1 e2 e3; subst e1 e3
    exact ⟨none, 0, hv, fun _ => ⟨rfl, List.eq_nil_of_length_eq_zero h0⟩, by omega, fun hp => by omega, hf⟩
  · have e' := e
    rw [hv] at e; injection e with e1 e2 e3; subst e1 e3
    refine ⟨_, _, hv, (fun e => by cases e), hn, fun hp => ?_, hf⟩
    obtain ⟨ad, e, hlt, hat⟩ := hs hp
    injection e with e; subst e
    exact ⟨_, rfl, ⟨hlt, hX g (by rw [e']; rfl)⟩, hat⟩
end Mx
end Go.Proofs.YtnhcjgnohnedaaaGreatDoor

namespace Go.Proofs.YtnhcjgnohnedaaaGreatDoor
open Go.RowKit

namespace Mx
theorem body_bad {f n : Nat} {pl : Pl} {acc : List Piece} {s : St} {e : Flt} (h : read s = .bad e) : body (f + 1) pl n acc s = .bad e := by simp [body, bind, M.bind, h]
theorem body_ret {f : Nat} {pl : Pl} {acc : List Piece} {s s1 : St} {x : Tv} (h : read s = .ok x s1) (h1 : meansW s1 x sEnddef = true) : body (f + 1) pl 0 acc s = .ok acc s1 := by simp [body, bind, M.bind, h, h1]
theorem body_less {f n : Nat} {pl : Pl} {acc : List Piece} {s s1 : St} {x : Tv} (h : read s = .ok x s1) (h1 : meansW s1 x sEnddef = true) : body (f + 1) pl (n + 1) acc s = body f pl n (acc ++ [piece pl x]) s1 := by simp [body, bind, M.bind, h, h1]
theorem body_more {f n : Nat} {pl : Pl} {acc : List Piece} {s s1 : St} {x : Tv} (h : read s = .ok x s1) (h1 : meansW s1 x sEnddef = false) (h2 : meansW s1 x sDef = true) : body (f + 1) pl n acc s = body f pl (n + 1) (acc ++ [piece pl x]) s1 := by simp [body, bind, M.bind, h, h1, h2]
theorem body_same {f n : Nat} {pl : Pl} {acc : List Piece} {s s1 : St} {x : Tv} (h : read s = .ok x s1) (h1 : meansW s1 x sEnddef = false) (h2 : meansW s1 x sDef = false) : body (f + 1) pl n acc s = body f pl n (acc ++ [piece pl x]) s1 := by simp [body, bind, M.bind, h, h1, h2]
theorem means_one {s : St} {x : Tv} (h : meansW s x sEnddef = true) : meansW s x sDef = false := by
  unfold meansW at *
  rw [Bool.and_eq_true] at h
  cases hm : meaningOf s x with
  | var => simp [isWord]
  | mac m => simp [isWord]
  | word y =>
    rw [hm] at h
    have h2 := h.2
    unfold isWord at h2
    rw [decide_eq_true_eq] at h2
    subst h2
    have : isWord (.word sEnddef) sDef = false := by unfold isWord; rw [decide_eq_false_iff_not]; decide
    rw [this, Bool.and_false]
/-- How readBody ends. -/
def EndsP (B b σ : Nat) (M P : Nat → Prop) (pl : Pl) (w : World) (R : Res (List Piece)) (e : Ending) (w' : World) : Prop :=
  ∃ M', Grows w M M' ∧ Turns M w w' ∧ match R with
  | .ok a s => ∃ va, e = .returned va ∧ PieceOwn w' B va a ∧ (∀ k, va.ownBlock = some k → w.heap.size ≤ k) ∧ (∀ p ∈ a, p.tok.fit) ∧ (∀ p ∈ a, p.arg ≤ pl.length) ∧ a.length ≤ 200000 ∧ Holds w' B b σ M' (row P va) s
  | .bad f => e = .panicked [{ v := .iface 27 (.agg #[.int .i64 f.code, .string f.name, .int .i64 f.line, .int .i64 f.col]), recovered := false }]
theorem endsP_bad {B b σ : Nat} {M P : Nat → Prop} {pl : Pl} {w w' : World} {R : Res (List Piece)} {f : Flt} {e : Ending} (hR : R = .bad f) (ht : Turns M w w')
    (he : e = .panicked [{ v := .iface 27 (.agg #[.int .i64 f.code, .string f.name, .int .i64 f.line, .int .i64 f.col]), recovered := false }]) : EndsP B b σ M P pl w R e w' := by
  rw [hR]; exact ⟨M, Grows.refl _ _, ht, he⟩
/-- Between two tokens of a body. -/
structure BRnd (w : World) (B b σ : Nat) (M P : Nat → Prop) (R : Res (List Piece)) (pl : Pl) (mb : Nat) (k n : Nat) (va : Value) (wr : World) (acc : List Piece) (s' : St) (M' : Nat → Prop) : Prop where
  eq : R = body k pl n acc s'
  fuel : 200001 ≤ k + s'.steps
  H : Holds wr B b σ M' (row P va) s'
  G : Grows w M M'
  T : Turns M w wr
  own : PieceOwn wr B va acc
  nw : ∀ k, va.ownBlock = some k → w.heap.size ≤ k
  len : acc.length ≤ s'.steps
  pls : Places wr mb pl
  fit : ∀ p ∈ acc, p.tok.fit
  arg : ∀ p ∈ acc, p.arg ≤ pl.length
  wi : n ≤ acc.length
theorem Turns.grewNew {M : Nat → Prop} {w w1 w2 : World} {r : Option Nat} (h : Turns M w w1) (hg : w1.grownBy w2 r) (hn : ∀ k, r = some k → w.heap.size ≤ k) : Turns M w w2 :=
  ⟨hg.os.trans h.os, hg.tape.trans h.tape, hg.output.trans h.output, Nat.le_trans h.size hg.size, fun k hk hM => (hg.block k (Nat.lt_of_lt_of_le hk h.size) (fun e => by have := hn k e.symm; omega)).trans (h.block k hk hM), fun k c hc => by
    obtain ⟨c1, h1, e1⟩ := h.exp k c hc
    have hk := (Array.getElem?_eq_some_iff.1 hc).1
    exact ⟨c1, (hg.block k (Nat.lt_of_lt_of_le hk h.size) (fun e => by have := hn k e.symm; omega)).trans h1, e1⟩⟩
theorem plIdx_le (pl : Pl) (x : ByteArray) : plIdx pl x ≤ pl.length := by
  unfold plIdx
  split
  · rename_i i h
    have := (List.findIdx?_eq_some_iff_getElem.1 h).1
    omega
  · omega
theorem BRnd.more {w w1 w3 : World} {B b σ : Nat} {M P M1 : Nat → Prop} {R : Res (List Piece)} {pl : Pl} {mb k n : Nat} {va v1 : Value} {acc : List Piece} {s1 : St} {x : Tv} {ai : Nat} {at' : Bool} (hx : x.fit) (hp : piece pl x = ⟨x, ai, at'⟩)
    (H : Holds w1 B b σ M1 (row P va) s1) (G : Grows w M M1) (T : Turns M w w1) (own : PieceOwn w1 B va acc) (nw : ∀ k, va.ownBlock = some k → w.heap.size ≤ k) (len : acc.length + 1 ≤ s1.steps) (pls : Places w1 mb pl)
    (fit : ∀ p ∈ acc, p.tok.fit) (arg : ∀ p ∈ acc, p.arg ≤ pl.length) (wi : n ≤ acc.length + 1) (fuel : 200001 ≤ k + s1.steps) (eq : R = body k pl n (acc ++ [piece pl x]) s1)
    (own1 : w3.ownsRow B 167 8 v1 (acc.length + 1) (rowP acc ++ ([.int .i64 x.k, .string x.t, .int .i64 x.p, .int .i64 x.q, .int .i64 x.a, .int .i64 x.c, .int .i64 ai, .bool at']))) (gr1 : w1.grownBy w3 va.ownBlock) (loc1 : v1.ownBlock = va.ownBlock ∨ ∃ g, v1.ownBlock = some g ∧ w1.heap.size ≤ g) : BRnd w B b σ M P R pl mb k n v1 w3 (acc ++ [piece pl x]) s1 M1 := by
  have own' : PieceOwn w3 B v1 (acc ++ [piece pl x]) := by
    unfold PieceOwn
    rw [List.length_append, show rowP (acc ++ [piece pl x]) = rowP acc ++ ([.int .i64 x.k, .string x.t, .int .i64 x.p, .int .i64 x.q, .int .i64 x.a, .int .i64 x.c, .int .i64 ai, .bool at']) by rw [hp]; simp [rowP, Piece.cells, Tv.cells]]
    exact own1
  have hmv : va.ownBlock ≠ some mb := fun e => by
    obtain ⟨cur, hc⟩ := row_ty own e
    exact pls.ne hc rfl
  have hle : (piece pl x).arg ≤ pl.length := by
    unfold piece
    split
    · exact plIdx_le _ _
    · exact Nat.zero_le _
  refine ⟨eq, fuel, H.grew gr1 (loc1.imp id (fun h => Or.inr h)) (fun k hk => (World.ownsRow.lt own1 k hk).2) (notExp_row own (by decide)), G, T.grewNew gr1 nw, own', ?_, by rw [List.length_append]; exact len, pls.keep (gr1.block mb pls.lt (fun e => hmv e.symm)), fun y hy => ?_, fun y hy => ?_, by rw [List.length_append]; exact wi⟩
  · intro k hk
    rcases loc1 with h | ⟨g, h, hg⟩
    · exact nw k (h ▸ hk)
    · rw [h] at hk; injection hk with hk; have := T.size; omega
  · rcases List.mem_append.1 hy with h | h
    · exact fit y h
    · rw [List.mem_singleton] at h; subst h; rw [hp]; exact hx
  · rcases List.mem_append.1 hy with h | h
    · exact arg y h
    · rw [List.mem_singleton] at h; subst h; exact hle
end Mx
end Go.Proofs.YtnhcjgnohnedaaaGreatDoor
