/-
  Package macro: how an expander lies in memory; what is kept while other blocks are written.
-/
import Derived.Test.YtnhcjgnohnedaaaGreatDoorMxM
import Derived.Maps.OwnSet
namespace Go.Proofs.YtnhcjgnohnedaaaGreatDoor
open Go.RowKit

namespace Mx
/-- Outside the blocks of M the world w' is as w was. -/
structure Turns (M : Nat → Prop) (w w' : World) : Prop where
  os : w'.os = w.os
  tape : w'.tape = w.tape
  output : w'.output = w.output
  size : w.heap.size ≤ w'.heap.size
  block : ∀ k, k < w.heap.size → ¬ M k → w'.heap[k]? = w.heap[k]?
  exp : ∀ (k : Nat) (c : Array Value), w.heap[k]? = some (.cells c 48 (0, 0)) → ∃ c' : Array Value, w'.heap[k]? = some (.cells c' 48 (0, 0)) ∧ c'.size = c.size
/-- No expander lies at this block. -/
def NotExp (w : World) (row : Option Nat) : Prop := ∀ (k : Nat) (c : Array Value), row = some k → w.heap[k]? ≠ some (.cells c 48 (0, 0))
theorem Turns.refl (M : Nat → Prop) (w : World) : Turns M w w := ⟨rfl, rfl, rfl, Nat.le_refl _, fun _ _ _ => rfl, fun _ c h => ⟨c, h, rfl⟩⟩
/-- M' has no blocks but those of M, and new ones. -/
def Grows (w : World) (M M' : Nat → Prop) : Prop := ∀ k, M' k → M k ∨ w.heap.size ≤ k
theorem Grows.refl (w : World) (M : Nat → Prop) : Grows w M M := fun _ h => Or.inl h
theorem Turns.trans {M M' : Nat → Prop} {w w1 w2 : World} (h : Turns M w w1) (hM : Grows w M M') (h' : Turns M' w1 w2) : Turns M w w2 :=
  ⟨h'.os.trans h.os, h'.tape.trans h.tape, h'.output.trans h.output, Nat.le_trans h.size h'.size, fun k hk hn =>
    (h'.block k (Nat.lt_of_lt_of_le hk h.size) (fun h2 => by rcases hM k h2 with h3 | h3; exact hn h3; omega)).trans (h.block k hk hn), fun k c hc => by
    obtain ⟨c1, h1, e1⟩ := h.exp k c hc
    obtain ⟨c2, h2, e2⟩ := h'.exp k c1 h1
    exact ⟨c2, h2, e2.trans e1⟩⟩
theorem Grows.trans {w w1 : World} {M M' M'' : Nat → Prop} (h : Grows w M M') (h' : Grows w1 M' M'') (hs : w.heap.size ≤ w1.heap.size) : Grows w M M'' := fun k hk => by
  rcases h' k hk with h1 | h1
  · exact h k h1
  · exact Or.inr (by omega)
theorem Turns.mono {N M : Nat → Prop} {w w' : World} (h : Turns N w w') (hN : ∀ k, N k → M k) : Turns M w w' := ⟨h.os, h.tape, h.output, h.size, fun k hk hn => h.block k hk (fun h2 => hn (hN k h2)), h.exp⟩
theorem Turns.mono' {N M : Nat → Prop} {w w' : World} (h : Turns N w w') (hN : ∀ k, k < w.heap.size → N k → M k) : Turns M w w' := ⟨h.os, h.tape, h.output, h.size, fun k hk hn => h.block k hk (fun h2 => hn (hN k hk h2)), h.exp⟩
theorem Turns.below {M : Nat → Prop} {w w' : World} (h : Turns M w w') {B : Nat} (hB : ∀ k, M k → B ≤ k) (hs : B ≤ w.heap.size) : Below B w w' :=
  ⟨h.os, h.tape, h.output, h.size, fun k hk => h.block k (by omega) (fun h2 => by have := hB k h2; omega)⟩
theorem Turns.of_below {w w' : World} (h : Below w.heap.size w w') (M : Nat → Prop) : Turns M w w' := ⟨h.os, h.tape, h.output, h.size, fun k hk _ => h.block k hk, fun k c hc => ⟨c, (h.block k (Array.getElem?_eq_some_iff.1 hc).1).trans hc, rfl⟩⟩
theorem Turns.of_grown {w w' : World} {row : Option Nat} (h : w.grownBy w' row) (hne : NotExp w row) : Turns (fun k => row = some k) w w' := ⟨h.os, h.tape, h.output, h.size, fun k hk hn => h.block k hk (fun e => hn e.symm), fun k c hc => ⟨c, (h.block k (Array.getElem?_eq_some_iff.1 hc).1 (fun e => hne k c e.symm hc)).trans hc, rfl⟩⟩
theorem Turns.alloc (M : Nat → Prop) (w : World) (o : Obj) : Turns M w (w.alloc o) := Turns.of_below (Below.alloc (Below.refl _ _) (Nat.le_refl _) o) M
theorem Turns.setCell {M : Nat → Prop} (w : World) {p : Addr} (hp : M p.block) (u : Value) : Turns M w (w.setCell p u) :=
  ⟨rfl, rfl, rfl, by simp [World.setCell], fun k _ hn => Below.heap_setCell _ _ _ _ (fun e => hn (e ▸ hp)), fun k c hc => by
    by_cases e : k = p.block
    · subst e
      refine ⟨if p.spot.isSome then c else c.setIfInBounds p.off u, by simp [World.setCell, Array.getElem?_modify, hc], ?_⟩
      by_cases h : p.spot.isSome = true
      · rw [if_pos h]
      · rw [if_neg h]; simp
    · exact ⟨c, (Below.heap_setCell _ _ _ _ e).trans hc, rfl⟩⟩
theorem Turns.drew {M : Nat → Prop} {w w' : World} (h : Turns M w w') : Turns M w w'.drew := ⟨h.os, h.tape, h.output, h.size, h.block, h.exp⟩
/-- A block that is there and is none of those that are written. -/
def Stay (w : World) (M : Nat → Prop) (k : Nat) : Prop := k < w.heap.size ∧ ¬ M k
theorem Stay.turn {w w' : World} {M M' : Nat → Prop} {k : Nat} (h : Stay w M k) (ht : Turns M w w') (hM : Grows w M M') : Stay w' M' k :=
  ⟨Nat.lt_of_lt_of_le h.1 ht.size, fun h2 => by rcases hM k h2 with h3 | h3; exact h.2 h3; have := h.1; omega⟩
theorem Stay.heap {w w' : World} {M : Nat → Prop} {k : Nat} (h : Stay w M k) (ht : Turns M w w') : w'.heap[k]? = w.heap[k]? := ht.block k h.1 h.2
theorem Stay.cell {w w' : World} {M : Nat → Prop} {p : Addr} (h : Stay w M p.block) (ht : Turns M w w') : w'.cell? p = w.cell? p := World.cell?_of_block (w := w) (h.heap ht)

/-- A slice of tokens that stay. -/
def TokFix (w : World) (M : Nat → Prop) (A : Option Addr) (l : List Tv) : Prop :=
  (0 < l.length → ∃ ad, A = some ad ∧ Stay w M ad.block ∧ ∀ j x, l[j]? = some x → TokAt w (ad.add (j * 6)) x) ∧ ∀ x ∈ l, x.fit
theorem TokFix.turn {w w' : World} {M M' : Nat → Prop} {A : Option Addr} {l : List Tv} (h : TokFix w M A l) (ht : Turns M w w') (hM : Grows w M M') : TokFix w' M' A l :=
  ⟨fun hn => by
    obtain ⟨ad, e, hs, hc⟩ := h.1 hn
    exact ⟨ad, e, hs.turn ht hM, fun j x hj => (hc j x hj).keep fun p hp => by rw [block_of_add] at hp; exact Stay.cell (by rw [hp]; exact hs) ht⟩, h.2⟩
theorem TokFix.sl {w : World} {M : Nat → Prop} {A : Option Addr} {l : List Tv} (h : TokFix w M A l) : TokSl w w.heap.size A l := fun hn => by
  obtain ⟨ad, e, hs, hc⟩ := h.1 hn
  exact ⟨ad, e, hs.1, hc⟩
theorem TokFix.nil (w : World) (M : Nat → Prop) (A : Option Addr) : TokFix w M A [] := ⟨fun h => by simp at h, fun x h => by simp at h⟩

/-- A piece of a body lies at an address. -/
def PieceAt (w : World) (E : Addr) (p : Piece) : Prop := TokAt w E p.tok ∧ w.cell? ⟨E.block, E.off + 6, none⟩ = some (.int .i64 p.arg) ∧ w.cell? ⟨E.block, E.off + 7, none⟩ = some (.bool p.text)
def PieceFix (w : World) (M : Nat → Prop) (A : Option Addr) (l : List Piece) : Prop :=
  (0 < l.length → ∃ ad, A = some ad ∧ Stay w M ad.block ∧ ∀ j x, l[j]? = some x → PieceAt w (ad.add (j * 8)) x) ∧ ∀ x ∈ l, x.tok.fit
theorem PieceFix.turn {w w' : World} {M M' : Nat → Prop} {A : Option Addr} {l : List Piece} (h : PieceFix w M A l) (ht : Turns M w w') (hM : Grows w M M') : PieceFix w' M' A l :=
  ⟨fun hn => by
    obtain ⟨ad, e, hs, hc⟩ := h.1 hn
    have hk : ∀ j (p : Addr), p.block = (ad.add (j * 8)).block → w'.cell? p = w.cell? p := fun j p hp => by rw [block_of_add] at hp; exact Stay.cell (by rw [hp]; exact hs) ht
    exact ⟨ad, e, hs.turn ht hM, fun j x hj => ⟨(hc j x hj).1.keep (hk j), (hk j ⟨_, _, none⟩ rfl).trans (hc j x hj).2.1, (hk j ⟨_, _, none⟩ rfl).trans (hc j x hj).2.2⟩⟩, h.2⟩
/-- Groups of parameters. -/
def ParFix (w : World) (M : Nat → Prop) (A : Option Addr) (l : List Par) : Prop :=
  0 < l.length → ∃ ad, A = some ad ∧ Stay w M ad.block ∧ ∀ j x, l[j]? = some x → w.cell? (ad.add (j * 2)) = some (.bool x.text) ∧ w.cell? ⟨(ad.add (j * 2)).block, (ad.add (j * 2)).off + 1, none⟩ = some (.int .i64 x.count)
theorem ParFix.turn {w w' : World} {M M' : Nat → Prop} {A : Option Addr} {l : List Par} (h : ParFix w M A l) (ht : Turns M w w') (hM : Grows w M M') : ParFix w' M' A l := fun hn => by
  obtain ⟨ad, e, hs, hc⟩ := h hn
  have hk : ∀ j (p : Addr), p.block = (ad.add (j * 2)).block → w'.cell? p = w.cell? p := fun j p hp => by rw [block_of_add] at hp; exact Stay.cell (by rw [hp]; exact hs) ht
  exact ⟨ad, e, hs.turn ht hM, fun j x hj => ⟨(hk j _ rfl).trans (hc j x hj).1, (hk j ⟨_, _, none⟩ rfl).trans (hc j x hj).2⟩⟩
/-- A macro, behind its pointer. -/
structure IsMac (w : World) (M : Nat → Prop) (k : Nat) (m : Mac) : Prop where
  stay : Stay w M k
  ex : ∃ A1 c1 A2 c2, w.heap[k]? = some (.cells #[.slice A1 m.groups.length c1, .slice A2 m.body.length c2] 129 (0, 0)) ∧ ParFix w M A1 m.groups ∧ PieceFix w M A2 m.body
  few1 : m.groups.length ≤ 200001
  few2 : m.body.length ≤ 200001
  few3 : ∀ g ∈ m.groups, g.count ≤ 200001
  few4 : ∀ p ∈ m.body, p.arg ≤ (m.groups.map Par.count).sum
theorem IsMac.turn {w w' : World} {M M' : Nat → Prop} {k : Nat} {m : Mac} (h : IsMac w M k m) (ht : Turns M w w') (hM : Grows w M M') : IsMac w' M' k m := by
  obtain ⟨A1, c1, A2, c2, e, h1, h2⟩ := h.ex
  exact ⟨h.stay.turn ht hM, ⟨A1, c1, A2, c2, (h.stay.heap ht).trans e, h1.turn ht hM, h2.turn ht hM⟩, h.few1, h.few2, h.few3, h.few4⟩
/-- What a name means, as an interface's value. -/
def IsMean (w : World) (M : Nat → Prop) (v : Value) : Mean → Prop
  | .var => v = .iface 95 (.agg #[])
  | .word s => v = .iface 73 (.string s) ∧ s.size ≤ maxLen
  | .mac m => ∃ k, v = .iface 61 (.pointer (some ⟨k, 0, none⟩)) ∧ IsMac w M k m
theorem IsMean.turn {w w' : World} {M M' : Nat → Prop} {v : Value} {m : Mean} (h : IsMean w M v m) (ht : Turns M w w') (hM : Grows w M M') : IsMean w' M' v m := by
  cases m with
  | var => exact h
  | word s => exact h
  | mac m => obtain ⟨k, e, hm⟩ := h; exact ⟨k, e, hm.turn ht hM⟩

/-- An element of the map, as it is. -/
def rawElem (v : Value) : Option (DataW Value × List MemPlace) := some (.held v, [])
/-- The map of meanings. -/
structure MapIs (w : World) (M : Nat → Prop) (mb n : Nat) (f : ByteArray → Mean) : Prop where
  ex : ∃ D : DataW Value, w.ownsMap Tryz.prog 9 rawElem mb n D ∧ ∀ s : ByteArray, s.size ≤ maxLen →
    (Maps.has D (.string s.data.toList) = false ∧ f s = .var) ∨ (Maps.has D (.string s.data.toList) = true ∧ ∃ v, (∀ z, D.atKey (.string s.data.toList) z = .held v) ∧ IsMean w M v (f s))
theorem MapIs.turn {w w' : World} {M M' : Nat → Prop} {mb n : Nat} {f : ByteArray → Mean} (h : MapIs w M mb n f) (ht : Turns M w w') (hM : Grows w M M') (hb : w'.heap[mb]? = w.heap[mb]?) : MapIs w' M' mb n f := by
  obtain ⟨D, ⟨es, clock, hh, r⟩, hf⟩ := h.ex
  exact ⟨D, ⟨es, clock, hb.trans hh, r⟩, fun s hs => by
    rcases hf s hs with h1 | ⟨h1, v, h2, h3⟩
    · exact Or.inl h1
    · exact Or.inr ⟨h1, v, h2, h3.turn ht hM⟩⟩

/-- Rows keep while their block does. -/
theorem row_keep {w w' : World} {B : Nat} {e : TypeId} {z : Nat} {v : Value} {n : Nat} {xs : List Value} (h : w.ownsRow B e z v n xs) (hk : ∀ k, v.ownBlock = some k → w'.heap[k]? = w.heap[k]?) : w'.ownsRow B e z v n xs := by
  refine ⟨h.1, ?_⟩
  rcases h.2 with hn | ⟨g, cap, cur, rfl, hb, hgg, rest⟩
  · exact .inl hn
  · exact .inr ⟨g, cap, cur, rfl, hb, (hk g rfl).trans hgg, rest⟩
/-- The row's block bears its type. -/
theorem row_ty {w : World} {B : Nat} {e : TypeId} {z : Nat} {v : Value} {n : Nat} {xs : List Value} (h : w.ownsRow B e z v n xs) {k : Nat} (hk : v.ownBlock = some k) : ∃ cur, w.heap[k]? = some (.cells cur e (0, 0)) := by
  rcases h.2 with ⟨rfl, -⟩ | ⟨g, cap, cur, rfl, hb, hgg, rest⟩
  · simp [Value.ownBlock] at hk
  · simp [Value.ownBlock] at hk; subst hk; exact ⟨cur, hgg⟩
theorem notExp_none (w : World) : NotExp w none := fun k c e => by cases e
theorem notExp_row {w : World} {B : Nat} {e : TypeId} {z : Nat} {v : Value} {n : Nat} {xs : List Value} (h : w.ownsRow B e z v n xs) (he : e ≠ 48) : NotExp w v.ownBlock := fun k c hk hc => by
  obtain ⟨cur, h1⟩ := row_ty h hk
  rw [h1] at hc
  injection hc with hc
  injection hc with _ h2 _
  exact he h2
theorem notExp_map {w : World} {P : Program} {K : TypeId} {R : Value → Option (DataW Value × List MemPlace)} {mb n : Nat} {D : DataW Value} (h : w.ownsMap P K R mb n D) : NotExp w (some mb) := fun k c hk hc => by
  obtain ⟨es, clock, hh, -⟩ := h
  injection hk with hk
  rw [← hk, hh] at hc
  cases hc
theorem NotExp.below {w w' : World} {row : Option Nat} (h : NotExp w row) (hb : Below w.heap.size w w') (hr : ∀ k, row = some k → k < w.heap.size) : NotExp w' row := fun k c hk hc => h k c hk ((hb.block k (hr k hk)).symm.trans hc)
theorem NotExp.drew {w : World} {row : Option Nat} (h : NotExp w row) : NotExp w.drew row := h
/-- Lists of tokens that stay, the first one first; none is empty. -/
def Lists (w : World) (M : Nat → Prop) : List Value → List (List Tv) → Prop
  | [], [] => True
  | v :: vs, l :: ls => (∃ A c, v = .slice A l.length c ∧ l.length ≤ c ∧ TokFix w M A l ∧ 0 < l.length ∧ l.length ≤ 20000) ∧ Lists w M vs ls
  | _, _ => False
theorem Lists.turn {w w' : World} {M M' : Nat → Prop} (ht : Turns M w w') (hM : Grows w M M') : ∀ {vs : List Value} {ls : List (List Tv)}, Lists w M vs ls → Lists w' M' vs ls
  | [], [], _ => trivial
  | _ :: _, _ :: _, ⟨⟨A, c, e, hc, h, hp, hq⟩, hr⟩ => ⟨⟨A, c, e, hc, h.turn ht hM, hp, hq⟩, hr.turn ht hM⟩
  | [], _ :: _, h => h.elim
  | _ :: _, [], h => h.elim
/-- The cells of what save took away. -/
def Saved (w : World) (M : Nat → Prop) : List Value → List (ByteArray × Mean) → Prop
  | [], [] => True
  | a :: v :: cs, p :: ps => (a = .string p.1 ∧ p.1.size ≤ maxLen ∧ IsMean w M v p.2) ∧ Saved w M cs ps
  | _, _ => False
theorem Saved.turn {w w' : World} {M M' : Nat → Prop} (ht : Turns M w w') (hM : Grows w M M') : ∀ {cs : List Value} {ps : List (ByteArray × Mean)}, Saved w M cs ps → Saved w' M' cs ps
  | [], [], _ => trivial
  | _ :: _ :: _, _ :: _, ⟨⟨e, hz, h⟩, hr⟩ => ⟨⟨e, hz, h.turn ht hM⟩, hr.turn ht hM⟩
  | [], _ :: _, h => h.elim
  | [_], [], h => h.elim
  | [_], _ :: _, h => h.elim
  | _ :: _ :: _, [], h => h.elim
/-- The groups, the first one first; each has a row of its own. -/
def Grps (w : World) (B : Nat) (M X : Nat → Prop) : List Value → List (List (ByteArray × Mean)) → Prop
  | [], [] => True
  | v :: vs, g :: gs => (∃ cs, w.ownsRow B 162 2 v g.length cs ∧ (∀ k, v.ownBlock = some k → M k) ∧ Saved w X cs g ∧ ∀ u ∈ vs, ∀ k, v.ownBlock = some k → u.ownBlock ≠ some k) ∧ Grps w B M X vs gs
  | _, _ => False
theorem Grps.turn {w w' : World} {B : Nat} {M M' X X' : Nat → Prop} (ht : Turns X w w') (hM : Grows w X X') : ∀ {vs : List Value} {gs : List (List (ByteArray × Mean))}, Grps w B M X vs gs → (∀ k, M k → M' k) → (∀ v ∈ vs, ∀ k, v.ownBlock = some k → w'.heap[k]? = w.heap[k]?) → Grps w' B M' X' vs gs
  | [], [], _, _, _ => trivial
  | v :: _, _ :: _, ⟨⟨cs, ho, hm, hs, hd⟩, hr⟩, hMM, hk => ⟨⟨cs, row_keep ho (fun k e => hk v (by simp) k e), fun k e => hMM k (hm k e), hs.turn ht hM, hd⟩, hr.turn ht hM hMM (fun u hu => hk u (by simp [hu]))⟩
  | [], _ :: _, h, _, _ => h.elim
  | _ :: _, [], h, _, _ => h.elim

/-- Where the parts of an expander lie. -/
structure Lay where
  vr : Value
  vl : Value
  mb : Nat
  vg : Value
  vo : Value
def cellsE (y : Lay) (s : St) : Array Value := #[y.vr, y.vl, .int .i64 s.last.k, .string s.last.t, .int .i64 s.last.p, .int .i64 s.last.q, .int .i64 s.last.a, .int .i64 s.last.c, .int .i64 s.steps, .map (some y.mb), y.vg, .bool s.saving, y.vo]
def saved (s : St) : Nat := (s.groups.map List.length).sum
/-- What stood before the call, below block B. -/
def Env0 (w : World) (B : Nat) : Prop := ∃ w0, w0.heap.size ≤ B ∧ EnvL w0 ∧ Below w0.heap.size w0 w
theorem Env0.env {w : World} {B : Nat} (h : Env0 w B) : EnvL w := by obtain ⟨w0, -, h1, h2⟩ := h; exact h1.below h2
theorem Env0.turn {w w' : World} {B : Nat} (h : Env0 w B) (hb : Below B w w') : Env0 w' B := by obtain ⟨w0, h0, h1, h2⟩ := h; exact ⟨w0, h0, h1, h2.trans (hb.mono h0)⟩
/-- The blocks that an expander writes, and those of others. -/
def uni (M P : Nat → Prop) (k : Nat) : Prop := M k ∨ P k
structure Parts (w : World) (B b σ : Nat) (M X : Nat → Prop) (y : Lay) (s : St) : Prop where
  cells : w.heap[b]? = some (.cells (cellsE y s) 48 (0, 0))
  rest : ∃ A c, y.vr = .slice A s.rest.length c ∧ s.rest.length ≤ c ∧ TokFix w X A s.rest
  lists : ∃ xs, w.ownsRow B 22 1 y.vl s.lists.length xs ∧ (∀ k, y.vl.ownBlock = some k → M k) ∧ Lists w X xs s.lists.reverse
  out : TokOwn w B y.vo s.out ∧ (∀ k, y.vo.ownBlock = some k → M k)
  map : M y.mb ∧ ∃ n, MapIs w X y.mb n s.means ∧ n + saved s + σ ≤ 1000 + 4 * s.steps
  groups : ∃ xs, w.ownsRow B 160 1 y.vg s.groups.length xs ∧ (∀ k, y.vg.ownBlock = some k → M k) ∧ Grps w B M X xs (s.groups.reverse.map List.reverse)
/-- An expander lies at block b; M are the blocks that it writes, P those of its callers that it leaves alone and does not lead to; σ is what is left of its bounds. -/
structure Holds (w : World) (B b σ : Nat) (M P : Nat → Prop) (s : St) : Prop where
  env : Env0 w B
  low : ∀ k, M k → B ≤ k ∧ k < w.heap.size
  lowP : ∀ k, P k → B ≤ k ∧ k < w.heap.size ∧ ¬ M k
  hb : M b
  Bs : B ≤ w.heap.size
  parts : ∃ y, Parts w B b σ M (uni M P) y s
  lastf : s.last.fit
  b1 : s.steps ≤ 200000
  b2 : s.out.length ≤ 20000
  b3 : s.lists.length ≤ 200
  b4 : s.groups.length + σ ≤ 1000 + 4 * s.steps
  b5 : s.rest.length ≤ 9223372036854775807
/-- How a call on an expander ends. -/
def Ends {α : Type} (B b σ : Nat) (M P : Nat → Prop) (w : World) (R : Res α) (val : α → St → (Nat → Prop) → World → Value → Prop) (e : Ending) (w' : World) : Prop :=
  ∃ M', Grows w M M' ∧ Turns M w w' ∧ match R with
  | .ok a s => ∃ v, e = .returned v ∧ val a s (uni M' P) w' v ∧ Holds w' B b σ M' P s
  | .bad f => e = .panicked [{ v := .iface 27 (.agg #[.int .i64 f.code, .string f.name, .int .i64 f.line, .int .i64 f.col]), recovered := false }]
end Mx
end Go.Proofs.YtnhcjgnohnedaaaGreatDoor
