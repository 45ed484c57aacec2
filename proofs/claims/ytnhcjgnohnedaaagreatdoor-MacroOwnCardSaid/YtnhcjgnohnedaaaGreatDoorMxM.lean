/-
  Slices of tokens: one appended to another.
  From a walk to a row of layer 3: an argument that is a slice of tokens, opened and read again.
  The mathematics of macros: tokens expanded, as a plain function of tokens.
-/
import Derived.Test.YtnhcjgnohnedaaaGreatDoorLxT
import Derived.Laws.AppendOwnNone
namespace Go.Proofs.YtnhcjgnohnedaaaGreatDoor
open Go.RowKit

def Tv.cells (x : Tv) : List Value := [.int .i64 x.k, .string x.t, .int .i64 x.p, .int .i64 x.q, .int .i64 x.a, .int .i64 x.c]
def rowV (l : List Tv) : List Value := l.flatMap Tv.cells
theorem rowV_len (l : List Tv) : (rowV l).length = l.length * 6 := by
  induction l with
  | nil => rfl
  | cons x l ih => rw [show rowV (x :: l) = x.cells ++ rowV l by simp [rowV], List.length_append, ih, List.length_cons]; simp [Tv.cells]; omega
theorem rowV_get : ∀ (l : List Tv) (j : Nat) (x : Tv), l[j]? = some x → ∀ i, i < 6 → (rowV l)[j * 6 + i]? = x.cells[i]?
  | [], j, x, h, _, _ => by simp at h
  | y :: l, 0, x, h, i, hi => by
    simp at h; subst h
    rw [show rowV (y :: l) = y.cells ++ rowV l by simp [rowV], List.getElem?_append_left (by simp [Tv.cells]; omega)]
    simp
  | y :: l, j + 1, x, h, i, hi => by
    rw [show rowV (y :: l) = y.cells ++ rowV l by simp [rowV], List.getElem?_append_right (by simp [Tv.cells]; omega)]
    have := rowV_get l j x (by simpa using h) i hi
    rw [← this]
    congr 1
    simp [Tv.cells]; omega
theorem rowV_of (l : List Lx.Tp) : rowV (l.map Tv.of) = rowOf l := by
  induction l with
  | nil => rfl
  | cons x l ih => rw [List.map_cons, show rowV (Tv.of x :: l.map Tv.of) = (Tv.of x).cells ++ rowV (l.map Tv.of) by simp [rowV], ih]; rfl
theorem add_of_add (a : Addr) (i j : Nat) : (a.add i).add j = a.add (i + j) := by
  unfold Addr.add
  by_cases hi : i = 0 <;> by_cases hj : j = 0 <;> simp [hi, hj, Nat.add_assoc]
theorem TokAt.cell {w : World} {E : Addr} {x : Tv} (h : TokAt w E x) (r : Nat) (u : Value) (hu : x.cells[r]? = some u) : w.cell? (E.add r) = some u := by
  obtain ⟨h0, h1, h2, h3, h4, h5⟩ := h
  have hr : r < 6 := by have := (List.getElem?_eq_some_iff.1 hu).1; simpa [Tv.cells] using this
  have h := (show r = 0 ∨ r = 1 ∨ r = 2 ∨ r = 3 ∨ r = 4 ∨ r = 5 by omega)
  rcases h with rfl | rfl | rfl | rfl | rfl | rfl <;> (simp only [Tv.cells, List.getElem?_cons_zero, List.getElem?_cons_succ, Option.some.injEq] at hu; subst hu)
  · exact h0
  all_goals assumption
theorem TokSl.cells {w : World} {B : Nat} {ad : Addr} {l : List Tv} (h : TokSl w B (some ad) l) : ∀ j u, (rowV l)[j]? = some u → w.cell? (ad.add j) = some u := by
  intro j u hu
  have hj := (List.getElem?_eq_some_iff.1 hu).1
  rw [rowV_len] at hj
  obtain ⟨ad', e, -, hc⟩ := h (by omega)
  injection e with e
  subst e
  have hi : j / 6 < l.length := by omega
  have h1 := rowV_get l (j / 6) _ (List.getElem?_eq_getElem hi) (j % 6) (by omega)
  rw [show j / 6 * 6 + j % 6 = j by omega, hu] at h1
  have := (hc (j / 6) _ (List.getElem?_eq_getElem hi)).cell (j % 6) u h1.symm
  rwa [add_of_add, show j / 6 * 6 + j % 6 = j by omega] at this
theorem rowV_one (l : List Tv) : ∀ u ∈ rowV l, u.oneCell' = true := by
  intro u hu
  simp only [rowV, List.mem_flatMap] at hu
  obtain ⟨x, -, hx⟩ := hu
  simp only [Tv.cells, List.mem_cons, List.not_mem_nil, or_false] at hx
  rcases hx with rfl | rfl | rfl | rfl | rfl | rfl <;> rfl
/-- A slice of tokens of the call's own. -/
def TokOwn (w : World) (B : Nat) (v : Value) (l : List Tv) : Prop := w.ownsRow B 41 6 v l.length (rowV l)
theorem TokOwn.sl {w : World} {B : Nat} {v : Value} {l : List Tv} (h : TokOwn w B v l) : ∃ A c, v = .slice A l.length c ∧ TokSl w w.heap.size A l := by
  rcases h.2 with ⟨rfl, h0⟩ | ⟨g, cap, cur, rfl, hB, hg, hn, hc, hs, ht⟩
  · rw [h0]
    exact ⟨none, 0, rfl, fun hn => by omega⟩
  · refine ⟨some ⟨g, 0, none⟩, cap, rfl, fun _ => ⟨⟨g, 0, none⟩, rfl, (Array.getElem?_eq_some_iff.1 hg).1, fun j y hy => ?_⟩⟩
    have key : ∀ i u, i < 6 → y.cells[i]? = some u → w.cell? ⟨g, j * 6 + i, none⟩ = some u := fun i u hi hu => by
      have := World.ownsRow.cells h (g := g) rfl (j * 6 + i) u (by rw [rowV_get l j y hy i hi]; exact hu)
      rwa [addr_row] at this
    rw [addr_row]
    exact ⟨key 0 _ (by omega) rfl, key 1 _ (by omega) rfl, key 2 _ (by omega) rfl, key 3 _ (by omega) rfl, key 4 _ (by omega) rfl, key 5 _ (by omega) rfl⟩

/-- Tokens appended to tokens of the call's own. -/
theorem wpList_append_toks {w : World} {ops : Array Oper} {rest : List Oper} {o : Oper} {a : Act} {Q : Exit → Act → World → Prop} (hgd : o.guard = none) (s x : Operand)
    (ho : o.op = .call { callee := .builtin .append, args := #[s, x], argTypes := #[22, 22] }) (base : Nat) (v : Value) (l m : List Tv) (hs : a.eval s = v) (hown : TokOwn w base v l)
    (B c : Nat) (A : Option Addr) (hx : a.eval x = .slice A m.length c) (hA : A = none → c = 0 ∧ m = []) (hm : TokSl w B A m) (hl : l.length + m.length ≤ 1000000) (hbase : base ≤ w.heap.size)
    (h : ∀ v' w', TokOwn w' base v' (l ++ m) → w.grownBy w' v.ownBlock → wpList Tryz.prog ops Q rest (a.put o.dst v') w') : wpList Tryz.prog ops Q (o :: rest) a w := by
  obtain ⟨i0, hi, hz0, hz1, hz2⟩ := info_parts info_tok
  cases A with
  | none =>
    obtain ⟨rfl, rfl⟩ := hA rfl
    exact wpList_append_own_none hgd s x _ ho base 41 i0 6 Tryz.underlying22 hi v l.length (rowV l) hs hown hx (h v w (by rw [List.append_nil]; exact hown) (grown_refl _ _))
  | some ad =>
    refine wpList_append_own w hgd s x _ ho base 41 i0 (.agg #[.int .i64 0, .string ⟨#[]⟩, .int .i64 0, .int .i64 0, .int .i64 0, .int .i64 0]) 6 56 Tryz.underlying22 hi hz0 hz1 hz2 rfl (by decide) v l.length (rowV l) hs hown ad m.length c (rowV m) hx (rowV_len m) hm.cells (rowV_one m) (by unfold maxLen; omega) (by omega) hbase ?_
    intro v' w' h1 h2 _
    refine h v' w' ?_ h2
    unfold TokOwn
    rw [List.length_append, show rowV (l ++ m) = rowV l ++ rowV m by simp [rowV]]
    exact h1
end Go.Proofs.YtnhcjgnohnedaaaGreatDoor

namespace Go.Proofs.YtnhcjgnohnedaaaGreatDoor
open Go.ChangeShapes Go.WideShapes Go.ChangeAt Go.RowKit Go.Joins Go.Deep

theorem six {cs : List Value} (h : cs.length = 6) : ∃ c0 c1 c2 c3 c4 c5, cs = [c0, c1, c2, c3, c4, c5] := by
  match cs, h with
  | [c0, c1, c2, c3, c4, c5], _ => exact ⟨c0, c1, c2, c3, c4, c5, rfl⟩
section
variable {H : Type} {enc : TypeId × Value → H} {w : World} {base : Nat} {spare : Nat → Bool} {held : Bool}
/-- The cells of a token that is read. -/
theorem tok_cells {fuel : Nat} {cs : List Value} {x : DataW H × List MemPlace} (h : DataW.trod enc Tryz.prog w base spare held fuel 41 cs = some x) : ∃ y : Tv, cs = y.cells ∧ y.fit := by
  obtain ⟨xs, n, rfl, -, hlen, hxl, hf⟩ := DataW.trod_struct Tryz.underlying41 h
  have hC : Tryz.prog.cellsOf 41 = 6 := by kernel_rfl
  have hK : Tryz.prog.cellsOf 37 = 1 := by kernel_rfl
  have hS : Tryz.prog.cellsOf 9 = 1 := by kernel_rfl
  have hN : Tryz.prog.cellsOf 39 = 2 := by kernel_rfl
  have hI : Tryz.prog.cellsOf 3 = 1 := by kernel_rfl
  have hJ : Tryz.prog.cellsOf 2 = 1 := by kernel_rfl
  have uK : Tryz.prog.underlying 37 = some (.int .i64) := by kernel_rfl
  rw [hC] at hlen
  obtain ⟨c0, c1, c2, c3, c4, c5, rfl⟩ := six hlen
  have hxl5 : xs.length = 5 := hxl
  have some_of : ∀ i, i < 5 → ∃ y, xs[i]? = some y := fun i hi => ⟨_, List.getElem?_eq_getElem (by omega)⟩
  have f0 := hf 0 _ rfl
  have f1 := hf 1 _ rfl
  have f2 := hf 2 _ rfl
  have f3 := hf 3 _ rfl
  have f4 := hf 4 _ rfl
  obtain ⟨y0, e0⟩ := some_of 0 (by omega)
  obtain ⟨y1, e1⟩ := some_of 1 (by omega)
  obtain ⟨y2, e2⟩ := some_of 2 (by omega)
  obtain ⟨y3, e3⟩ := some_of 3 (by omega)
  obtain ⟨y4, e4⟩ := some_of 4 (by omega)
  rw [e0] at f0; rw [e1] at f1; rw [e2] at f2; rw [e3] at f3; rw [e4] at f4
  replace f0 : DataW.trod enc Tryz.prog w base spare held n 37 (([c0, c1, c2, c3, c4, c5].drop 0).take (Tryz.prog.cellsOf 37)) = some y0 := f0
  replace f1 : DataW.trod enc Tryz.prog w base spare held n 9 (([c0, c1, c2, c3, c4, c5].drop 1).take (Tryz.prog.cellsOf 9)) = some y1 := f1
  replace f2 : DataW.trod enc Tryz.prog w base spare held n 39 (([c0, c1, c2, c3, c4, c5].drop 2).take (Tryz.prog.cellsOf 39)) = some y2 := f2
  replace f3 : DataW.trod enc Tryz.prog w base spare held n 3 (([c0, c1, c2, c3, c4, c5].drop 4).take (Tryz.prog.cellsOf 3)) = some y3 := f3
  replace f4 : DataW.trod enc Tryz.prog w base spare held n 3 (([c0, c1, c2, c3, c4, c5].drop 5).take (Tryz.prog.cellsOf 3)) = some y4 := f4
  rw [hK] at f0
  rw [hS] at f1
  rw [hN] at f2
  rw [hI] at f3 f4
  simp only [List.drop_succ_cons, List.drop_zero, List.take_succ_cons, List.take_zero] at f0 f1 f2 f3 f4
  obtain ⟨k, g0, -, -⟩ := DataW.trod_int uK f0
  obtain ⟨t, g1, -, wt⟩ := DataW.trod_string Tryz.underlying9 f1
  obtain ⟨a, g3, -, -⟩ := DataW.trod_int Tryz.underlying3 f3
  obtain ⟨c, g4, -, -⟩ := DataW.trod_int Tryz.underlying3 f4
  obtain ⟨zs, m, -, -, -, hzl, hz⟩ := DataW.trod_struct Tryz.underlying39 f2
  have hzl2 : zs.length = 2 := hzl
  have z0 := hz 0 _ rfl
  have z1 := hz 1 _ rfl
  rw [List.getElem?_eq_getElem (by omega)] at z0 z1
  replace z0 : DataW.trod enc Tryz.prog w base spare held m 2 (([c2, c3].drop 0).take (Tryz.prog.cellsOf 2)) = some (zs[0]'(by omega)) := z0
  replace z1 : DataW.trod enc Tryz.prog w base spare held m 2 (([c2, c3].drop 1).take (Tryz.prog.cellsOf 2)) = some (zs[1]'(by omega)) := z1
  rw [hJ] at z0 z1
  simp only [List.drop_succ_cons, List.drop_zero, List.take_succ_cons, List.take_zero] at z0 z1
  obtain ⟨p, g2, -, wp⟩ := DataW.trod_int Tryz.underlying2 z0
  obtain ⟨q, g2', -, wq⟩ := DataW.trod_int Tryz.underlying2 z1
  simp only [List.cons.injEq, and_true] at g0 g1 g2 g2' g3 g4
  subst g0 g1 g2 g2' g3 g4
  obtain ⟨p1, p2⟩ := bounds_i64 wp
  obtain ⟨q1, q2⟩ := bounds_i64 wq
  exact ⟨⟨k, t, p, q, a, c⟩, rfl, ⟨p1, p2, q1, q2, wt⟩⟩
set_option maxRecDepth 100000 in
/-- An argument that is a slice of tokens. -/
theorem open_toks {r : Reach} {b0 : Nat} {v : Value} {d : DataW H} {ps : List MemPlace} (hv : Value.okWide Tryz.prog w r b0 22 v) (h : DataW.Trod enc Tryz.prog w base spare held 22 v d ps) :
    ∃ (A : Option Addr) (c : Nat) (l : List Tv), v = .slice A l.length c ∧ TokSl w w.heap.size A l ∧ (∀ x ∈ l, x.fit) ∧ l.length ≤ 9223372036854775807 := by
  obtain ⟨a0, len, cap, rfl⟩ := okWide_slice Tryz.underlying22 hv
  obtain ⟨fuel, hf⟩ := h
  have hC : Tryz.prog.cellsOf 41 = 6 := by kernel_rfl
  rcases open_slice Tryz.underlying22 hf with ⟨h0, -⟩ | ⟨a, ln, cp, m, n, D, Pl, h0, -, hlc, hcm, hm, -, hi⟩
  · have h1 : (.slice a0 len cap : Value) = .slice none 0 0 := by simpa [Value.cells] using h0
    injection h1 with h1 h2 h3
    subst h1 h2 h3
    exact ⟨none, 0, [], rfl, (fun hn => by simp at hn), (fun x hx => by simp at hx), by simp⟩
  · have h1 : (.slice a0 len cap : Value) = .slice (some a) ln cp := by simpa [Value.cells] using h0
    injection h1 with h1 h2 h3
    subst h1 h2 h3
    have hlm : len ≤ m := by rw [hm]; split <;> omega
    have key : ∀ i, i < len → ∃ y : Tv, y.fit ∧ TokAt w (a.add (i * 6)) y ∧ a.block < w.heap.size := fun i hil => by
      obtain ⟨cs, hcs, ht⟩ := hi i (by omega)
      obtain ⟨y, rfl, hy⟩ := tok_cells ht
      rw [hC] at hcs
      obtain ⟨-, -, hat⟩ := World.cells?_some hcs
      have at' : ∀ k, k < 6 → w.cell? ((a.add (i * 6)).add k) = y.cells[k]? := hat
      have plain : ∀ k, 0 < k → ((a.add (i * 6)).add k) = ⟨(a.add (i * 6)).block, (a.add (i * 6)).off + k, none⟩ := fun k hk => by
        unfold Addr.add; rw [if_neg (by omega)]
      refine ⟨y, hy, ⟨at' 0 (by omega), ?_, ?_, ?_, ?_, ?_⟩, ?_⟩
      · rw [← plain 1 (by omega)]; exact at' 1 (by omega)
      · rw [← plain 2 (by omega)]; exact at' 2 (by omega)
      · rw [← plain 3 (by omega)]; exact at' 3 (by omega)
      · rw [← plain 4 (by omega)]; exact at' 4 (by omega)
      · rw [← plain 5 (by omega)]; exact at' 5 (by omega)
      · have h5 := at' 1 (by omega)
        rw [plain 1 (by omega), block_of_add] at h5
        have h6 : w.cell? ⟨a.block, (a.add (i * 6)).off + 1, none⟩ = some (.string y.t) := h5
        cases hh : w.heap[a.block]? with
        | none => simp [World.cell?, hh] at h6
        | some o => exact (Array.getElem?_eq_some_iff.1 hh).1
    have : Inhabited Tv := ⟨⟨0, ⟨#[]⟩, 0, 0, 0, 0⟩⟩
    obtain ⟨f, hf2⟩ := choose_lt (α := Tv) (n := len) (p := fun i y => y.fit ∧ TokAt w (a.add (i * 6)) y ∧ a.block < w.heap.size) key
    refine ⟨some a, cap, (List.range len).map f, by simp, ?_, ?_, by simp; unfold maxLen at hcm; omega⟩
    · intro hn
      have hlen : 0 < len := by simpa using hn
      refine ⟨a, rfl, (hf2 0 hlen).2.2, fun j x hx => ?_⟩
      have hj : j < len := by have := (List.getElem?_eq_some_iff.1 hx).1; simpa using this
      simp [hj] at hx
      subst hx
      exact (hf2 j hj).2.1
    · intro x hx
      obtain ⟨j, hj, rfl⟩ := List.mem_map.1 hx
      exact (hf2 j (List.mem_range.1 hj)).1
end
/-- It reads again behind the call as it read before. -/
theorem toks_again {H : Type} {enc : TypeId × Value → H} {W W' : World} {v : Value} {d : DataW H} {ps : List MemPlace} (h : DataW.Trod enc Tryz.prog W 0 (fun _ => true) true 22 v d ps) (hb : Below W.heap.size W W') (hlt : ∀ x ∈ ps, x.block < W.heap.size) :
    DataW.Trod enc Tryz.prog W' 0 (fun b => decide (b < W.heap.size)) true 22 v d ps :=
  Below.trod (by kernel_rfl) (by kernel_rfl) (of_decide_eq_true (by kernel_rfl)) h hb hlt
end Go.Proofs.YtnhcjgnohnedaaaGreatDoor

namespace Go.Proofs.YtnhcjgnohnedaaaGreatDoor
namespace Mx

/-- A token of a macro's body, or the place of an argument there (from 1 on; 0: the token). -/
structure Piece where
  tok : Tv
  arg : Nat
  text : Bool
structure Par where
  text : Bool
  count : Nat
structure Mac where
  groups : List Par
  body : List Piece
inductive Mean where
  | var
  | word (s : ByteArray)
  | mac (m : Mac)
/-- A place of a program: lists and groups begin with the last one. -/
structure St where
  rest : List Tv
  lists : List (List Tv)
  last : Tv
  steps : Nat
  means : ByteArray → Mean
  groups : List (List (ByteArray × Mean))
  saving : Bool
  out : List Tv
structure Flt where
  code : Int
  name : ByteArray
  line : Int
  col : Int
inductive Res (α : Type) where
  | ok (a : α) (s : St)
  | bad (f : Flt)
def M (α : Type) : Type := St → Res α
def M.bind {α β : Type} (m : M α) (f : α → M β) : M β := fun s => match m s with | .ok a s' => f a s' | .bad x => .bad x
instance : Monad M where
  pure a := fun s => .ok a s
  bind := M.bind
def bad {α : Type} (f : Flt) : M α := fun _ => .bad f
def modify (f : St → St) : M Unit := fun s => .ok () (f s)

def str (l : List UInt8) : ByteArray := ⟨l.toArray⟩
def sDef : ByteArray := str [100, 101, 102]
def sLet : ByteArray := str [108, 101, 116]
def sEnddef : ByteArray := str [101, 110, 100, 100, 101, 102]
def sBegin : ByteArray := str [98, 101, 103, 105, 110, 103, 114, 111, 117, 112]
def sEnd : ByteArray := str [101, 110, 100, 103, 114, 111, 117, 112]
def sSave : ByteArray := str [115, 97, 118, 101]
def sExpr : ByteArray := str [101, 120, 112, 114]
def sText : ByteArray := str [116, 101, 120, 116]
def isName (t : Tv) : Bool := t.k == 0 || t.k == 1
def isSign (t : Tv) (s : ByteArray) : Bool := t.k == 4 && decide (t.t = s)
def nameOf (t : Tv) : ByteArray := if t.k = 2 then ⟨(textS [t]).toArray⟩ else t.t
def failAt (c : Int) (t : Tv) : Flt := ⟨c, nameOf t, t.a, t.c⟩
def early {α : Type} : M α := fun s => .bad ⟨12, str [], s.last.a, s.last.c⟩

/-- The next token, and what is left. -/
def pop (s : St) : Option (Tv × St) :=
  match s.lists with
  | (t :: l) :: ls => some (t, { s with lists := if l.isEmpty then ls else l :: ls })
  | [] :: _ => none
  | [] => match s.rest with
    | t :: r => some (t, { s with rest := r })
    | [] => none
def next : M (Option Tv) := fun s => match pop s with
  | none => .ok none s
  | some (t, s') => if 200000 ≤ s.steps then .bad (failAt 21 t) else .ok (some t) { s' with steps := s.steps + 1 }
def read : M Tv := fun s => match next s with
  | .ok (some t) s' => .ok t s'
  | .ok none s' => early s'
  | .bad f => .bad f
def readName : M Tv := do
  let t ← read
  if isName t then pure t else bad (failAt 11 t)
def demand (t : Tv) (x : ByteArray) : M Unit := if isSign t x then pure () else bad (failAt 11 t)
def readSign (x : ByteArray) : M Unit := do
  let t ← read
  demand t x

def meaningOf (s : St) (t : Tv) : Mean := if t.k = 1 then .word t.t else s.means t.t
def isWord (m : Mean) (x : ByteArray) : Bool := match m with
  | .word y => decide (y = x)
  | _ => false
def meansW (s : St) (t : Tv) (x : ByteArray) : Bool := isName t && isWord (meaningOf s t) x
def setMean (n : ByteArray) (m : Mean) (s : St) : St := { s with means := fun x => if x = n then m else s.means x }

def doLet : M Unit := do
  let name ← readName
  readSign (str [61])
  let other ← readName
  readSign (str [59])
  modify fun s => setMean name.t (meaningOf s other) s

/-- Parameters: names, and whether they are of text. -/
abbrev Pl := List (ByteArray × Bool)
def plIdx (pl : Pl) (x : ByteArray) : Nat := match pl.findIdx? (fun p => decide (p.1 = x)) with
  | some i => i + 1
  | none => 0
def plText (pl : Pl) (x : ByteArray) : Bool := match pl.find? (fun p => decide (p.1 = x)) with
  | some p => p.2
  | none => false
def params : Nat → Bool → Pl → Nat → M (Pl × Nat)
  | 0, _, _, _ => early
  | f + 1, text, pl, n => do
    let name ← readName
    if 0 < plIdx pl name.t then bad (failAt 14 name)
    else do
      let t ← read
      if text || !isSign t (str [44]) then do
        demand t (str [41])
        pure (pl ++ [(name.t, text)], n + 1)
      else params f text (pl ++ [(name.t, text)]) (n + 1)
def parGroup (f : Nat) (pl : Pl) : M (Pl × Par) := do
  let kind ← readName
  if kind.t = sExpr ∨ kind.t = sText then do
    let r ← params f (decide (kind.t = sText)) pl 0
    pure (r.1, ⟨decide (kind.t = sText), r.2⟩)
  else bad (failAt 11 kind)
def parGroups : Nat → Pl → List Par → M (Pl × List Par × Tv)
  | 0, _, _ => early
  | f + 1, pl, gs => do
    let t ← read
    if isSign t (str [40]) then do
      let r ← parGroup f pl
      parGroups f r.1 (gs ++ [r.2])
    else pure (pl, gs, t)
def piece (pl : Pl) (t : Tv) : Piece := if t.k = 0 then ⟨t, plIdx pl t.t, plText pl t.t⟩ else ⟨t, 0, false⟩
def body : Nat → Pl → Nat → List Piece → M (List Piece)
  | 0, _, _, _ => early
  | f + 1, pl, within, acc => do
    let t ← read
    fun s =>
      if meansW s t sEnddef then
        if within = 0 then .ok acc s else body f pl (within - 1) (acc ++ [piece pl t]) s
      else if meansW s t sDef then body f pl (within + 1) (acc ++ [piece pl t]) s
      else body f pl within (acc ++ [piece pl t]) s
def define (f : Nat) : M Unit := do
  let name ← readName
  let r ← parGroups f [] []
  demand r.2.2 (str [61])
  let b ← body f r.1 0 []
  modify (setMean name.t (.mac ⟨r.2.1, b⟩))

/-- The brackets that close those which began. -/
def bracketed (op : List ByteArray) (t : Tv) : Option (List ByteArray) :=
  if t.t = str [40] then some (str [41] :: op)
  else if t.t = str [91] then some (str [93] :: op)
  else if t.t = str [123] then some (str [125] :: op)
  else if t.t = str [41] ∨ t.t = str [93] ∨ t.t = str [125] then
    match op with
    | x :: op' => if x = t.t then some op' else none
    | [] => none
  else some op
def argument : Nat → Bool → List ByteArray → List Tv → M (List Tv × Tv)
  | 0, _, _, _ => early
  | f + 1, text, op, acc => do
    let t ← read
    if t.k = 4 then
      if (t.t = str [41] ∨ (t.t = str [44] ∧ text = false)) ∧ op = [] then pure (acc, t)
      else match bracketed op t with
        | none => bad (failAt 11 t)
        | some op' => argument f text op' (acc ++ [t])
    else argument f text op (acc ++ [t])
def args1 (f : Nat) (text : Bool) : Nat → List (List Tv) → M (List (List Tv))
  | 0, acc => pure acc
  | k + 1, acc => do
    let r ← argument f text [] []
    demand r.2 (if k = 0 then str [41] else str [44])
    args1 f text k (acc ++ [r.1])
def args (f : Nat) : List Par → List (List Tv) → M (List (List Tv))
  | [], acc => pure acc
  | g :: gs, acc => do
    readSign (str [40])
    let acc ← args1 f g.text g.count acc
    args f gs acc
def signAt (t : Tv) (x : ByteArray) : Tv := ⟨4, x, 0, 0, t.a, t.c⟩
def pieceToks (ar : List (List Tv)) (p : Piece) : List Tv :=
  if p.arg = 0 then [p.tok]
  else if p.text then ar.getD (p.arg - 1) []
  else signAt p.tok (str [40]) :: ar.getD (p.arg - 1) [] ++ [signAt p.tok (str [41])]
def listOf (m : Mac) (ar : List (List Tv)) : List Tv := m.body.flatMap (pieceToks ar)
def replace (f : Nat) (t : Tv) (m : Mac) : M Unit := do
  let ar ← args f m.groups []
  if 20000 < (listOf m ar).length then bad (failAt 3 t)
  else fun s =>
    let ls := if (listOf m ar).isEmpty then s.lists else listOf m ar :: s.lists
    if 200 < ls.length then .bad (failAt 20 t) else .ok () { s with lists := ls }

def put (t : Tv) (k : Int) (x : ByteArray) : M Unit := fun s =>
  if s.out.length = 20000 then .bad (failAt 3 t) else .ok () { s with out := s.out ++ [{ t with k := k, t := x }] }
def unsave (s : St) : St := { s with saving := false }
def addSaved (x : ByteArray) (s : St) : St := match s.groups with
  | [] => s
  | g :: gs => { s with groups := ((x, s.means x) :: g) :: gs }
def save : M Unit := do
  let t ← readName
  put t 0 t.t
  modify fun s => { setMean t.t .var (addSaved t.t s) with saving := true }
def takeOther (t : Tv) : M Unit := fun s => (do
  put t t.k t.t
  if s.saving && isSign t (str [44]) then save else pure ()) (unsave s)
def endGroup (s : St) : St := match s.groups with
  | [] => s
  | g :: gs => { g.foldl (fun s p => setMean p.1 p.2 s) s with groups := gs }
def takeWord (f : Nat) (t : Tv) (w : ByteArray) : M Unit :=
  if w = sLet then doLet
  else if w = sDef then define f
  else fun s =>
    if w = sEnddef ∨ (w = sEnd ∧ s.groups = []) then .bad (failAt 11 t)
    else (do
      if w = sBegin then modify fun s => { s with groups := [] :: s.groups }
      else if w = sEnd then modify endGroup
      else pure ()
      put t 1 w
      if w = sSave then save else pure ()) (unsave s)
def take (f : Nat) (t : Tv) : M Unit :=
  if isName t then fun s => match meaningOf s t with
    | .mac m => replace f t m s
    | .word w => takeWord f t w s
    | .var => put t 0 t.t (unsave s)
  else takeOther t
def run (fi : Nat) : Nat → M Unit
  | 0 => early
  | f + 1 => do
    match ← next with
    | none => pure ()
    | some t => do
      take fi t
      run fi f
def start (l : List Tv) : St := ⟨l, [], l.getLast?.getD ⟨0, str [], 0, 0, 0, 0⟩, 0, fun x => if x.data.toList ∈ Lx.wds then .word x else .var, [], false, []⟩
def steps : Nat := 200001
/-- All tokens read. -/
def expanded (l : List Tv) : Res Unit := match run steps steps (start l) with
  | .ok _ s => if s.groups.isEmpty then .ok () s else early s
  | .bad f => .bad f
end Mx
end Go.Proofs.YtnhcjgnohnedaaaGreatDoor
