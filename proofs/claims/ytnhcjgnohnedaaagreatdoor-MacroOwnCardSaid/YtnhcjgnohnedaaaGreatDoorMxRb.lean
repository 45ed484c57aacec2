/-
  Contracts of package macro: Expand.
  Contracts of package macro: names exchanged.
  Contracts of package macro: Rename.
-/
import Derived.Test.YtnhcjgnohnedaaaGreatDoorMxXg
import Derived.StillTailTactics
import Derived.Test.YtnhcjgnohnedaaaGreatDoorMxXe
namespace Go.Proofs.YtnhcjgnohnedaaaGreatDoor
open Go.RowKit

namespace Mx
def noFlt : Flt := ⟨0, str [], 0, 0⟩
/-- What Expand returns. -/
def expandO (l : List Tv) : List Tv := if l.all Tv.ok = true then (match expanded l with | .ok _ s => s.out | .bad _ => []) else []
def expandF (l : List Tv) : Flt := if l.all Tv.ok = true then (match expanded l with | .ok _ _ => noFlt | .bad f => f) else ⟨2, str [], 0, 0⟩
def Flt.agg (f : Flt) : Value := .agg #[.int .i64 f.code, .string f.name, .int .i64 f.line, .int .i64 f.col]
/-- What expanded returns, of any tokens: an expander whose tokens are these, whose meanings are these. -/
structure EOf (B : Nat) (l : List Tv) (c : Array Value) (w' : World) : Prop where
  ex : ∃ vr vl lk lt lp lq la lc st vm vg sv vo, c = #[vr, vl, .int .i64 lk, .string lt, .int .i64 lp, .int .i64 lq, .int .i64 la, .int .i64 lc, .int .i64 st, .map vm, vg, .bool sv, vo] ∧ (∃ A1 n1 c1, vr = .slice A1 n1 c1) ∧ (∃ A1 n1 c1, vl = .slice A1 n1 c1) ∧ (∃ A1 n1 c1, vg = .slice A1 n1 c1) ∧ TokOwn w' B vo (expandO l) ∧
    ((∃ s X n mb, l.all Tv.ok = true ∧ expanded l = .ok () s ∧ vm = some mb ∧ MapIs w' X mb n s.means ∧ n ≤ 1000000 ∧ B ≤ mb) ∨ (vm = none ∧ ¬ (l.all Tv.ok = true ∧ ∃ s, expanded l = .ok () s)))
theorem expand_ok {l : List Tv} {s : St} (h : l.all Tv.ok = true) (he : expanded l = .ok () s) : expandO l = s.out ∧ expandF l = noFlt := by
  unfold expandO expandF
  rw [if_pos h, if_pos h, he]
  exact ⟨rfl, rfl⟩
theorem expand_bad {l : List Tv} {f : Flt} (h : l.all Tv.ok = true) (he : expanded l = .bad f) : expandO l = [] ∧ expandF l = f := by
  unfold expandO expandF
  rw [if_pos h, if_pos h, he]
  exact ⟨rfl, rfl⟩
theorem expand_arg {l : List Tv} (h : l.all Tv.ok = false) : expandO l = [] ∧ expandF l = ⟨2, str [], 0, 0⟩ := by
  unfold expandO expandF
  rw [h]
  exact ⟨rfl, rfl⟩
theorem zero_of (B : Nat) (l : List Tv) (w' : World) (h : expandO l = []) (hn : ¬ (l.all Tv.ok = true ∧ ∃ s, expanded l = .ok () s)) : EOf B l zeroE w' := by
  refine ⟨_, _, _, _, _, _, _, _, _, _, _, _, _, rfl, ⟨_, _, _, rfl⟩, ⟨_, _, _, rfl⟩, ⟨_, _, _, rfl⟩, ?_, Or.inr ⟨rfl, hn⟩⟩
  rw [h]; exact World.ownsRow_nil _ _ _ _
end Mx
theorem expanded_all (A : Option Addr) (c : Nat) (l : List Tv) (w : World) (he : EnvL w) (h1 : TokSl w w.heap.size A l) (hc : l.length ≤ c) (hl : l.length ≤ 9223372036854775807) (hf : ∀ x ∈ l, x.fit) :
    Calls Tryz.prog 23 #[.slice A l.length c] w fun e w' => ∃ cE, e = .returned (.tuple #[.agg cE, (Mx.expandF l).agg]) ∧ Mx.EOf w.heap.size l cE w' ∧ Below w.heap.size w w' := by
  cases hok : l.all Tv.ok with
  | false =>
    obtain ⟨e1, e2⟩ := Mx.expand_arg hok
    refine (expanded_arg A c l w he h1 hl hf hok).mono ?_
    rintro e w' ⟨rfl, hb⟩
    refine ⟨zeroE, by rw [e2]; rfl, Mx.zero_of _ _ _ e1 (fun h => ?_), hb⟩
    rw [hok] at h; cases h.1
  | true =>
    refine (expanded_any A c l w he h1 hc hl hf hok).mono ?_
    rintro e w' ⟨hb, h⟩
    cases hx : Mx.expanded l with
    | bad f =>
      rw [hx] at h
      obtain rfl := h
      obtain ⟨e1, e2⟩ := Mx.expand_bad hok hx
      refine ⟨zeroE, by rw [e2]; rfl, Mx.zero_of _ _ _ e1 (fun h => ?_), hb⟩
      obtain ⟨-, s, hs⟩ := h
      rw [hx] at hs; cases hs
    | ok u s =>
      rw [hx] at h
      obtain ⟨y, n, X, rfl, hout, hmap, hn, hmb, hr, hl', hg⟩ := h
      obtain ⟨e1, e2⟩ := Mx.expand_ok hok hx
      refine ⟨Mx.cellsE y s, by rw [e2]; rfl, ⟨_, _, _, _, _, _, _, _, _, _, _, _, _, rfl, hr, hl', hg, by rw [e1]; exact hout, Or.inl ⟨s, X, n, y.mb, hok, hx, rfl, hmap, hn, hmb⟩⟩, hb⟩
end Go.Proofs.YtnhcjgnohnedaaaGreatDoor

namespace Go.Proofs.YtnhcjgnohnedaaaGreatDoor
open Go.RowKit

namespace Mx
/-- A token with two names exchanged. -/
def rn (a b : ByteArray) (t : Tv) : Tv := if t.k = 0 then (if t.t = a then { t with t := b } else if t.t = b then { t with t := a } else t) else t
def nameTok (a : ByteArray) : Tv := ⟨0, a, 0, 0, 0, 0⟩
/-- What Rename returns. -/
def renOk (l : List Tv) (a b : ByteArray) : Bool := l.all Tv.ok && ((nameTok a).ok && (nameTok b).ok)
end Mx

theorem nil_eq (w : World) : (binOp BinOp.eql 22 (.slice none 0 0) (.slice none 0 0)).run Tryz.prog w = .ok (.bool true) w := by kernel_rfl
theorem some_eq (ad : Addr) (n c : Nat) (w : World) : (binOp BinOp.eql 22 (.slice (some ad) n c) (.slice none 0 0)).run Tryz.prog w = .ok (.bool false) w := by kernel_rfl
theorem TokOwn.below {w w' : World} {B : Nat} {v : Value} {l : List Tv} (h : TokOwn w B v l) (hb : Below w.heap.size w w') : TokOwn w' B v l := Mx.row_keep h (fun k hk => hb.block k (World.ownsRow.lt h k hk).2)
set_option maxRecDepth 100000 in
set_option maxHeartbeats 4000000 in
theorem clone_any (A : Option Addr) (c : Nat) (l : List Tv) (w : World) (h1 : TokSl w w.heap.size A l) (hA : A = none → c = 0 ∧ l = []) (hl : l.length ≤ 1000000) :
    Calls Tryz.prog 28 #[.slice A l.length c] w fun e w' => ∃ v, e = .returned v ∧ TokOwn w' w.heap.size v l ∧ Below w.heap.size w w' := by
  cases A with
  | none =>
    obtain ⟨rfl, rfl⟩ := hA rfl
    simp only [List.length_nil]
    clear h1 hl hA
    have q1 := nil_eq
    have q2 := some_eq
    go_enter Tryz.func28, Tryz.ntmps28
    go_wp2_with fail
    go_ret
    exact ⟨_, rfl, World.ownsRow_nil _ _ _ _, Below.refl _ _⟩
  | some ad =>
    have H1 := Lib.hid h1
    have hown : Hid (TokOwn (w.alloc (.cells #[] 41)) w.heap.size (.slice (some ⟨w.heap.size, 0, none⟩) 0 0) []) := Lib.hid ⟨rfl, .inr ⟨w.heap.size, 0, #[], rfl, Nat.le_refl _, heap_alloc_new w _, Nat.le_refl _, by unfold maxLen; omega, rfl, rfl⟩⟩
    obtain ⟨n, hn⟩ : ∃ n, n = l.length := ⟨_, rfl⟩
    rw [← hn] at hl ⊢
    have HN := Lib.hid hn
    clear h1 hn hA
    have q1 := nil_eq
    have q2 := some_eq
    go_enter Tryz.func28, Tryz.ntmps28
    go_wp2_with (at_builtin; refine wpList_append_toks rfl _ _ rfl w.heap.size (.slice (some ⟨w.heap.size, 0, none⟩) 0 0) [] l rfl hown.out w.heap.size c (some ad) (by rw [← HN.out]; rfl) (fun e => by cases e) (H1.out.below ((Below.refl _ _).alloc (Nat.le_refl _) _)) (by simp; have := HN.out; omega) (by simp) ?_; intro v1 w1 own1 gr1)
    go_ret
    refine ⟨_, rfl, own1, ?_⟩
    exact ⟨gr1.os, gr1.tape, gr1.output, by have := gr1.size; simp at this; omega, fun k hk => (gr1.block k (by simp; omega) (fun e => by simp [Value.ownBlock] at e; omega)).trans (Below.heap_alloc w _ k hk)⟩
end Go.Proofs.YtnhcjgnohnedaaaGreatDoor

namespace Go.Proofs.YtnhcjgnohnedaaaGreatDoor
open Go.RowKit

theorem name_fit {a : ByteArray} (h : a.size ≤ maxLen) : (Mx.nameTok a).fit := ⟨by show (-9223372036854775808 : Int) ≤ 0; omega, by show (0 : Int) ≤ 9223372036854775807; omega, by show (-9223372036854775808 : Int) ≤ 0; omega, by show (0 : Int) ≤ 9223372036854775807; omega, h⟩
theorem toksl_two {w : World} {g : Nat} {a b : ByteArray} {fr : Nat × Nat} (h : w.heap[g]? = some (.cells #[.int .i64 0, .string a, .int .i64 0, .int .i64 0, .int .i64 0, .int .i64 0, .int .i64 0, .string b, .int .i64 0, .int .i64 0, .int .i64 0, .int .i64 0] 41 fr)) : TokSl w w.heap.size (some ⟨g, 0, none⟩) [Mx.nameTok a, Mx.nameTok b] := fun _ => by
  refine ⟨⟨g, 0, none⟩, rfl, (Array.getElem?_eq_some_iff.1 h).1, fun j y hy => ?_⟩
  have hc : ∀ o, w.cell? ⟨g, o, none⟩ = (#[.int .i64 0, .string a, .int .i64 0, .int .i64 0, .int .i64 0, .int .i64 0, .int .i64 0, .string b, .int .i64 0, .int .i64 0, .int .i64 0, .int .i64 0] : Array Value)[o]? := fun o => cell_of_row _ _ o _ _ _ h
  rw [addr_row]
  match j, hy with
  | 0, hy => injection hy with hy; subst hy; exact ⟨hc 0, hc 1, hc 2, hc 3, hc 4, hc 5⟩
  | 1, hy => injection hy with hy; subst hy; exact ⟨hc 6, hc 7, hc 8, hc 9, hc 10, hc 11⟩
set_option maxRecDepth 100000 in
set_option maxHeartbeats 4000000 in
theorem rename_bad (A : Option Addr) (c : Nat) (l : List Tv) (a b : ByteArray) (w : World) (he : EnvL w) (h1 : TokSl w w.heap.size A l) (hl : l.length ≤ 1000000) (hf : ∀ x ∈ l, x.fit) (ha : a.size ≤ maxLen) (hb : b.size ≤ maxLen) (hbad : Mx.renOk l a b = false) :
    Calls Tryz.prog 16 #[.slice A l.length c, .string a, .string b] w fun e w' => e = .returned (.tuple #[.slice none 0 0, .int .i64 2]) ∧ Below w.heap.size w w' := by
  have HV := Lib.hid (fun W (hW : EnvL W) (h : TokSl W W.heap.size A l) => cvalid_any A c l W hW h (by omega) hf)
  have H1 := Lib.hid h1
  have HE := Lib.hid he
  have hfit : ∀ x ∈ [Mx.nameTok a, Mx.nameTok b], x.fit := fun x hx => by
    rcases List.mem_cons.1 hx with rfl | hx
    · exact name_fit ha
    · rw [List.mem_singleton] at hx; subst hx; exact name_fit hb
  have HV2 := Lib.hid (fun (A2 : Option Addr) (c2 : Nat) W (hW : EnvL W) (h : TokSl W W.heap.size A2 [Mx.nameTok a, Mx.nameTok b]) => cvalid_any A2 c2 [Mx.nameTok a, Mx.nameTok b] W hW h (by simp) hfit)
  unfold Mx.renOk at hbad
  generalize l.length = n at *
  cases hv : l.all Tv.ok with
  | false =>
    rw [hv] at HV
    clear he h1 hf hfit hbad hv
    go_enter Tryz.func16, Tryz.ntmps16
    go_wp2_with fail
    refine (HV.out _ HE.out H1.out).mono ?_; rintro e w1 ⟨rfl, hb1⟩
    have B1 := Lib.hid hb1
    clear hb1
    go_wp2_with fail
    go_ret2
    exact ⟨rfl, B1.out⟩
  | true =>
    rw [hv] at HV
    have hnames : ([Mx.nameTok a, Mx.nameTok b].all Tv.ok) = false := by rw [hv] at hbad; simpa using hbad
    rw [hnames] at HV2
    simp only [List.length_cons, List.length_nil, Nat.reduceAdd] at HV2
    clear he h1 hf hfit hbad hv hnames
    go_enter Tryz.func16, Tryz.ntmps16
    go_wp2_with fail
    refine (HV.out _ HE.out H1.out).mono ?_; rintro e w1 ⟨rfl, hb1⟩
    have B1 := Lib.hid hb1
    clear hb1
    go_wp2_with fail
    refine (HV2.out _ _ _ (HE.out.below (B1.out.trans ((Below.refl _ _).alloc B1.out.size _))) (toksl_two (heap_alloc_new w1 (.cells #[.int .i64 0, .string a, .int .i64 0, .int .i64 0, .int .i64 0, .int .i64 0, .int .i64 0, .string b, .int .i64 0, .int .i64 0, .int .i64 0, .int .i64 0] 41)))).mono ?_; rintro e w2 ⟨rfl, hb2⟩
    have B2 := Lib.hid ((B1.out.alloc B1.out.size (.cells #[.int .i64 0, .string a, .int .i64 0, .int .i64 0, .int .i64 0, .int .i64 0, .int .i64 0, .string b, .int .i64 0, .int .i64 0, .int .i64 0, .int .i64 0] 41)).trans (hb2.mono (by have := B1.out.size; simp; omega)))
    clear hb2
    go_wp2_with fail
    go_ret2
    exact ⟨rfl, B2.out⟩
namespace Mx
/-- The first i tokens have been gone through. -/
def RnIn (w : World) (v : Value) (l : List Tv) (a b : ByteArray) (i : Nat) (wr : World) : Prop := TokOwn wr w.heap.size v ((l.take i).map (rn a b) ++ l.drop i) ∧ Below w.heap.size w wr
theorem rnIn_len (l : List Tv) (a b : ByteArray) (i : Nat) : ((l.take i).map (rn a b) ++ l.drop i).length = l.length := by
  rw [List.length_append, List.length_map, ← List.length_append, List.take_append_drop]
theorem rnIn_get {l : List Tv} {a b : ByteArray} {i : Nat} {x : Tv} (hx : l[i]? = some x) : ((l.take i).map (rn a b) ++ l.drop i)[i]? = some x := by
  have hi := (List.getElem?_eq_some_iff.1 hx).1
  rw [List.getElem?_append_right (by simp; omega)]
  simp [Nat.min_eq_left (Nat.le_of_lt hi), hx]
theorem rnIn_next {l : List Tv} {a b : ByteArray} {i : Nat} {x : Tv} (hx : l[i]? = some x) : (l.take (i + 1)).map (rn a b) ++ l.drop (i + 1) = ((l.take i).map (rn a b) ++ l.drop i).set i (rn a b x) := by
  obtain ⟨hi, he⟩ := List.getElem?_eq_some_iff.1 hx
  rw [List.set_append_right _ _ (by simp; omega)]
  have h1 : i - ((l.take i).map (rn a b)).length = 0 := by simp; omega
  rw [h1, List.drop_eq_getElem_cons hi, he, List.set_cons_zero, List.take_succ_eq_append_getElem hi, he, List.map_append]
  simp
theorem rowV_set : ∀ (l : List Tv) (i : Nat) (x : Tv) (z : ByteArray), l[i]? = some x → rowV (l.set i { x with t := z }) = (rowV l).set (i * 6 + 1) (.string z)
  | [], i, x, z, h => by simp at h
  | y :: l, 0, x, z, h => by
    injection h with h
    subst h
    simp [rowV, Tv.cells]
  | y :: l, i + 1, x, z, h => by
    have ih := rowV_set l i x z (by simpa using h)
    rw [List.set_cons_succ]
    show rowV (y :: l.set i { x with t := z }) = (rowV (y :: l)).set ((i + 1) * 6 + 1) (.string z)
    have e : ∀ m : List Tv, rowV (y :: m) = y.cells ++ rowV m := fun m => by simp [rowV]
    rw [e, e, ih, List.set_append_right _ _ (by simp [Tv.cells]; omega)]
    congr 2
    simp [Tv.cells]; omega
theorem set_same : ∀ (l : List Tv) (i : Nat) (x : Tv), l[i]? = some x → l.set i x = l
  | [], i, x, h => by simp at h
  | y :: l, 0, x, h => by injection h with h; subst h; rfl
  | y :: l, i + 1, x, h => by rw [List.set_cons_succ, set_same l i x (by simpa using h)]
theorem RnIn.keep {w wr W : World} {v : Value} {l : List Tv} {a b : ByteArray} {i : Nat} {x : Tv} (h : RnIn w v l a b i wr) (hx : l[i]? = some x) (hr : rn a b x = x) (hb : Below wr.heap.size wr W) : RnIn w v l a b (i + 1) W := by
  refine ⟨?_, h.2.trans (hb.mono h.2.size)⟩
  rw [rnIn_next hx, hr, set_same _ _ _ (rnIn_get hx)]
  exact h.1.below hb
theorem RnIn.put {w wr W : World} {g n cap : Nat} {l : List Tv} {a b : ByteArray} {i : Nat} {x : Tv} {z : ByteArray} (hn : n = l.length) (h : RnIn w (.slice (some ⟨g, 0, none⟩) n cap) l a b i wr) (hx : l[i]? = some x) (hr : rn a b x = { x with t := z }) (hb : Below wr.heap.size (wr.setCell ⟨g, i * 6 + 1, none⟩ (.string z)) W) (hg : w.heap.size ≤ g) : RnIn w (.slice (some ⟨g, 0, none⟩) n cap) l a b (i + 1) W := by
  have hs : (wr.setCell ⟨g, i * 6 + 1, none⟩ (.string z)).heap.size = wr.heap.size := by simp [World.setCell]
  have hi := (List.getElem?_eq_some_iff.1 hx).1
  refine ⟨?_, (h.2.setCell (p := ⟨g, i * 6 + 1, none⟩) hg _).trans (hb.mono (by rw [← hs]; exact (h.2.setCell (p := ⟨g, i * 6 + 1, none⟩) hg _).size))⟩
  rw [rnIn_next hx, hr]
  refine TokOwn.below (w := wr.setCell ⟨g, i * 6 + 1, none⟩ (.string z)) ?_ (by rw [hs]; exact hb)
  have h1 := h.1
  unfold TokOwn at h1 ⊢
  rw [rnIn_len] at h1
  rw [List.length_set, rnIn_len, rowV_set _ _ _ _ (rnIn_get hx)]
  rw [← hn] at h1 ⊢
  exact (h1.stored (i * 6 + 1) (.string z)).1
end Mx
set_option maxRecDepth 100000 in
set_option maxHeartbeats 8000000 in
theorem rename_ok (A : Option Addr) (c : Nat) (l : List Tv) (a b : ByteArray) (w : World) (he : EnvL w) (h1 : TokSl w w.heap.size A l) (hA : A = none → c = 0 ∧ l = []) (hl : l.length ≤ 1000000) (hf : ∀ x ∈ l, x.fit) (ha : a.size ≤ maxLen) (hb : b.size ≤ maxLen) (hok : Mx.renOk l a b = true) :
    Calls Tryz.prog 16 #[.slice A l.length c, .string a, .string b] w fun e w' => ∃ v, e = .returned (.tuple #[v, .int .i64 0]) ∧ TokOwn w' w.heap.size v (l.map (Mx.rn a b)) ∧ Below w.heap.size w w' := by
  have HV := Lib.hid (fun W (hW : EnvL W) (h : TokSl W W.heap.size A l) => cvalid_any A c l W hW h (by omega) hf)
  have H1 := Lib.hid h1
  have HE := Lib.hid he
  have hfit : ∀ x ∈ [Mx.nameTok a, Mx.nameTok b], x.fit := fun x hx => by
    rcases List.mem_cons.1 hx with rfl | hx
    · exact name_fit ha
    · rw [List.mem_singleton] at hx; subst hx; exact name_fit hb
  have HV2 := Lib.hid (fun (A2 : Option Addr) (c2 : Nat) W (hW : EnvL W) (h : TokSl W W.heap.size A2 [Mx.nameTok a, Mx.nameTok b]) => cvalid_any A2 c2 [Mx.nameTok a, Mx.nameTok b] W hW h (by simp) hfit)
  have HC := Lib.hid (fun W (h : TokSl W W.heap.size A l) => clone_any A c l W h hA hl)
  unfold Mx.renOk at hok
  simp only [Bool.and_eq_true] at hok
  rw [hok.1] at HV
  have hnames : ([Mx.nameTok a, Mx.nameTok b].all Tv.ok) = true := by simp [hok.2]
  rw [hnames] at HV2
  simp only [List.length_cons, List.length_nil, Nat.reduceAdd] at HV2
  obtain ⟨n, hn⟩ : ∃ n, n = l.length := ⟨_, rfl⟩
  rw [← hn] at HV HC hl ⊢
  have HN := Lib.hid hn
  clear he h1 hf hfit hok hnames hn hA
  go_enter Tryz.func16, Tryz.ntmps16
  go_wp2_with fail
  refine (HV.out _ HE.out H1.out).mono ?_; rintro e w1 ⟨rfl, hb1⟩
  have B1 := Lib.hid hb1
  clear hb1
  go_wp2_with fail
  refine (HV2.out _ _ _ (HE.out.below (B1.out.trans ((Below.refl _ _).alloc B1.out.size _))) (toksl_two (heap_alloc_new w1 (.cells #[.int .i64 0, .string a, .int .i64 0, .int .i64 0, .int .i64 0, .int .i64 0, .int .i64 0, .string b, .int .i64 0, .int .i64 0, .int .i64 0, .int .i64 0] 41)))).mono ?_; rintro e w2 ⟨rfl, hb2⟩
  have B2 := Lib.hid ((B1.out.alloc B1.out.size (.cells #[.int .i64 0, .string a, .int .i64 0, .int .i64 0, .int .i64 0, .int .i64 0, .int .i64 0, .string b, .int .i64 0, .int .i64 0, .int .i64 0, .int .i64 0] 41)).trans (hb2.mono (by have := B1.out.size; simp; omega)))
  clear hb2
  go_wp2_with fail
  refine (HC.out _ ((H1.out.below B2.out).more B2.out.size)).mono ?_; rintro e w3 ⟨v, rfl, hv, hb3⟩
  have I3 : Hid (Mx.RnIn w v l a b 0 w3) := Lib.hid ⟨by
    simp only [List.take_zero, List.map_nil, List.nil_append, List.drop_zero]
    exact ⟨hv.1, hv.2.imp id (fun ⟨g, cap, cur, e, h1, h2⟩ => ⟨g, cap, cur, e, Nat.le_trans B2.out.size h1, h2⟩)⟩, B2.out.trans (hb3.mono B2.out.size)⟩
  obtain ⟨A3, c3, hv3, -⟩ := hv.sl
  rw [← HN.out] at hv3
  subst hv3
  clear hv hb3 B1 B2
  go_wp2_with fail
  go_loopw [27] (fun vi wr => ∃ i : Nat, vi = .int .i64 i ∧ i ≤ n ∧ Hid (Mx.RnIn w (.slice A3 n c3) l a b i wr)) (fun vi _ => n - (intOf vi).toNat)
  case atStart => exact ⟨0, rfl, by omega, I3⟩
  case round =>
    obtain ⟨i, rfl, hi, hr⟩ := hrel
    by_cases hlt : i < n
    · have hx : l[i]? = some (l[i]'(by have := HN.out; omega)) := List.getElem?_eq_getElem _
      generalize l[i]'(by have := HN.out; omega) = x at hx
      obtain ⟨g, rfl, hgB⟩ : ∃ g, A3 = some ⟨g, 0, none⟩ ∧ w.heap.size ≤ g := by
        rcases hr.out.1.2 with ⟨e, h0⟩ | ⟨g, cap, cur, e, hg, -⟩
        · rw [Mx.rnIn_len] at h0; have := HN.out; omega
        · injection e with e1; exact ⟨g, e1, hg⟩
      have hcell : ∀ r u, r < 6 → x.cells[r]? = some u → wr.cell? ⟨g, i * 6 + r, none⟩ = some u := fun r u hr6 hu => by
        have h1 := hr.out.1
        unfold TokOwn at h1
        rw [Mx.rnIn_len, ← HN.out] at h1
        rw [World.ownsRow.cellAt h1 (i * 6 + r) (by omega), rowV_get _ i x (Mx.rnIn_get hx) r hr6, hu]
      have x0 := hcell 0 _ (by omega) rfl
      rw [Nat.add_zero] at x0
      have x1 := hcell 1 _ (by omega) rfl
      have x2 := hcell 2 _ (by omega) rfl
      have x3 := hcell 3 _ (by omega) rfl
      have x4 := hcell 4 _ (by omega) rfl
      have x5 := hcell 5 _ (by omega) rfl
      have f1 : wr.frozen? ⟨g, i * 6 + 1, none⟩ = false := by
        obtain ⟨cur, hc⟩ := Mx.row_ty hr.out.1 (k := g) rfl
        simp [World.frozen?, hc]
      have hgl : g < wr.heap.size := by
        obtain ⟨cur, hc⟩ := Mx.row_ty hr.out.1 (k := g) rfl
        exact (Array.getElem?_eq_some_iff.1 hc).1
      have HX := Lib.hid hx
      have hk0 : (0 : Int) ≤ (i : Int) := by omega
      have hk1 : (i : Int) < (n : Int) := by omega
      clear hx hcell
      by_cases k0 : x.k = 0
      · have e0 : (x.k == 0) = true := by simpa using k0
        by_cases ta : x.t = a
        · have e1 : (x.t.toList == a.toList) = true := by rw [ta]; simp
          have HR : Hid (Mx.rn a b x = { x with t := b }) := Lib.hid (by rw [Mx.rn, if_pos k0, if_pos ta])
          clear k0 ta
          go_wp2_with fail
          go_roundw
          case rel => exact ⟨i + 1, by go_num, by omega, Lib.hid (hr.out.put HN.out HX.out HR.out ((Below.refl _ _).alloc (by simp [World.setCell]) _) hgB)⟩
          case measure => simp [intOf]; omega
        · have e1 : (x.t.toList == a.toList) = false := by
            rw [Bool.eq_false_iff]; intro h; exact ta (by rw [ba_list x.t, ba_list a]; have := eq_of_beq h; rw [Lib.toList_data, Lib.toList_data] at this; rw [this])
          by_cases tb : x.t = b
          · have e2 : (x.t.toList == b.toList) = true := by rw [tb]; simp
            have HR : Hid (Mx.rn a b x = { x with t := a }) := Lib.hid (by rw [Mx.rn, if_pos k0, if_neg ta, if_pos tb])
            clear k0 ta tb
            go_wp2_with fail
            go_roundw
            case rel => exact ⟨i + 1, by go_num, by omega, Lib.hid (hr.out.put HN.out HX.out HR.out ((Below.refl _ _).alloc (by simp [World.setCell]) _) hgB)⟩
            case measure => simp [intOf]; omega
          · have e2 : (x.t.toList == b.toList) = false := by
              rw [Bool.eq_false_iff]; intro h; exact tb (by rw [ba_list x.t, ba_list b]; have := eq_of_beq h; rw [Lib.toList_data, Lib.toList_data] at this; rw [this])
            have HR : Hid (Mx.rn a b x = x) := Lib.hid (by rw [Mx.rn, if_pos k0, if_neg ta, if_neg tb])
            clear k0 ta tb
            go_wp2_with fail
            go_roundw
            case rel => exact ⟨i + 1, by go_num, by omega, Lib.hid (hr.out.keep HX.out HR.out ((Below.refl _ _).alloc (Nat.le_refl _) _))⟩
            case measure => simp [intOf]; omega
      · have e0 : (x.k == 0) = false := by simpa using k0
        have HR : Hid (Mx.rn a b x = x) := Lib.hid (by rw [Mx.rn, if_neg k0])
        clear k0
        go_wp2_with fail
        go_roundw
        case rel => exact ⟨i + 1, by go_num, by omega, Lib.hid (hr.out.keep HX.out HR.out ((Below.refl _ _).alloc (Nat.le_refl _) _))⟩
        case measure => simp [intOf]; omega
    · have hin : i = n := by omega
      subst hin
      go_wp2_with fail
      go_ret2
      refine ⟨_, rfl, ?_, hr.out.2⟩
      have := hr.out.1
      rw [List.take_of_length_le (by have := HN.out; omega), List.drop_eq_nil_of_le (by have := HN.out; omega), List.append_nil] at this
      exact this
end Go.Proofs.YtnhcjgnohnedaaaGreatDoor
