/-
  Package macro: what is true between two names of a group that is being undone.
  A region that draws its order inside a fence: operations that leave the world alone, in any order, and behind all of them a row of operations that wait for one another: walked once.
  Contracts of package macro: a group ends.
  Contracts of package macro: a sign that stands where a token does.
-/
import Derived.Test.YtnhcjgnohnedaaaGreatDoorMxEb
import Derived.RangeFuncNested
import Derived.StillTail
import Derived.OrdersIn
import Derived.TacticsIn
import Derived.Laws.Sem
import Derived.StillTactics
import Derived.KernelRfl
import Derived.RangeFuncBound
import Derived.RangeFuncCalls
import Derived.RangeFuncLeaves
import Derived.Shelf.Abstract
import Derived.Shelf.RegionOpen
import Derived.WalkKit
import Derived.OwnWalkIn
import Derived.TacticsInMore
import Derived.LoopNIn
import Derived.LoopIn
import Derived.Maps.OwnIn
namespace Go.Proofs.YtnhcjgnohnedaaaGreatDoor
open Go.RowKit

namespace Mx
/-- A name with its meaning, as it was kept: the meaning's value is that meaning in w. -/
structure Item (w : World) (X : Nat → Prop) where
  kp : Kept
  mn : Mean
  small : kp.1.size ≤ maxLen
  is : IsMean w X (.iface kp.2.1 kp.2.2) mn
def undone {w : World} {X : Nat → Prop} (s : St) (pre : List (Nat × Item w X)) : St := pre.foldl (fun s x => setMean x.2.kp.1 x.2.mn s) s
theorem undone_snoc {w : World} {X : Nat → Prop} (s : St) (pre : List (Nat × Item w X)) (x : Nat × Item w X) : undone s (pre ++ [x]) = setMean x.2.kp.1 x.2.mn (undone s pre) := by simp [undone]
theorem undone_means {w : World} {X : Nat → Prop} (s : St) (pre : List (Nat × Item w X)) : ∃ f, undone s pre = { s with means := f } := by
  unfold undone
  induction pre generalizing s with
  | nil => exact ⟨s.means, rfl⟩
  | cons x pre ih =>
    rw [List.foldl_cons]
    obtain ⟨f, hf⟩ := ih (setMean x.2.kp.1 x.2.mn s)
    exact ⟨f, by rw [hf]; rfl⟩
/-- The items of a row. -/
theorem Saved.items {w : World} {X : Nat → Prop} : ∀ {cs : List Value} {ps : List (ByteArray × Mean)}, Saved w X cs ps → ∃ it : List (Item w X), it.length = ps.length ∧ it.map (fun x => (x.kp.1, x.mn)) = ps ∧ ∀ j x, it[j]? = some x → cs[j * 2]? = some (.string x.kp.1) ∧ cs[j * 2 + 1]? = some (.iface x.kp.2.1 x.kp.2.2)
  | [], [], _ => ⟨[], rfl, rfl, fun j x h => by simp at h⟩
  | a :: v :: cs, p :: ps, ⟨⟨e, hz, h⟩, hr⟩ => by
    obtain ⟨it, h1, h2, h3⟩ := hr.items
    obtain ⟨T, q, rfl⟩ := mean_iface h
    refine ⟨⟨(p.1, T, q), p.2, hz, h⟩ :: it, by simp [h1], by rw [List.map_cons, h2], fun j x hj => ?_⟩
    cases j with
    | zero =>
      injection hj with hj
      subst hj
      exact ⟨by rw [e]; rfl, rfl⟩
    | succ j =>
      obtain ⟨k1, k2⟩ := h3 j x hj
      rw [show (j + 1) * 2 = j * 2 + 1 + 1 by omega]
      exact ⟨k1, k2⟩
  | [], _ :: _, h => h.elim
  | [_], [], h => h.elim
  | [_], _ :: _, h => h.elim
  | _ :: _ :: _, [], h => h.elim
/-- The callers' blocks, and all that are new since n. -/
def pw (P : Nat → Prop) (n : Nat) (W : World) (k : Nat) : Prop := P k ∨ (n ≤ k ∧ k < W.heap.size)
theorem Undoes.grown {W W' : World} {B b q n : Nat} {M P : Nat → Prop} {y : Lay} {s : St} (h : Undoes W B b q M (pw P n W) y s) {row : Option Nat} (hg : W.grownBy W' row) (hr : ∀ r, row = some r → n ≤ r ∧ r < W.heap.size) (hB : B ≤ n) (hne : NotExp W row) : Undoes W' B b q M (pw P n W') y s :=
  h.keep ((Turns.of_grown hg hne).mono (fun k hk => Or.inr (hr k hk))) (fun k hk => by
    rcases hk with hk | hk
    · exact Or.inl (Or.inl hk)
    · by_cases hlt : k < W.heap.size
      · exact Or.inl (Or.inr ⟨hk.1, hlt⟩)
      · exact Or.inr (by omega)) (fun k hk => by
    have hs := hg.size
    rcases hk with hk | hk
    · have h1 := h.lowP k (Or.inl hk); exact ⟨h1.1, by omega⟩
    · exact ⟨by omega, hk.2⟩)
structure Half (w : World) (B b q : Nat) (M P : Nat → Prop) (y : Lay) (s : St) {X : Nat → Prop} (pre : List (Nat × Item w X)) (W : World) : Prop where
  un : Undoes W B b (q + pre.length) M (pw P w.heap.size W) y (undone s pre)
  tu : Turns M w W
  sz : w.heap.size + 2 ≤ W.heap.size
  bx : W.heap[w.heap.size]? = some (.cells #[.pointer (some ⟨b, 0, none⟩)] 89 (0, 0))
theorem Half.grown {w W W' : World} {B b q : Nat} {M P : Nat → Prop} {y : Lay} {s : St} {X : Nat → Prop} {pre : List (Nat × Item w X)} (h : Half w B b q M P y s pre W) (hB : B ≤ w.heap.size) {row : Option Nat} (hg : W.grownBy W' row) (hr : ∀ r, row = some r → w.heap.size + 2 ≤ r ∧ r < W.heap.size) (hne : NotExp W row) : Half w B b q M P y s pre W' :=
  ⟨h.un.grown hg (fun r e => ⟨by have := (hr r e).1; omega, (hr r e).2⟩) hB hne, h.tu.trans (M' := fun k => M k ∨ row = some k) (fun k hk => by
      rcases hk with hk | hk
      · exact Or.inl hk
      · have := (hr k hk).1; exact Or.inr (by omega)) ((Turns.of_grown hg hne).mono (fun k hk => Or.inr hk)), Nat.le_trans h.sz hg.size,
    (hg.block w.heap.size (by have := h.sz; omega) (fun e => by have := (hr _ e.symm).1; omega)).trans h.bx⟩
theorem Half.own {w : World} {B b q : Nat} {M P : Nat → Prop} {y : Lay} {s : St} {X : Nat → Prop} (hB : B ≤ w.heap.size) : OwnFrom (w.heap.size + 2) (fun (pre : List (Nat × Item w X)) W => Half w B b q M P y s pre W) := fun pre W W' row h hg hr =>
  h.grown hB hg (fun r e => by obtain ⟨h1, o, ho, -⟩ := hr r e; exact ⟨h1, (Array.getElem?_eq_some_iff.1 ho).1⟩) (fun k c e hc => by
    obtain ⟨-, o, ho, hi⟩ := hr k e
    rw [ho] at hc
    injection hc with hc
    rw [hc] at hi
    cases hi)
end Mx
end Go.Proofs.YtnhcjgnohnedaaaGreatDoor

namespace Go.Proofs.YtnhcjgnohnedaaaGreatDoor
open Go

section
variable {P : Program} {ops : Array Oper} {md : Region.Mode} {w : World} {F : Fence} {nF : Nat}

theorem bind_noEnter {α : Type} (s : Sem α) (g : α → Next) (hg : ∀ a f args, g a ≠ .enter f args) (w : World) (f : FuncId) (args : Array Value) (w' : World) : (s >>= fun x => pure (g x)).run P w ≠ .ok (.enter f args) w' := by
  intro h
  rw [Sem.run_bind] at h
  cases hr : s.run P w with
  | ok v w1 => rw [hr] at h; simp [Result.andThen] at h; exact hg v f args h.1
  | halt x w1 => rw [hr] at h; simp [Result.andThen] at h
theorem bind_noEnter' {α : Type} (s : Sem α) (g : α → Sem Next) (hg : ∀ a w f args w', (g a).run P w ≠ .ok (.enter f args) w') (w : World) (f : FuncId) (args : Array Value) (w' : World) : (s >>= g).run P w ≠ .ok (.enter f args) w' := by
  intro h
  rw [Sem.run_bind] at h
  cases hr : s.run P w with
  | ok v w1 => rw [hr] at h; simp [Result.andThen] at h; exact hg v w1 f args w' h
  | halt x w1 => rw [hr] at h; simp [Result.andThen] at h
/-- An operation that neither calls nor defers, of the kinds that such regions have here. -/
def lone (o : Oper) : Bool := match o.op with
  | .move _ | .assign _ | .load _ _ | .store _ _ _ | .fieldAddr _ _ _ | .slice _ _ _ _ _ | .indexAddr _ _ _ | .mapUpdate _ _ _ _ | .nilCheck _ => true
  | _ => false
theorem lone_noEnter {o : Oper} (h : lone o = true) (ρ : Operand → Value) (w : World) (f : FuncId) (args : Array Value) (w' : World) : (execOp ρ o).run P w ≠ .ok (.enter f args) w' := by
  unfold lone at h
  unfold execOp
  split at h
  · rename_i ho; rw [ho]; simp
  · rename_i ho; rw [ho]; simp
  · rename_i ho; rw [ho]; exact bind_noEnter _ _ (fun a f args h => by cases h) _ _ _ _
  · rename_i ho; rw [ho]; exact bind_noEnter _ _ (fun a f args h => by cases h) _ _ _ _
  · rename_i ho; rw [ho]; exact bind_noEnter _ _ (fun a f args h => by cases h) _ _ _ _
  · rename_i ho; rw [ho]; exact bind_noEnter _ _ (fun a f args h => by cases h) _ _ _ _
  · rename_i ho; rw [ho]; exact bind_noEnter _ _ (fun a f args h => by cases h) _ _ _ _
  · rename_i ho; rw [ho]; exact bind_noEnter _ _ (fun a f args h => by cases h) _ _ _ _
  · rename_i x ho
    rw [ho]
    simp only
    split
    · intro h; simp [runtimePanic, go_sem] at h
    · intro h; simp [runtimePanic, go_sem] at h
    · intro h; simp [runtimePanic, go_sem] at h
    · split
      · intro h; simp [runtimePanic, go_sem] at h
      · refine bind_noEnter' _ _ (fun p w1 f args w' => bind_noEnter' _ _ (fun b w2 f args w' => ?_) _ _ _ _) _ _ _ _
        split
        · exact bind_noEnter' _ _ (fun u w3 f args w' h => by simp at h) _ _ _ _
        · intro h; simp at h
      · intro h; simp at h
    · intro h; simp at h
  · cases h
theorem lone_about {o : Oper} (h : lone o = true) (ρ : Operand → Value) (w : World) : o.about P w ρ = none := by
  unfold lone at h
  unfold Oper.about
  split at h <;> first | (rename_i ho; rw [ho]; done) | (rename_i ho; rw [ho]) | cases h
theorem lone_semAt {o : Oper} (h : lone o = true) (r : Option Nat) (ρ : Operand → Value) : o.semAt r ρ = execOp ρ o := by
  cases r with
  | none => rw [Oper.semAt_none]
  | some l => exact Oper.semAt_some l ρ o (fun c e => by rw [lone, e] at h; cases h)
theorem wpIn_of_still {o : Oper} {a : Act} {K : Act → Prop} {K' : Act → World → Prop} {Q' : Exit → Act → World → Prop} (hl : lone o = true) (h : ∀ a, K a → K' a w) (hh : o.still P a w K) : o.wpIn F nF P a w K' Q' := by
  unfold Oper.still at hh
  unfold Oper.wpIn
  rw [lone_semAt hl]
  refine ⟨fun f hf => (by rw [lone_about hl] at hf; cases hf), ?_⟩
  have hne := fun f args w' => lone_noEnter (P := P) hl a.eval w f args w'
  generalize (execOp a.eval o).run P w = r at *
  cases r with
  | ok n w' =>
    cases n <;> simp only [Oper.stillUpon] at hh <;> simp only [Oper.uponIn]
    case enter f args => exact absurd rfl (hne f args w')
    all_goals (obtain ⟨rfl, h2⟩ := hh; exact h _ h2)
  | halt x w' => simp only [Oper.stillUpon] at hh
theorem wpOpIn_of_stOp {i : Nat} {a : Act} {K : Act → Prop} {K' : Act → World → Prop} {Q' : Exit → Act → World → Prop} (hl : ∀ o, ops[i]? = some o → lone o = true) (h : ∀ a, K a → K' a w) (hh : stOp P ops w i K a) : wpOpIn F nF P ops Q' i K' a w := by
  unfold stOp at hh
  unfold wpOpIn
  split
  · rename_i ho; simp only [ho] at hh; exact h _ hh
  · rename_i o ho
    simp only [ho] at hh
    split
    · rename_i hw; simp only [hw, if_true] at hh; exact wpIn_of_still (hl o ho) h hh
    · rename_i hw; simp only [hw] at hh; exact ⟨fun f hf => (by rw [lone_about (hl o ho)] at hf; cases hf), h _ hh⟩
theorem wpAnyIn_of_head {n g : Nat} {L : Array Bool → Act → Prop} {Q' : Exit → Act → World → Prop} (hl : ∀ (i : Nat) (o : Oper), ops[i]? = some o → lone o = true) (hL : ∀ listed a, L listed a → wpAnyIn F nF P md ops Q' g listed a w) :
    ∀ (f : Nat) (listed : Array Bool) (a : Act), wpAnyL P md ops w n L f listed a → wpAnyIn F nF P md ops Q' (f + g) listed a w
  | 0, listed, a, h => by rw [Nat.zero_add]; exact hL _ _ h
  | f + 1, listed, a, h => by
    rw [show f + 1 + g = (f + g) + 1 by omega]
    exact ⟨fun h0 => absurd h0 h.1, fun i hi => wpOpIn_of_stOp (hl i) (fun a' h' => wpAnyIn_of_head hl hL f _ a' h') (h.2 i hi).2⟩
theorem wpAnyIn_of_seq {Q' : Exit → Act → World → Prop} : ∀ (l : List Oper) (k : Nat) (listed : Array Bool) (a : Act) (w : World), (∀ j, l[j]? = ops[k + j]?) →
    Region.seqB md ops l.length k listed = true → wpListIn F nF P ops Q' l a w → wpAnyIn F nF P md ops Q' l.length listed a w
  | [], _, _, _, _, _, hB, h => ⟨by simpa [Region.seqB] using hB, h⟩
  | o :: l, k, listed, a, w, hl, hB, h => by
    have h0 : ops[k]? = some o := by simpa using (hl 0).symm
    simp only [List.length_cons, Region.seqB, Bool.and_eq_true, decide_eq_true_eq] at hB
    refine ⟨fun h1 => (by rw [hB.1] at h1; cases h1), fun i hi => ?_⟩
    rw [hB.1] at hi
    have hik : i = k := by simpa using hi
    subst hik
    have hw : wpOpIn F nF P ops Q' i (wpListIn F nF P ops Q' l) a w := by unfold wpOpIn; simp only [h0]; exact h
    exact wpOpIn_mono (fun a' w' h' => wpAnyIn_of_seq l (i + 1) _ a' w' (fun j => by have := hl (j + 1); simpa [Nat.add_assoc, Nat.add_comm 1 j] using this) hB.2 h') hw
/-- The region, walked once: its head leaves the world alone, its tail goes in its order. -/
theorem wpIn_region_still_tail {id : Nat} {Q : Exit → Act → World → Prop} {a : Act} {w : World} {l : List Oper} (n : Nat) (hm : P.follows .mixedOrders = true) (hl : l.all lone = true) (hB : Region.lexTailB .any l.toArray n = true)
    (h : wpStill P l.toArray { w with drawn := w.drawn + 1 } (fun a' => wpListIn F nF P l.toArray Q (l.drop n) a' { w with drawn := w.drawn + 1 }) (l.take n) a) : (Code.region id l.toArray true).wpIn F nF P Q a w := by
  simp only [Region.lexTailB, Bool.and_eq_true, decide_eq_true_eq] at hB
  obtain ⟨⟨⟨⟨hsel, hn⟩, hs⟩, hc⟩, hlex⟩ := hB
  have hn' : n < l.length := by simpa using hn
  have htl : (l.take n).length = n := by simp; omega
  have hdl : (l.drop n).length = l.toArray.size - n := by simp
  have hll : ∀ i o, l.toArray[i]? = some o → lone o = true := fun i o ho => List.all_eq_true.1 hl o (by rw [List.getElem?_toArray] at ho; exact List.mem_of_getElem? ho)
  have inv0 : HeadInv .any l.toArray n (Array.replicate l.toArray.size false) :=
    ⟨by simp, fun j oj _ hl => (by rw [getD_replicate_false] at hl; cases hl), fun t _ ht => getD_in (by simpa using ht) (getD_replicate_false _ _)⟩
  have H := wpAnyL_lex (md := .any) (g := l.toArray.size - n) hsel hs hc hn (l.take n) 0 _ a (fun j hj => by
    have hj' : j < n := by rw [htl] at hj; exact hj
    simp [hj']) (by simpa using htl) inv0 (by rw [htl]; exact hlex) h
  refine wpIn_region_any hm ?_
  have := wpAnyIn_of_head (F := F) (nF := nF) (Q' := Q) (g := l.toArray.size - n) hll (fun listed a' hL => by
    have := wpAnyIn_of_seq (F := F) (nF := nF) (md := .any) (Q' := Q) (l.drop n) n listed a' { w with drawn := w.drawn + 1 } (fun j => by simp [List.getElem?_drop]) (by rw [hdl]; exact hL.1) hL.2
    rwa [hdl] at this) _ _ _ H
  rw [htl, show n + (l.toArray.size - n) = l.toArray.size by omega] at this
  exact this
end
end Go.Proofs.YtnhcjgnohnedaaaGreatDoor

namespace Go.Proofs.YtnhcjgnohnedaaaGreatDoor
open Go.RowKit Go.Shelf
attribute [local go_sem] Oper.semAt_some

namespace Mx
def Item.zero (w : World) (X : Nat → Prop) : Item w X := ⟨(⟨#[]⟩, 95, .agg #[]), .var, by decide, rfl⟩
theorem upto_map {κ β : Type} (F : κ → β) (el : Nat → κ) (n : Nat) : (upto el n n).map (fun x => F x.2) = ((List.range n).map (fun j => F (el j))).reverse := by
  apply List.ext_getElem?
  intro i
  unfold upto
  rw [List.map_map, List.getElem?_map]
  by_cases hi : i < n
  · rw [List.getElem?_reverse (by simpa using hi), List.getElem?_map, List.length_map, List.length_range, List.getElem?_range hi, List.getElem?_range (by omega)]
    rfl
  · rw [List.getElem?_eq_none (by simp; omega), List.getElem?_eq_none (by simp; omega)]; rfl
theorem range_getD {κ β : Type} (F : κ → β) (l : List κ) (z : κ) : (List.range l.length).map (fun j => F (l.getD j z)) = l.map F := by
  apply List.ext_getElem?
  intro i
  rw [List.getElem?_map, List.getElem?_map]
  by_cases hi : i < l.length
  · rw [List.getElem?_range hi, List.getElem?_eq_getElem hi]
    simp [List.getD_eq_getElem?_getD, List.getElem?_eq_getElem hi]
  · rw [List.getElem?_eq_none (by simp; omega), List.getElem?_eq_none (by omega)]; rfl
theorem undone_all {w : World} {X : Nat → Prop} (s : St) (it : List (Item w X)) (g : List (ByteArray × Mean)) (h : it.map (fun x => (x.kp.1, x.mn)) = g.reverse) (z : Item w X) : undone s (upto (fun j => it.getD j z) it.length it.length) = g.foldl (fun s p => setMean p.1 p.2 s) s := by
  have e : (upto (fun j => it.getD j z) it.length it.length).map (fun x => (x.2.kp.1, x.2.mn)) = g := by
    rw [upto_map (fun x : Item w X => (x.kp.1, x.mn)), range_getD (fun x : Item w X => (x.kp.1, x.mn)), h, List.reverse_reverse]
  rw [undone, ← e, List.foldl_map]
theorem sum_mem {g : List (ByteArray × Mean)} {gs : List (List (ByteArray × Mean))} {s : St} (h : s.groups = g :: gs) : saved s = g.length + (gs.map List.length).sum := by rw [saved, h]; simp
theorem row_place {w : World} {B b mb n N : Nat} {M : Nat → Prop} {v : Value} {cs : List Value} {D : DataW Value} {c : Array Value} {t : TypeId} (h : w.ownsRow B 162 2 v n cs) (hm : w.ownsMap Tryz.prog 9 rawElem mb N D) (hb : w.heap[b]? = some (.cells c t (0, 0))) :
    ∃ A gb cg, v = .slice A n cg ∧ (0 < n → A = some ⟨gb, 0, none⟩) ∧ (gb < w.heap.size ∧ mb ≠ gb) ∧ (∀ j, j < n → w.cell? ⟨gb, j * 2, none⟩ = cs[j * 2]? ∧ w.cell? ⟨gb, j * 2 + 1, none⟩ = cs[j * 2 + 1]?) := by
  rcases h.2 with ⟨rfl, rfl⟩ | ⟨g, cap, cur, rfl, hbg, hgg, -⟩
  · exact ⟨none, b, 0, rfl, fun h => by omega, ⟨(Array.getElem?_eq_some_iff.1 hb).1, map_ne hm hb⟩, fun j hj => by omega⟩
  · exact ⟨_, g, cap, rfl, fun _ => rfl, ⟨(Array.getElem?_eq_some_iff.1 hgg).1, map_ne hm hgg⟩, fun j hj => ⟨World.ownsRow.cellAt h (j * 2) (by omega), World.ownsRow.cellAt h (j * 2 + 1) (by omega)⟩⟩
set_option maxRecDepth 100000 in
set_option maxHeartbeats 8000000 in
theorem endGroup_any {w : World} {B b σ : Nat} {M P : Nat → Prop} {s : St} {g : List (ByteArray × Mean)} {gs : List (List (ByteArray × Mean))} (hg : s.groups = g :: gs) (H : Holds w B b σ M P s) :
    Calls Tryz.prog 98 #[.pointer (some ⟨b, 0, none⟩)] w (Ends B b σ M P w (.ok () (endGroup s)) vUnit) := by
  obtain ⟨y, Pt⟩ := H.parts
  obtain ⟨xs, hx, hxM, hgr⟩ := Pt.groups
  rw [hg] at hx hgr
  rw [List.reverse_cons, List.map_append] at hgr
  obtain ⟨xs', v0, cs, rfl, hgs, hown, hv0M, hsv, -⟩ := hgr.snoc
  obtain ⟨it, hit, hmap, hcs⟩ := hsv.items
  obtain ⟨gg, cap, hvg, hcap, hggl, -⟩ := row_some hx
  rw [hvg] at hx
  have c10 := (ecells Pt.cells).c10
  have f10 := (ecells Pt.cells).fr 10
  rw [hvg] at c10
  have hltw : b < w.heap.size := (ecells Pt.cells).lt
  have hxl : xs'.length = gs.length := by have := hx.1; simp at this; omega
  have hcell : w.cell? ⟨gg, gs.length, none⟩ = some v0 := by
    have h2 : w.cell? ⟨gg, gs.length, none⟩ = (xs' ++ [v0])[gs.length]? := World.ownsRow.cellAt hx gs.length (by simp)
    rw [h2, List.getElem?_append_right (by omega), hxl, Nat.sub_self]; rfl
  obtain ⟨len, hlen⟩ : ∃ n, n = g.length := ⟨_, rfl⟩
  obtain ⟨A0, gb, cg, hv0, hA0, hgb⟩ : ∃ A gb cg, v0 = .slice A len cg ∧ (0 < len → A = some ⟨gb, 0, none⟩) ∧ (gb < w.heap.size ∧ y.mb ≠ gb) ∧ (∀ j, j < len → w.cell? ⟨gb, j * 2, none⟩ = cs[j * 2]? ∧ w.cell? ⟨gb, j * 2 + 1, none⟩ = cs[j * 2 + 1]?) := by
    rw [List.length_reverse, ← hlen] at hown
    obtain ⟨-, n0, hmp, -⟩ := Pt.map
    obtain ⟨D0, hD0, -⟩ := hmp.ex
    obtain ⟨A, gb, cg, k1, k2, k3, k4⟩ := row_place (M := M) hown hD0 Pt.cells
    exact ⟨A, gb, cg, k1, k2, k3, k4⟩
  rw [hv0] at hcell
  obtain ⟨kk, hkk⟩ : ∃ kk, kk = gs.length := ⟨_, rfl⟩
  rw [← hkk] at hcell c10 hx hcap
  have hkb : kk ≤ 1000000 := by have h4 := H.b4; have h1 := H.b1; rw [hg] at h4; simp at h4; omega
  have hlb : len ≤ 1000000 := by have h4 := Pt.pmap.2; have h1 := H.b1; rw [sum_mem hg] at h4; omega
  have hmbM : M y.mb := Pt.map.1
  have hmbl : y.mb < w.heap.size := (H.low _ hmbM).2
  have wk : IntKind.i64.wrap ((kk : Int) + 1 - 1) = (kk : Int) := by rw [Int.add_sub_cancel]; exact IntWalk.i64_in _ (by omega)
  have wk2 : ((kk : Int) + 1 - 1) = (kk : Int) := by omega
  have HH := Lib.hid H
  have HPt := Lib.hid Pt
  have HKK := Lib.hid hkk
  have HLEN := Lib.hid hlen
  have HHG := Lib.hid hg
  have HIT := Lib.hid hit
  have HMAP := Lib.hid hmap
  have HCS := Lib.hid hcs
  have HGB := Lib.hid hgb
  have HA0 := Lib.hid hA0
  have HV0 := Lib.hid hv0
  have HVG := Lib.hid hvg
  have HXM := Lib.hid hxM
  have HV0M := Lib.hid hv0M
  have HX := Lib.hid hx
  clear H hsv hgr hgs hown hkk hlen hg hit hmap hcs hgb hA0 hv0 hvg hxM hv0M hx hxl Pt
  refine (callsIn_wide (n := 5)).1 ?_
  refine callsIn_of_wp_marks Tryz.func98 rfl trivial ?_ rfl
  simp only [Tryz.ntmps98, List.size_toArray, List.length_cons, List.length_nil, Nat.reduceAdd, Nat.reduceSub, Array.replicate_succ, Array.replicate_zero, List.push_toArray, List.append_toArray, List.nil_append, List.cons_append]
  gi_wp2
  refine ⟨trivial, (back_in Fence.wide 4 trivial rfl _ _ _ _).mono ?_⟩; rintro e w' ⟨rfl, rfl⟩
  gi_wp2
  have hBw := HH.out.Bs
  obtain ⟨W0, hW0⟩ : ∃ W0, (w.alloc (.cells #[.pointer (some ⟨b, 0, none⟩)] 89)).alloc (.cells #[.slice A0 len cg] 160) = W0 := ⟨_, rfl⟩
  have hsz : W0.heap.size = w.heap.size + 2 := by rw [← hW0]; simp
  have hB0 : Below w.heap.size w W0 := by rw [← hW0]; exact ((Below.refl _ w).alloc (Nat.le_refl _) _).alloc (by simp) _
  have hbs : W0.heap[w.heap.size + 1]? = some (.cells #[.slice A0 len cg] 160 (0, 0)) := by rw [← hW0]; have := heap_alloc_new (w.alloc (.cells #[.pointer (some ⟨b, 0, none⟩)] 89)) (.cells #[.slice A0 len cg] 160); simpa using this
  have hbx : W0.heap[w.heap.size]? = some (.cells #[.pointer (some ⟨b, 0, none⟩)] 89 (0, 0)) := by rw [← hW0]; exact blk_alloc (heap_alloc_new w _) _
  obtain ⟨q, hq⟩ : ∃ q, q = 1000 + 4 * s.steps - saved s - σ := ⟨_, rfl⟩
  have hq' : q + saved s + σ = 1000 + 4 * s.steps := by have := HPt.out.pmap.2; omega
  have hqb : q ≤ 1000000 := by have := HH.out.b1; omega
  have h0 : Half w B b q M P y s ([] : List (Nat × Item w (uni M P))) W0 := by
    have hu := Undoes.start HH.out HPt.out
    rw [← hq] at hu
    refine ⟨?_, Turns.of_below hB0 M, by omega, hbx⟩
    show Undoes W0 B b (q + 0) M (pw P w.heap.size W0) y s
    rw [Nat.add_zero]
    refine hu.keep (Turns.of_below hB0 P) (fun k hk => ?_) (fun k hk => ?_)
    · rcases hk with hk | hk
      · exact Or.inl hk
      · exact Or.inr hk.1
    · rcases hk with hk | hk
      · have := hu.lowP k hk; exact ⟨this.1, by omega⟩
      · exact ⟨by omega, hk.2⟩
  rw [hW0]
  refine wpIn_rangeFunc_ownH rfl (by decide) (gf := 147) (lb := #[.pointer (some ⟨w.heap.size + 1, 0, none⟩)]) rfl trivial (enters_of Tryz.func147 (by kernel_rfl) rfl)
    (back_stops (Item.kp (w := w) (X := uni M P)) Fence.wide 4 trivial rfl (by decide) (w.heap.size + 1) gb len cg A0 HA0.out (fun j => it.getD j (Item.zero w (uni M P))) ?hlen W0 (by omega) ?hgb (cell_of_row W0 _ 0 _ _ _ hbs) ?hcells) ?kt ?kb (Below.refl _ _) (fun _ => rfl)
    (fun pre W => Half w B b q M P y s pre W) (fun _ _ _ => False) (by rw [hsz]; exact Half.own hBw) (fun _ _ _ _ _ hs _ _ => hs) h0
    (fun x a' W => ∃ Bx, W0.heap.size ≤ Bx ∧ W.heap[Bx]? = some (.cells #[.string x.2.kp.1, .iface x.2.kp.2.1 x.2.kp.2.2] 162 (0, 0)) ∧ a' = { tmps := #[.pointer (some ⟨b, 0, none⟩), .pointer (some ⟨w.heap.size, 0, none⟩), .int .i64 kk, undef, .pointer (some ⟨Bx, 0, none⟩), .pointer (some ⟨b, 0, none⟩), .pointer (some ⟨b, 0, none⟩), .pointer (some ⟨b, 10, none⟩), .slice (some ⟨gg, 0, none⟩) (kk + 1) cap, .int .i64 ((kk : Int) + 1), .int .i64 kk, .pointer (some ⟨b, 0, none⟩), .pointer (some ⟨b, 0, none⟩), .pointer (some ⟨b, 10, none⟩), .slice (some ⟨gg, 0, none⟩) (kk + 1) cap, .int .i64 kk, .pointer (some ⟨gg, kk, none⟩), .slice A0 len cg, .func (.func 147) #[] #[.pointer (some ⟨w.heap.size + 1, 0, none⟩)], .int .i64 (x.1 : Int), .agg #[.string x.2.kp.1, .iface x.2.kp.2.1 x.2.kp.2.2], undef, undef, undef, undef, undef, undef, undef, undef, undef, undef, undef, undef, undef, undef, undef, undef, undef], defers := [] })
    ?hAx ?assign ?body ?done ?stop
  case hlen => exact hlb
  case hgb => intro _; have := HGB.out.1.1; omega
  case hcells =>
    intro j hj
    have hjl : j < it.length := by have h1 := HIT.out; have h2 := HLEN.out; rw [List.length_reverse] at h1; omega
    have hx : it[j]? = some it[j] := List.getElem?_eq_getElem hjl
    have hd : it.getD j (Item.zero w (uni M P)) = it[j] := by rw [List.getD_eq_getElem?_getD, hx]; rfl
    obtain ⟨h1, h2⟩ := HGB.out.2 j hj
    obtain ⟨h3, h4⟩ := HCS.out j _ hx
    rw [hd]
    exact ⟨(hB0.cell (p := ⟨gb, j * 2, none⟩) HGB.out.1.1).trans (h1.trans h3), (hB0.cell (p := ⟨gb, j * 2 + 1, none⟩) HGB.out.1.1).trans (h2.trans h4)⟩
  case kt => intro A1 A2 A3 h1 h2; exact ⟨h2.1.trans h1.1, h2.2.trans h1.2⟩
  case kb =>
    intro W l o o' hl _ _ _
    have hgl := HGB.out.1.1
    exact ⟨World.putObj_heap_other (by omega), World.putObj_heap_other (by omega)⟩
  case hAx =>
    rintro x a' _ W W' row ⟨Bx, h1, h2, h3⟩ hgr hr
    exact ⟨Bx, h1, (grownBy_keeps_cells hgr (fun r e => (hr r e).2) h2 rfl).trans h2, h3⟩
  case assign =>
    intro l pre x W K hK hgo
    dsimp only [encK]
    gi_wp2
    have hgl := HGB.out.1.1
    have hws := hK.sz
    exact hgo _ _ ((KeepsOthers.alloc _ _).from _) ⟨Below.heap_alloc W _ gb (by omega), Below.heap_alloc W _ _ (by omega)⟩ (hK.grown hBw (World.grownBy_alloc W _ none) (fun r e => by cases e) (notExp_none _)) ⟨W.heap.size, by omega, heap_alloc_new W _, rfl⟩
  case body =>
    rintro l pre x a' W hl ⟨r, hr⟩ hI ⟨Bx, hBx, hX, rfl⟩ hlen
    obtain ⟨hmM, N, hmap2, hN⟩ := hI.un.map
    obtain ⟨D, hD, hsp⟩ := hmap2.ex
    have e9 := (ecells hI.un.cells).c9
    have blt := (ecells hI.un.cells).lt
    have x0 : W.cell? ⟨w.heap.size, 0, none⟩ = some (.pointer (some ⟨b, 0, none⟩)) := cell_of_row W _ 0 _ _ _ hI.bx
    have k0 : W.cell? ⟨Bx, 0, none⟩ = some (.string x.2.kp.1) := cell_of_row W Bx 0 _ _ _ hX
    have k1 : W.cell? ⟨Bx, 1, none⟩ = some (.iface x.2.kp.2.1 x.2.kp.2.2) := cell_of_row W Bx 1 _ _ _ hX
    have hplen : pre.length ≤ 1000000 := by omega
    have hNm : N < maxLen := by unfold maxLen; omega
    have HI := Lib.hid hI
    have HSP := Lib.hid hsp
    have HN := Lib.hid hN
    have HD := Lib.hid hD
    clear hI hsp hN hD hmap2
    have hmx : Tryz.prog.follows .mixedOrders = true := by kernel_rfl
    gi_wp2
    refine wpIn_region_still_tail 8 hmx (by kernel_rfl) (by kernel_rfl) ?_
    simp only [List.take_succ_cons, List.take_zero, List.drop_succ_cons, List.drop_zero]
    repeat still_step
    refine wpStill_nil ?_
    refine wpListIn_mapUpdate_own _ rfl _ _ _ 45 rfl 9 60 str_key Tryz.underlying45 rawElem y.mb N D rfl (World.ownsMap.drew HD.out) hNm (.string x.2.kp.1) (.iface x.2.kp.2.1 x.2.kp.2.2) _ rfl rfl (WideMaps.keyOf_string_mk Tryz.underlying9 x.2.small) (.held (.iface x.2.kp.2.1 x.2.kp.2.2)) [] rfl ?_
    intro w1 hown1 hgrow1
    gi_wp2
    have hg1 : W.grownBy w1 (some y.mb) := ⟨hgrow1.os, hgrow1.tape, hgrow1.output, hgrow1.size, hgrow1.block⟩
    have hsz1 := hg1.size
    have hWs := HI.out.sz
    have hne : y.mb ≠ w.heap.size + 1 := by omega
    have hgl := HGB.out.1
    have hX := IsMean.turn x.2.is (HI.out.tu.mono (fun k hk => uni_l hk)) (M' := uni M (pw P w.heap.size W)) (fun k hk => by
      rcases hk with hk | hk | hk
      · exact Or.inl (Or.inl hk)
      · exact Or.inl (Or.inr hk)
      · exact Or.inr hk.1)
    obtain ⟨hu1, ht1⟩ := Undoes.mapped (P' := pw P w.heap.size w1) HI.out.un (fun k hk => by
      rcases hk with hk | hk
      · exact Or.inl (Or.inl hk)
      · by_cases hlt : k < W.heap.size
        · exact Or.inl (Or.inr ⟨hk.1, hlt⟩)
        · exact Or.inr (by omega)) (fun k hk => by
      rcases hk with hk | hk
      · have := HI.out.un.lowP k (Or.inl hk); exact ⟨this.1, by omega⟩
      · exact ⟨by omega, hk.2⟩) HD.out HSP.out HN.out hX hown1 hg1
    refine ⟨KeepsFrom.of_grownBy hg1 (fun j e => by cases e; omega), ⟨hg1.block gb (by omega) (fun e => by cases e; exact hgl.2 rfl), hg1.block _ (by omega) (fun e => by injection e with e; exact hne e.symm)⟩, ?_⟩
    refine ⟨?_, HI.out.tu.trans (Grows.refl _ _) ht1, by omega, (hg1.block _ (by omega) (fun e => by injection e with e; omega)).trans HI.out.bx⟩
    rw [undone_snoc, List.length_append]
    exact hu1
  case done =>
    rintro D ys W hD hys hI hK
    have e10 := (ecells hI.un.cells).c10
    have fr10 := (ecells hI.un.cells).fr 10
    rw [HVG.out, ← HKK.out] at e10
    have blt := (ecells hI.un.cells).lt
    have x0 : W.cell? ⟨w.heap.size, 0, none⟩ = some (.pointer (some ⟨b, 0, none⟩)) := cell_of_row W _ 0 _ _ _ hI.bx
    have hmx : Tryz.prog.follows .mixedOrders = true := by kernel_rfl
    have hk0 : (0 : Int) ≤ (kk : Int) := by omega
    have hk1 : (kk : Int) ≤ (cap : Int) := by omega
    have HI := Lib.hid hI
    have HK := Lib.hid hK
    have HY := Lib.hid hys
    clear hI hK hys
    gi_wp2
    refine wpIn_region_still_tail 9 hmx (by kernel_rfl) (by kernel_rfl) ?_
    simp only [List.take_succ_cons, List.take_zero, List.drop_succ_cons, List.drop_zero]
    repeat still_step
    refine wpStill_nil ?_
    gi_wp2
    have hKs : ((W.setCell ⟨b, 10, none⟩ (.slice (some ⟨gg, 0, none⟩) kk cap)).drew).heap[D]? = some (.deferred (some [])) := (Below.heap_setCell W ⟨b, 10, none⟩ _ D (by show D ≠ b; omega)).trans HK.out
    refine ⟨by simp, .inl ⟨_, _, rfl, run_takeDeferred hKs, ?_⟩⟩
    refine ⟨_, results_none rfl _ _ _, ?_⟩
    have hil : len = it.length := by have h1 := HIT.out; have h2 := HLEN.out; rw [List.length_reverse] at h1; omega
    have hyl : ys.length = len := by rw [HY.out, upto_length]
    have hst : { undone s ys with groups := gs } = endGroup s := by
      rw [HY.out, hil, undone_all s it g HMAP.out, endGroup, HHG.out]
    obtain ⟨f, hf⟩ := undone_means s ys
    have hD := Undoes.done (σ := σ) (g := g) (gs := gs) (gg := gg) (cap := cap) HI.out.un (by rw [hf]; exact HHG.out) HVG.out (by rw [hf]; have h1 := sum_mem HHG.out; have h2 := HLEN.out; show _ ≤ 1000 + 4 * s.steps; omega) (by rw [hf]; exact HH.out.lastf) (by rw [hf]; exact HH.out.b1) (by rw [hf]; exact HH.out.b2) (by rw [hf]; exact HH.out.b3) (by rw [hf]; exact HH.out.b4) (by rw [hf]; exact HH.out.b5)
    rw [hst, ← HKK.out] at hD
    have hDl : D < W.heap.size := (Array.getElem?_eq_some_iff.1 HK.out).1
    have hsz5 : ((W.setCell ⟨b, 10, none⟩ (.slice (some ⟨gg, 0, none⟩) kk cap)).drew).heap.size = W.heap.size := by simp [World.setCell, World.drew]
    have hgr := grownBy_putObj' ((W.setCell ⟨b, 10, none⟩ (.slice (some ⟨gg, 0, none⟩) kk cap)).drew) D (.deferred none)
    have hne : NotExp ((W.setCell ⟨b, 10, none⟩ (.slice (some ⟨gg, 0, none⟩) kk cap)).drew) (some D) := fun k c e hc => by
      injection e with e
      rw [← e, hKs] at hc
      cases hc
    refine ⟨M, Grows.refl _ _, ((HI.out.tu.trans (Grows.refl _ _) hD.2).drew).trans (M' := fun k => some D = some k) (fun k hk => by injection hk with hk; exact Or.inr (by omega)) (Turns.of_grown hgr hne), _, rfl, rfl, ?_⟩
    refine hD.1.drew.keep ((Turns.of_grown hgr hne).mono (fun k hk => ?_)) (fun k hk => Or.inl (Or.inl hk)) (fun k hk => ?_) (Nat.le_refl _)
    · injection hk with hk; exact Or.inr ⟨by omega, by omega⟩
    · have := HH.out.lowP k hk
      have h2 := hgr.size
      exact ⟨this.1, by omega⟩
  case stop =>
    rintro D c pre W _ _ h _
    exact h.elim
end Mx
end Go.Proofs.YtnhcjgnohnedaaaGreatDoor

namespace Go.Proofs.YtnhcjgnohnedaaaGreatDoor
open Go.RowKit

theorem signAt_any (x : Tv) (z : ByteArray) (w : World) : Calls Tryz.prog 127 #[x.val, .string z] w fun e w' => e = .returned (Mx.signAt x z).val ∧ Below w.heap.size w w' := by
  unfold Mx.signAt Tv.val
  go_enter Tryz.func127, Tryz.ntmps127
  go_wp2_with fail
  exact bodyPost_ret (v := .agg #[.int .i64 4, .string z, .int .i64 0, .int .i64 0, .int .i64 x.a, .int .i64 x.c]) (by simp [results, Tryz.results127, go_sem]) rfl ⟨rfl, ((Below.refl _ _).alloc (Nat.le_refl _) _).alloc (by simp) _⟩
end Go.Proofs.YtnhcjgnohnedaaaGreatDoor
