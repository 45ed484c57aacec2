/-
  Helpers of package macro's save.
  Package macro: a row of what a group keeps is gone through from its end on (slices.Backward).
  Package macro: an expander whose last group is being undone: the bound on its meanings stands by itself.
-/
import Derived.Test.YtnhcjgnohnedaaaGreatDoorMxO
import Derived.RangeFuncNested
import Derived.RangeFuncBound
import Derived.RangeFuncCalls
import Derived.RangeFuncLeaves
import Derived.Shelf.Abstract
import Derived.Shelf.RegionOpen
import Derived.WalkKit
import Derived.OwnWalkIn
import Derived.TacticsInMore
import Derived.LoopNIn
import Derived.LoopIn
namespace Go.Proofs.YtnhcjgnohnedaaaGreatDoor
open Go.RowKit

namespace Mx
theorem Holds.flag {w : World} {B b σ : Nat} {M P : Nat → Prop} {s : St} (H : Holds w B b σ M P s) (v : Bool) : Holds (w.setCell ⟨b, 11, none⟩ (.bool v)) B b σ M P { s with saving := v } ∧ Turns M w (w.setCell ⟨b, 11, none⟩ (.bool v)) := by
  obtain ⟨y, Pt⟩ := H.parts
  have ht : Turns (Mx.only b) w (w.setCell ⟨b, 11, none⟩ (.bool v)) := Turns.set1 w b 11 _
  have hN : ∀ k, Mx.only b k → M k := fun k hk => by rw [hk]; exact H.hb
  have hNX : ∀ k, Mx.only b k → uni M P k := fun k hk => Or.inl (hN k hk)
  have nb : ∀ {k : Nat} {c : Array Value} {t : TypeId} {f : Nat × Nat}, w.heap[k]? = some (.cells c t f) → t ≠ 48 → ¬ Mx.only b k := fun hc h1 h => by
    have h' : _ = b := h
    subst h'; exact h1 (heap_inj hc Pt.cells)
  have hbl := Pt.pmap
  refine ⟨?_, ht.mono hN⟩
  refine Holds.mk' (y := y) (H.env.turn (ht.below (fun k hk => (H.low k (hN k hk)).1) H.Bs)) (fun k hk => ⟨(H.low k hk).1, Nat.lt_of_lt_of_le (H.low k hk).2 ht.size⟩) (fun k hk => ⟨(H.lowP k hk).1, Nat.lt_of_lt_of_le (H.lowP k hk).2.1 ht.size, (H.lowP k hk).2.2⟩) H.hb (Nat.le_trans H.Bs ht.size)
    (heap_set w b 11 _ _ _ Pt.cells) (Parts.turn_rest Pt.rest (ht.mono hNX) (Grows.refl _ _)) (list_keep Pt.lists ht hNX (Grows.refl _ _) (fun _ h => h) (fun k hk => by obtain ⟨cur, hc⟩ := row_ty Pt.lists.choose_spec.1 hk; exact nb hc (by decide)))
    (out_keep Pt.out ht (fun _ h => h) (fun k hk => by obtain ⟨cur, hc⟩ := row_ty Pt.out.1 hk; exact nb hc (by decide))) ?_ hbl.2
    (grp_keep Pt.groups ht hNX (Grows.refl _ _) (fun _ h => h) (fun k hk => by obtain ⟨cur, hc⟩ := row_ty Pt.groups.choose_spec.1 hk; exact nb hc (by decide)) (fun k cur _ hc => nb hc (by decide))) H.lastf H.b1 H.b2 H.b3 H.b4 H.b5
  obtain ⟨hm, n, hmap, hn⟩ := hbl.1
  obtain ⟨D, hD, -⟩ := hmap.ex
  exact map_keep ⟨hm, n, hmap, hn⟩ ht hNX (Grows.refl _ _) (fun _ h => h) (fun h => map_ne hD Pt.cells h)
theorem mean_one {w : World} {X : Nat → Prop} {v : Value} {m : Mean} (h : IsMean w X v m) : v.oneCell' = true := by
  cases m with
  | var => obtain rfl : v = _ := h; rfl
  | word s => obtain ⟨rfl, -⟩ := h; rfl
  | mac m => obtain ⟨k, rfl, -⟩ := h; rfl
theorem mean_iface {w : World} {X : Nat → Prop} {v : Value} {m : Mean} (h : IsMean w X v m) : ∃ T p, v = .iface T p := by
  cases m with
  | var => exact ⟨_, _, h⟩
  | word s => exact ⟨_, _, h.1⟩
  | mac m => obtain ⟨k, e, -⟩ := h; exact ⟨_, _, e⟩
theorem own_len (A : Option Addr) (n n' c : Nat) : (Value.slice A n c).ownBlock = (Value.slice A n' c).ownBlock := by cases A <;> rfl
theorem turns_undrew (M : Nat → Prop) (w : World) : Turns M w.drew w := ⟨rfl, rfl, rfl, Nat.le_refl _, fun _ _ _ => rfl, fun _ c h => ⟨c, h, rfl⟩⟩
theorem two_one {w : World} {X : Nat → Prop} {v : Value} {m : Mean} (h : IsMean w X v m) (n : ByteArray) : ∀ u ∈ [Value.string n, v], u.oneCell' = true := by
  intro u hu
  simp only [List.mem_cons, List.not_mem_nil, or_false] at hu
  rcases hu with rfl | rfl
  · rfl
  · exact mean_one h
theorem wrap_small {k : Nat} (h : k ≤ 1000000) : IntKind.i64.wrap (k : Int) = k := IntWalk.i64_in _ (by omega)
theorem save_1 {s : St} {f : Flt} (h : readName s = .bad f) : save s = .bad f := by simp [save, bind, M.bind, h]
theorem save_2 {s s1 : St} {a : Tv} {f : Flt} (h : readName s = .ok a s1) (h2 : put a 0 a.t s1 = .bad f) : save s = .bad f := by simp [save, bind, M.bind, h, h2]
theorem save_3 {s s1 s2 : St} {a : Tv} (h : readName s = .ok a s1) (h2 : put a 0 a.t s1 = .ok () s2) : save s = .ok () { setMean a.t .var (addSaved a.t s2) with saving := true } := by simp [save, bind, M.bind, h, h2, modify]
end Mx
end Go.Proofs.YtnhcjgnohnedaaaGreatDoor

namespace Go.Proofs.YtnhcjgnohnedaaaGreatDoor
open Go.RowKit Go.Shelf
attribute [local go_sem] Oper.semAt_some

namespace Mx
/-- What is kept of a name: the name, and its meaning's value. -/
abbrev Kept := ByteArray × TypeId × Value
/-- What has come when k rounds are over: the last one first. -/
def upto {κ : Type} (el : Nat → κ) (len k : Nat) : List (Nat × κ) := (List.range k).map (fun j => (len - 1 - j, el (len - 1 - j)))
theorem upto_succ {κ : Type} (el : Nat → κ) (len k : Nat) : upto el len (k + 1) = upto el len k ++ [(len - 1 - k, el (len - 1 - k))] := by simp [upto, List.range_succ]
theorem upto_length {κ : Type} (el : Nat → κ) (len k : Nat) : (upto el len k).length = k := by simp [upto]
def encK {κ : Type} (kp : κ → Kept) (x : Nat × κ) : Array Value := #[.int .i64 (x.1 : Int), .agg #[.string (kp x.2).1, .iface (kp x.2).2.1 (kp x.2).2.2]]
/-- What a round leaves alone: the row and the box of the slice. -/
def KpB (b Bs : Nat) (W W' : World) : Prop := W'.heap[b]? = W.heap[b]? ∧ W'.heap[Bs]? = W.heap[Bs]?

set_option maxRecDepth 100000 in
set_option maxHeartbeats 4000000 in
theorem back1_in {κ : Type} (kp : κ → Kept) (F : Fence) (n : Nat) (hf : F.fn 147) (hro : F.round = none) (hn : 1 ≤ n) (l Bs b len cap : Nat) (A : Option Addr) (hA : 0 < len → A = some ⟨b, 0, none⟩) (el : Nat → κ) (hreach : len ≤ 1000000) (J Jx : List (Nat × κ) → World → Prop)
    (hY : ∀ pre x W, J pre W → pre.length < len → YieldAt F (n - 1) Tryz.prog l (encK kp x) W fun e W' =>
      (e = .returned (.bool true) ∧ J (pre ++ [x]) W' ∧ KpB b Bs W W') ∨ (e = .returned (.bool false) ∧ Jx (pre ++ [x]) W'))
    (W : World) (hBs : W.cell? ⟨Bs, 0, none⟩ = some (.slice A len cap)) (hc : ∀ j, j < len → W.cell? ⟨b, j * 2, none⟩ = some (.string (kp (el j)).1) ∧ W.cell? ⟨b, j * 2 + 1, none⟩ = some (.iface (kp (el j)).2.1 (kp (el j)).2.2)) (h0 : J [] W) :
    CallsIn F n Tryz.prog 147 #[.func (.yield l) #[] #[], .pointer (some ⟨Bs, 0, none⟩)] W fun e W' => (∃ v, e = .returned v) ∧
      ((∃ ys, ys = upto el len len ∧ J ys W') ∨ (∃ pre, (∃ k, k ≤ len ∧ pre = upto el len k) ∧ Jx pre W')) := by
  refine callsIn_of_wp Tryz.func147 rfl hf ?_ hro
  simp only [Tryz.ntmps147, List.size_toArray, List.length_cons, List.length_nil, Nat.reduceAdd, Nat.reduceSub, Array.replicate_succ, Array.replicate_zero, List.push_toArray, List.append_toArray, List.nil_append, List.cons_append]
  have w0 : IntKind.i64.wrap ((len : Int) - 1) = (len : Int) - 1 := IntWalk.i64_in _ (by omega)
  gi_wp2
  gi_loopw [3] (fun i wr => ∃ k m : Nat, k + m = len ∧ i = .int .i64 ((m : Int) - 1) ∧ J (upto el len k) wr ∧ KpB b Bs W wr)
    (fun i _ => (intOf i + 1).toNat)
  case atStart => exact ⟨0, len, by omega, rfl, h0, rfl, rfl⟩
  case round =>
    obtain ⟨k, m, hk, rfl, hJs, hnx⟩ := hrel
    have hb1 := (World.cell?_of_block (a := ⟨Bs, 0, none⟩) hnx.2).trans hBs
    cases m with
    | zero =>
      obtain rfl : k = len := by omega
      gi_wp2
      go_end0
      exact ⟨⟨_, rfl⟩, .inl ⟨_, rfl, hJs⟩⟩
    | succ m =>
      obtain ⟨fn, tmps, assign, body, hy, hR⟩ := hY _ (m, el m) wr hJs (by rw [upto_length]; omega)
      have hA' := hA (by omega)
      subst hA'
      have e1 : ((m + 1 : Nat) : Int) - 1 = (m : Int) := by omega
      rw [e1]
      have hm : m < len := by omega
      have w1 : IntKind.i64.wrap ((m : Int) - 1) = (m : Int) - 1 := IntWalk.i64_in _ (by omega)
      have hge : (0 : Int) ≤ (m : Int) := by omega
      obtain ⟨hc1, hc2⟩ := hc m hm
      have d1 := (World.cell?_of_block (a := ⟨b, m * 2, none⟩) hnx.1).trans hc1
      have d2 := (World.cell?_of_block (a := ⟨b, m * 2 + 1, none⟩) hnx.1).trans hc2
      have hup : upto el len (k + 1) = upto el len k ++ [(m, el m)] := by rw [upto_succ, show len - 1 - k = m by omega]
      clear hc hc1 hc2 hY
      have HR := Lib.hid hR
      dsimp only [encK] at hy
      clear hR
      gi_wp2
      refine HR.out.mono ?_
      rintro e W3 (⟨rfl, hJ3, hk3⟩ | ⟨rfl, hJx3⟩)
      · gi_wp2
        go_roundw
        case rel => exact ⟨k + 1, m, by omega, rfl, by rw [hup]; exact hJ3, hk3.1.trans hnx.1, hk3.2.trans hnx.2⟩
        case measure => simp [intOf]
      · gi_wp2
        refine bodyPost_ret (results_none rfl _ _ _) rfl ?_
        exact ⟨⟨_, rfl⟩, .inr ⟨_, ⟨k + 1, by omega, hup.symm⟩, hJx3⟩⟩
set_option maxHeartbeats 1000000 in
theorem back_in (F : Fence) (n : Nat) (hf : F.fn 130) (hro : F.round = none) (a : Option Addr) (len cap : Nat) (w : World) :
    CallsIn F n Tryz.prog 130 #[.slice a len cap] w fun e w' => e = .returned (.func (.func 147) #[] #[.pointer (some ⟨w.heap.size, 0, none⟩)]) ∧ w' = w.alloc (.cells #[.slice a len cap] 160) := by
  refine callsIn_of_wp Tryz.func130 rfl hf ?_ hro
  simp only [Tryz.ntmps130, List.size_toArray, List.length_cons, List.length_nil, Nat.reduceAdd, Nat.reduceSub, Array.replicate_succ, Array.replicate_zero, List.push_toArray, List.append_toArray, List.nil_append, List.cons_append]
  gi_wp2
  go_ret
  exact ⟨rfl, rfl⟩
/-- The value that Backward gives is a sequence of all that is kept, the last one first. -/
theorem back_stops {κ : Type} (kp : κ → Kept) (F : Fence) (n : Nat) (hf : F.fn 147) (hro : F.round = none) (hn : 1 ≤ n) (Bs b len cap : Nat) (A : Option Addr) (hA : 0 < len → A = some ⟨b, 0, none⟩) (el : Nat → κ) (hreach : len ≤ 1000000) (w : World) (hBl : Bs < w.heap.size) (hbl : 0 < len → b < w.heap.size)
    (hBs : w.cell? ⟨Bs, 0, none⟩ = some (.slice A len cap)) (hc : ∀ j, j < len → w.cell? ⟨b, j * 2, none⟩ = some (.string (kp (el j)).1) ∧ w.cell? ⟨b, j * 2 + 1, none⟩ = some (.iface (kp (el j)).2.1 (kp (el j)).2.2)) :
    SeqStopsK F n Tryz.prog 147 #[.pointer (some ⟨Bs, 0, none⟩)] (encK kp) (KpB b Bs) (fun ys => ys = upto el len len) (fun pre => ∃ k, k ≤ len ∧ pre = upto el len k) len w := fun l J Jx W hW _ _ hY h0 =>
  back1_in kp F n hf hro hn l Bs b len cap A hA el hreach J Jx hY W ((hW.cell (p := ⟨Bs, 0, none⟩) hBl).trans hBs)
    (fun j hj => ⟨(hW.cell (p := ⟨b, j * 2, none⟩) (hbl (by omega))).trans (hc j hj).1, (hW.cell (p := ⟨b, j * 2 + 1, none⟩) (hbl (by omega))).trans (hc j hj).2⟩) h0
end Mx
end Go.Proofs.YtnhcjgnohnedaaaGreatDoor

namespace Go.Proofs.YtnhcjgnohnedaaaGreatDoor
open Go.RowKit

namespace Mx
/-- As Holds, with the places of the parts named, and q for the bound of the meanings' number. -/
structure Undoes (w : World) (B b q : Nat) (M P : Nat → Prop) (y : Lay) (s : St) : Prop where
  env : Env0 w B
  low : ∀ k, M k → B ≤ k ∧ k < w.heap.size
  lowP : ∀ k, P k → B ≤ k ∧ k < w.heap.size ∧ ¬ M k
  hb : M b
  Bs : B ≤ w.heap.size
  cells : w.heap[b]? = some (.cells (cellsE y s) 48 (0, 0))
  rest : ∃ A c, y.vr = .slice A s.rest.length c ∧ s.rest.length ≤ c ∧ TokFix w (uni M P) A s.rest
  lists : PList w B M (uni M P) y.vl s.lists
  out : POut w B M y.vo s.out
  map : PMap w M (uni M P) y.mb s.means q
  groups : PGrp w B M (uni M P) y.vg s.groups
theorem Undoes.start {w : World} {B b σ : Nat} {M P : Nat → Prop} {y : Lay} {s : St} (H : Holds w B b σ M P s) (Pt : Parts w B b σ M (uni M P) y s) : Undoes w B b (1000 + 4 * s.steps - saved s - σ) M P y s :=
  ⟨H.env, H.low, H.lowP, H.hb, H.Bs, Pt.cells, Pt.rest, Pt.lists, Pt.out, Pt.pmap.1, Pt.groups⟩
theorem Undoes.keep {w w' : World} {B b q : Nat} {M P P' : Nat → Prop} {y : Lay} {s : St} (h : Undoes w B b q M P y s) (ht : Turns P w w') (hP : Grows w P P') (hl : ∀ k, P' k → B ≤ k ∧ k < w'.heap.size) : Undoes w' B b q M P' y s := by
  have hN : ∀ k, P k → uni M P k := fun _ h => Or.inr h
  have hne : ∀ k, M k → ¬ P k := fun k hm hp => (h.lowP k hp).2.2 hm
  have hG : Grows w (uni M P) (uni M P') := fun k hk => by
    rcases hk with hk | hk
    · exact Or.inl (Or.inl hk)
    · rcases hP k hk with h1 | h1
      · exact Or.inl (Or.inr h1)
      · exact Or.inr h1
  have hlP : ∀ k, P k → B ≤ k := fun k hk => (h.lowP k hk).1
  refine ⟨h.env.turn (ht.below hlP h.Bs), fun k hk => ⟨(h.low k hk).1, Nat.lt_of_lt_of_le (h.low k hk).2 ht.size⟩, fun k hk => ⟨(hl k hk).1, (hl k hk).2, fun hm => ?_⟩, h.hb, Nat.le_trans h.Bs ht.size, (ht.block b (h.low b h.hb).2 (hne b h.hb)).trans h.cells,
    Parts.turn_rest h.rest (ht.mono hN) hG, list_keep h.lists ht hN hG (fun _ h => h) (fun k hk => hne k (h.lists.choose_spec.2.1 k hk)), out_keep h.out ht (fun _ h => h) (fun k hk => hne k (h.out.2 k hk)), map_keep h.map ht hN hG (fun _ h => h) (hne _ h.map.1),
    grp_keep h.groups ht hN hG (fun _ h => h) (fun k hk => hne k (h.groups.choose_spec.2.1 k hk)) (fun k _ hm _ => hne k hm)⟩
  rcases hP k hk with h1 | h1
  · exact (h.lowP k h1).2.2 hm
  · have := (h.low k hm).2; omega
theorem Undoes.mapped {w w1 : World} {B b q : Nat} {M P P' : Nat → Prop} {y : Lay} {s : St} (H : Undoes w B b q M P y s) (hP : Grows w P P') (hl : ∀ k, P' k → B ≤ k ∧ k < w1.heap.size) {n : ByteArray} {D : DataW Value} {N : Nat} (hD : w.ownsMap Tryz.prog 9 rawElem y.mb N D)
    (hsp : ∀ s' : ByteArray, s'.size ≤ maxLen → (Maps.has D (.string s'.data.toList) = false ∧ s.means s' = .var) ∨ (Maps.has D (.string s'.data.toList) = true ∧ ∃ v, (∀ z, D.atKey (.string s'.data.toList) z = .held v) ∧ IsMean w (uni M P) v (s.means s')))
    (hN : N ≤ q) {v : Value} {m : Mean} (hm : IsMean w (uni M P) v m)
    (own1 : w1.ownsMap Tryz.prog 9 rawElem y.mb (N + 1) (D.put (.string n.data.toList) (.held v))) (gr1 : w.grownBy w1 (some y.mb)) : Undoes w1 B b (q + 1) M P' y (setMean n m s) ∧ Turns M w w1 := by
  have ht : Turns (fun k => some y.mb = some k) w w1 := Turns.of_grown gr1 (notExp_map hD)
  have hmM := H.map.1
  have hNM : ∀ k, (fun k => some y.mb = some k) k → M k := fun k hk => by injection hk with hk; rw [← hk]; exact hmM
  have hNX : ∀ k, (fun k => some y.mb = some k) k → uni M P k := fun k hk => Or.inl (hNM k hk)
  obtain ⟨es, clock, hes, -⟩ := id hD
  have nm : ∀ {k : Nat} {c : Array Value} {t : TypeId} {f : Nat × Nat}, w.heap[k]? = some (.cells c t f) → ¬ (some y.mb = some k) := fun hc e => by injection e with e; rw [← e, hes] at hc; cases hc
  refine ⟨?_, ht.mono hNM⟩
  have hG : Grows w (uni M P) (uni M P') := fun k hk => by
    rcases hk with hk | hk
    · exact Or.inl (Or.inl hk)
    · rcases hP k hk with h1 | h1
      · exact Or.inl (Or.inr h1)
      · exact Or.inr h1
  have hlow : ∀ k, P' k → ¬ M k := fun k hk hm => by
    rcases hP k hk with h1 | h1
    · exact (H.lowP k h1).2.2 hm
    · have := (H.low k hm).2; omega
  have key : ∀ s' : ByteArray, s' ≠ n → (Lit.string s'.data.toList) ≠ (Lit.string n.data.toList) := fun s' h e => by
    injection e with e; exact h (by rw [ba_list s', ba_list n, e])
  have hIs : Maps.IsMap D := hD.isMap
  have hkl : WideAt.IsKeyLit (Lit.string n.data.toList) := trivial
  refine ⟨H.env.turn (ht.below (fun k hk => (H.low k (hNM k hk)).1) H.Bs), fun k hk => ⟨(H.low k hk).1, Nat.lt_of_lt_of_le (H.low k hk).2 ht.size⟩, fun k hk => ⟨(hl k hk).1, (hl k hk).2, hlow k hk⟩, H.hb, Nat.le_trans H.Bs ht.size,
    (ht.block b (H.low b H.hb).2 (nm H.cells)).trans H.cells, Parts.turn_rest H.rest (ht.mono hNX) (hG),
    list_keep H.lists ht hNX (hG) (fun _ h => h) (fun k hk => by obtain ⟨cur, hc⟩ := row_ty H.lists.choose_spec.1 hk; exact nm hc), out_keep H.out ht (fun _ h => h) (fun k hk => by obtain ⟨cur, hc⟩ := row_ty H.out.1 hk; exact nm hc),
    ⟨hmM, N + 1, ⟨⟨_, own1, fun s' hs' => ?_⟩⟩, by omega⟩, grp_keep H.groups ht hNX (hG) (fun _ h => h) (fun k hk => by obtain ⟨cur, hc⟩ := row_ty H.groups.choose_spec.1 hk; exact nm hc) (fun k cur _ hc => nm hc)⟩
  by_cases e : s' = n
  · subst e
    refine Or.inr ⟨Maps.has_put_same hIs hkl _, v, fun z => Maps.atKey_put_same hIs hkl _ z, ?_⟩
    simp only [setMean, if_true]
    exact hm.turn (ht.mono hNX) (hG)
  · simp only [setMean, if_neg e]
    rcases hsp s' hs' with ⟨h1, h2⟩ | ⟨h1, v', h2, h3⟩
    · exact Or.inl ⟨by rw [Maps.has_put_other (key s' e)]; exact h1, h2⟩
    · exact Or.inr ⟨by rw [Maps.has_put_other (key s' e)]; exact h1, v', fun z => by rw [Maps.atKey_put_other (key s' e)]; exact h2 z, h3.turn (ht.mono hNX) (hG)⟩
theorem row_cut {w : World} {B : Nat} {e : TypeId} {g k cap : Nat} {xs : List Value} {v : Value} (h2 : w.ownsRow B e 1 (.slice (some ⟨g, 0, none⟩) (k + 1) cap) (k + 1) (xs ++ [v])) : w.ownsRow B e 1 (.slice (some ⟨g, 0, none⟩) k cap) k xs := by
  have hx : xs.length = k := by have := h2.1; simp at this; omega
  rcases h2.2 with ⟨hv, -⟩ | ⟨g', cap', cur, hv, hb, hgg, hn, hc, hs, ht⟩
  · cases hv
  · injection hv with hv1 hv2 hv3
    injection hv1 with hv1
    injection hv1 with hv1
    subst hv1 hv3
    refine ⟨by omega, .inr ⟨g, cap, cur, rfl, hb, hgg, by omega, hc, hs, ?_⟩⟩
    have := congrArg (List.take k) ht
    rw [List.take_take, List.take_append_of_le_length (by omega), List.take_of_length_le (l := xs) (by omega)] at this
    rwa [show min k ((k + 1) * 1) = k * 1 by omega] at this
theorem Undoes.done {w : World} {B b q σ : Nat} {M P : Nat → Prop} {y : Lay} {s : St} (h : Undoes w B b q M P y s) {g : List (ByteArray × Mean)} {gs : List (List (ByteArray × Mean))} (hg : s.groups = g :: gs) {gg cap : Nat} (hv : y.vg = .slice (some ⟨gg, 0, none⟩) (gs.length + 1) cap)
    (hq : q + (gs.map List.length).sum + σ ≤ 1000 + 4 * s.steps) (lastf : s.last.fit) (b1 : s.steps ≤ 200000) (b2 : s.out.length ≤ 20000) (b3 : s.lists.length ≤ 200) (b4 : s.groups.length + σ ≤ 1000 + 4 * s.steps) (b5 : s.rest.length ≤ 9223372036854775807) :
    Holds (w.setCell ⟨b, 10, none⟩ (.slice (some ⟨gg, 0, none⟩) gs.length cap)) B b σ M P { s with groups := gs } ∧ Turns M w (w.setCell ⟨b, 10, none⟩ (.slice (some ⟨gg, 0, none⟩) gs.length cap)) := by
  have ht : Turns (Mx.only b) w (w.setCell ⟨b, 10, none⟩ (.slice (some ⟨gg, 0, none⟩) gs.length cap)) := Turns.set1 w b 10 _
  have hN : ∀ k, Mx.only b k → M k := fun k hk => by rw [hk]; exact h.hb
  have hNX : ∀ k, Mx.only b k → uni M P k := fun k hk => Or.inl (hN k hk)
  have nb : ∀ {k : Nat} {c : Array Value} {t : TypeId} {f : Nat × Nat}, w.heap[k]? = some (.cells c t f) → t ≠ 48 → ¬ Mx.only b k := fun hc h1 e => by
    have e' : _ = b := e
    rw [e'] at hc; exact h1 (heap_inj hc h.cells)
  obtain ⟨xs, hx1, hx2, hx3⟩ := h.groups
  rw [hg] at hx1 hx3
  rw [List.reverse_cons, List.map_append] at hx3
  obtain ⟨xs', v, cs, rfl, hgs, ho, hm, hs, -⟩ := hx3.snoc
  rw [hv] at hx1 hx2
  have hcut := row_cut hx1
  have hgM : M gg := hx2 gg rfl
  refine ⟨?_, ht.mono hN⟩
  refine Holds.mk' (y := { y with vg := .slice (some ⟨gg, 0, none⟩) gs.length cap }) (h.env.turn (ht.below (fun k hk => (h.low k (hN k hk)).1) h.Bs)) (fun k hk => ⟨(h.low k hk).1, Nat.lt_of_lt_of_le (h.low k hk).2 ht.size⟩) (fun k hk => ⟨(h.lowP k hk).1, Nat.lt_of_lt_of_le (h.lowP k hk).2.1 ht.size, (h.lowP k hk).2.2⟩) h.hb (Nat.le_trans h.Bs ht.size)
    (heap_set w b 10 _ _ _ h.cells) (Parts.turn_rest h.rest (ht.mono hNX) (Grows.refl _ _))
    (list_keep h.lists ht hNX (Grows.refl _ _) (fun _ h => h) (fun k hk => by obtain ⟨cur, hc⟩ := row_ty h.lists.choose_spec.1 hk; exact nb hc (by decide)))
    (out_keep h.out ht (fun _ h => h) (fun k hk => by obtain ⟨cur, hc⟩ := row_ty h.out.1 hk; exact nb hc (by decide))) ?_ ?_ ?_ lastf b1 b2 b3 ?_ b5
  · obtain ⟨hm, n, hmap, hn⟩ := h.map
    obtain ⟨D, hD, -⟩ := hmap.ex
    exact (map_keep ⟨hm, n, hmap, hn⟩ ht hNX (Grows.refl _ _) (fun _ h => h) (fun e => by have e' : _ = b := e; exact map_ne hD h.cells e')).mono (by show _ ≤ 1000 + 4 * s.steps - (gs.map List.length).sum - σ; omega)
  · show (gs.map List.length).sum + σ ≤ 1000 + 4 * s.steps; omega
  · refine ⟨xs', row_keep hcut (fun k hk => by simp [Value.ownBlock] at hk; subst hk; obtain ⟨cur, hc⟩ := row_ty hx1 (k := gg) rfl; exact ht.block gg (Array.getElem?_eq_some_iff.1 hc).1 (nb hc (by decide))), fun k hk => by simp [Value.ownBlock] at hk; subst hk; exact hgM, hgs.turn (ht.mono hNX) (Grows.refl _ _) (fun _ h => h) (fun u hu k hk => ?_)⟩
    obtain ⟨cur, hc⟩ := hgs.rows u hu k hk
    exact ht.block k (Array.getElem?_eq_some_iff.1 hc).1 (nb hc (by decide))
  · show gs.length + σ ≤ 1000 + 4 * s.steps; rw [hg] at b4; simp at b4; omega
end Mx
end Go.Proofs.YtnhcjgnohnedaaaGreatDoor
