/-
  Contracts of package macro: the arguments of a macro.
  Package macro: a list is put on an expander's lists.
-/
import Derived.Test.YtnhcjgnohnedaaaGreatDoorMxW
import Derived.Test.YtnhcjgnohnedaaaGreatDoorMxVb
import Derived.Test.YtnhcjgnohnedaaaGreatDoorMxWb
namespace Go.Proofs.YtnhcjgnohnedaaaGreatDoor
open Go.RowKit

namespace Mx
theorem argument_steps : ∀ (f : Nat) {text : Bool} {op : List ByteArray} {acc : List Tv} {s s1 : St} {r : List Tv × Tv}, argument f text op acc s = .ok r s1 → s.steps + 1 ≤ s1.steps
  | 0, _, _, _, _, _, _, h => by simp [argument, early] at h
  | f + 1, text, op, acc, s, s1, r, h => by
    cases hr : read s with
    | bad e => rw [arg_bad hr] at h; cases h
    | ok x s2 =>
      have h2 := read_steps hr
      by_cases hk : x.k = 4
      · by_cases hret : (x.t = str [41] ∨ (x.t = str [44] ∧ text = false)) ∧ op = []
        · rw [arg_ret hr hk hret] at h; injection h with h3 h4; subst h4; omega
        · cases hb : bracketed op x with
          | none => rw [arg_none hr hk hret hb] at h; cases h
          | some op' => rw [arg_some hr hk hret hb] at h; have := argument_steps f h; omega
      · rw [arg_k hr hk] at h; have := argument_steps f h; omega
theorem readSign_steps {s s1 : St} {z : ByteArray} (h : readSign z s = .ok () s1) : s1.steps = s.steps + 1 := by
  cases hr : read s with
  | bad e => rw [readSign_bad hr] at h; cases h
  | ok x s2 =>
    cases hi : isSign x z
    · rw [readSign_no hr hi] at h; cases h
    · rw [readSign_ok hr hi] at h; injection h with h3 h4; subst h4; exact read_steps hr
/-- What is left of a group's arguments, and of the groups behind it. -/
def rest2 (f : Nat) (text : Bool) (k : Nat) (acc : List (List Tv)) (gs : List Par) (s : St) : Res (List (List Tv)) := (args1 f text k acc >>= fun acc => args f gs acc) s
theorem args_nil {f : Nat} {acc : List (List Tv)} {s : St} : args f [] acc s = .ok acc s := rfl
theorem args_bad {f : Nat} {g : Par} {gs : List Par} {acc : List (List Tv)} {s : St} {e : Flt} (h : readSign (str [40]) s = .bad e) : args f (g :: gs) acc s = .bad e := by simp [args, bind, M.bind, h]
theorem args_ok {f : Nat} {g : Par} {gs : List Par} {acc : List (List Tv)} {s s1 : St} (h : readSign (str [40]) s = .ok () s1) : args f (g :: gs) acc s = rest2 f g.text g.count acc gs s1 := by simp [args, rest2, bind, M.bind, h]
theorem rest2_zero {f : Nat} {text : Bool} {acc : List (List Tv)} {gs : List Par} {s : St} : rest2 f text 0 acc gs s = args f gs acc s := rfl
theorem rest2_bad {f k : Nat} {text : Bool} {acc : List (List Tv)} {gs : List Par} {s : St} {e : Flt} (h : argument f text [] [] s = .bad e) : rest2 f text (k + 1) acc gs s = .bad e := by simp [rest2, args1, bind, M.bind, h]
theorem rest2_no {f k : Nat} {text : Bool} {acc : List (List Tv)} {gs : List Par} {s s1 : St} {r : List Tv × Tv} (h : argument f text [] [] s = .ok r s1) (hd : isSign r.2 (if k = 0 then str [41] else str [44]) = false) : rest2 f text (k + 1) acc gs s = .bad (failAt 11 r.2) := by
  simp [rest2, args1, bind, M.bind, h, demand, hd, bad]
theorem rest2_ok {f k : Nat} {text : Bool} {acc : List (List Tv)} {gs : List Par} {s s1 : St} {r : List Tv × Tv} (h : argument f text [] [] s = .ok r s1) (hd : isSign r.2 (if k = 0 then str [41] else str [44]) = true) : rest2 f text (k + 1) acc gs s = rest2 f text k (acc ++ [r.1]) gs s1 := by
  simp [rest2, args1, bind, M.bind, h, demand, hd, pure]
/-- Arguments, by their values. -/
def ArgVals (w : World) (X : Nat → Prop) : List Value → List (List Tv) → Prop
  | [], [] => True
  | v :: vs, l :: ls => (∃ A c, v = .slice A l.length c ∧ (A = none → c = 0 ∧ l = []) ∧ TokFix w X A l ∧ l.length ≤ 200000) ∧ ArgVals w X vs ls
  | _, _ => False
theorem ArgVals.turn {w w' : World} {X X' : Nat → Prop} (ht : Turns X w w') (hX : Grows w X X') : ∀ {vs : List Value} {ls : List (List Tv)}, ArgVals w X vs ls → ArgVals w' X' vs ls
  | [], [], _ => trivial
  | _ :: _, _ :: _, ⟨⟨A, c, e, hc, h, hq⟩, hr⟩ => ⟨⟨A, c, e, hc, h.turn ht hX, hq⟩, hr.turn ht hX⟩
  | [], _ :: _, h => h.elim
  | _ :: _, [], h => h.elim
theorem ArgVals.push {w : World} {X : Nat → Prop} {l : List Tv} {v : Value} (hl : ∃ A c, v = .slice A l.length c ∧ (A = none → c = 0 ∧ l = []) ∧ TokFix w X A l ∧ l.length ≤ 200000) : ∀ {vs : List Value} {ls : List (List Tv)}, ArgVals w X vs ls → ArgVals w X (vs ++ [v]) (ls ++ [l])
  | [], [], _ => ⟨hl, trivial⟩
  | _ :: _, _ :: _, ⟨h, hr⟩ => ⟨h, hr.push hl⟩
  | [], _ :: _, h => h.elim
  | _ :: _, [], h => h.elim
theorem ArgVals.get {w : World} {X : Nat → Prop} : ∀ {vs : List Value} {ls : List (List Tv)}, ArgVals w X vs ls → ∀ (j : Nat) (l : List Tv), ls[j]? = some l → ∃ A c, vs[j]? = some (.slice A l.length c) ∧ (A = none → c = 0 ∧ l = []) ∧ TokFix w X A l ∧ l.length ≤ 200000
  | [], [], _, j, l, h => by simp at h
  | v :: vs, m :: ls, ⟨⟨A, c, e, hc, hf, hq⟩, hr⟩, 0, l, h => by simp at h; subst h; exact ⟨A, c, by rw [e]; rfl, hc, hf, hq⟩
  | v :: vs, m :: ls, ⟨_, hr⟩, j + 1, l, h => by
    obtain ⟨A, c, h1, h2⟩ := hr.get j l (by simpa using h)
    exact ⟨A, c, by simpa using h1, h2⟩
  | [], _ :: _, h, _, _, _ => h.elim
  | _ :: _, [], h, _, _, _ => h.elim
/-- Between two arguments. -/
structure RSt (w : World) (B b σ : Nat) (M P : Nat → Prop) (x : Tv) (va : Value) (wr : World) (acc : List (List Tv)) (s' : St) (M' : Nat → Prop) : Prop where
  H : Holds wr B b σ M' (row (also P w.heap.size) va) s'
  G : Grows w M M'
  T : Turns M w wr
  tb : wr.heap[w.heap.size]? = some (.cells #[.int .i64 x.k, .string x.t, .int .i64 x.p, .int .i64 x.q, .int .i64 x.a, .int .i64 x.c] 41)
  own : ∃ xs, wr.ownsRow B 22 1 va acc.length xs ∧ ArgVals wr (uni M' (row (also P w.heap.size) va)) xs acc
  nw : ∀ k, va.ownBlock = some k → w.heap.size < k
  len : acc.length ≤ s'.steps
  dis : ∀ k, va.ownBlock = some k → ¬ P k
theorem RSt.turn {w : World} {B b σ : Nat} {M P M' M1 : Nat → Prop} {x : Tv} {va : Value} {wr w1 : World} {acc : List (List Tv)} {s' s1 : St} (h : RSt w B b σ M P x va wr acc s' M') (hG : Grows wr M' M1) (ht : Turns M' wr w1) (H1 : Holds w1 B b σ M1 (row (also P w.heap.size) va) s1) (hs : s'.steps ≤ s1.steps) : RSt w B b σ M P x va w1 acc s1 M1 := by
  obtain ⟨xs, h1, h2⟩ := h.own
  have hp := h.H.lowP
  refine ⟨H1, h.G.trans hG h.T.size, h.T.trans h.G ht, (ht.block _ (hp _ (Or.inl (Or.inr rfl))).2.1 (hp _ (Or.inl (Or.inr rfl))).2.2).trans h.tb, ⟨xs, row_keep h1 (fun k hk => ht.block k (hp k (Or.inr hk)).2.1 (hp k (Or.inr hk)).2.2), h2.turn (ht.mono (fun k hk => Or.inl hk)) (fun k hk => ?_)⟩, h.nw, Nat.le_trans h.len hs, h.dis⟩
  rcases hk with hk | hk
  · rcases hG k hk with h3 | h3
    · exact Or.inl (Or.inl h3)
    · exact Or.inr h3
  · exact Or.inl (Or.inr hk)
theorem RSt.below {w : World} {B b σ : Nat} {M P M' : Nat → Prop} {x : Tv} {va : Value} {wr w1 : World} {acc : List (List Tv)} {s' : St} (h : RSt w B b σ M P x va wr acc s' M') (hb : Below wr.heap.size wr w1) : RSt w B b σ M P x va w1 acc s' M' :=
  h.turn (Grows.refl _ _) (Turns.of_below hb _) (h.H.below hb) (Nat.le_refl _)
/-- An argument more. -/
theorem RSt.push {w : World} {B b σ : Nat} {M P M' : Nat → Prop} {x : Tv} {va v1 v : Value} {wr w3 : World} {acc : List (List Tv)} {xs : List Value} {l : List Tv} {s' : St} (h : RSt w B b σ M P x va wr acc s' M') (h2 : ArgVals wr (uni M' (row (also P w.heap.size) va)) xs acc)
    (hl : ∃ A c, v = .slice A l.length c ∧ (A = none → c = 0 ∧ l = []) ∧ TokFix wr (uni M' (row (also P w.heap.size) va)) A l ∧ l.length ≤ 200000)
    (own1 : w3.ownsRow B 22 1 v1 (acc.length + 1) (xs ++ [v])) (gr1 : wr.grownBy w3 va.ownBlock) (loc1 : v1.ownBlock = va.ownBlock ∨ ∃ g, v1.ownBlock = some g ∧ wr.heap.size ≤ g) (hlen : acc.length + 1 ≤ s'.steps) : RSt w B b σ M P x v1 w3 (acc ++ [l]) s' M' := by
  have hsz : w.heap.size < wr.heap.size := (Array.getElem?_eq_some_iff.1 h.tb).1
  have hvz : va.ownBlock ≠ some w.heap.size := fun e => by have := h.nw _ e; omega
  have hX : Turns (uni M' (row (also P w.heap.size) va)) wr w3 := (Turns.of_grown gr1 (notExp_row h.own.choose_spec.1 (by decide))).mono (fun k hk => Or.inr (Or.inr hk))
  have hGX : Grows wr (uni M' (row (also P w.heap.size) va)) (uni M' (row (also P w.heap.size) v1)) := fun k hk => by
    rcases hk with hk | hk | hk
    · exact Or.inl (Or.inl hk)
    · exact Or.inl (Or.inr (Or.inl hk))
    · rcases loc1 with e | ⟨g, e, hg⟩
      · exact Or.inl (Or.inr (Or.inr (e ▸ hk)))
      · rw [e] at hk; injection hk with hk; subst hk; exact Or.inr hg
  refine ⟨h.H.grew gr1 (loc1.imp id (fun e => Or.inr e)) (fun k hk => (World.ownsRow.lt own1 k hk).2) (notExp_row h.own.choose_spec.1 (by decide)), h.G, ?_, (gr1.block _ hsz (fun e => hvz e.symm)).trans h.tb, ⟨xs ++ [v], by rw [List.length_append]; exact own1, (h2.push hl).turn hX hGX⟩, ?_, by rw [List.length_append]; exact hlen, fun k hk hp => ?_⟩
  · exact ⟨gr1.os.trans h.T.os, gr1.tape.trans h.T.tape, gr1.output.trans h.T.output, Nat.le_trans h.T.size gr1.size, fun k hk hn => (gr1.block k (Nat.lt_of_lt_of_le hk h.T.size) (fun e => by have := h.nw k e.symm; omega)).trans (h.T.block k hk hn), fun k c hc => by
      obtain ⟨c1, h1, e1⟩ := h.T.exp k c hc
      have hk := (Array.getElem?_eq_some_iff.1 hc).1
      exact ⟨c1, (gr1.block k (Nat.lt_of_lt_of_le hk h.T.size) (fun e => by have := h.nw k e.symm; omega)).trans h1, e1⟩⟩
  · intro k hk
    rcases loc1 with e | ⟨g, e, hg⟩
    · exact h.nw k (e ▸ hk)
    · rw [e] at hk; injection hk with hk; omega
  · rcases loc1 with e | ⟨g, e, hg⟩
    · exact h.dis k (e ▸ hk) hp
    · rw [e] at hk; injection hk with hk; have := (h.H.lowP k (Or.inl (Or.inl hp))).2.1; omega
/-- A block more of the caller's own; and given back. -/
theorem RSt.own' {w : World} {B b σ : Nat} {M P M' : Nat → Prop} {x : Tv} {va : Value} {wr : World} {acc : List (List Tv)} {s' : St} (h : RSt w B b σ M P x va wr acc s' M') (o : Obj) : RSt w B b σ M (also P wr.heap.size) x va (wr.alloc o) acc s' M' := by
  obtain ⟨xs, h1, h2⟩ := h.own
  have hlt : ∀ k, va.ownBlock = some k → k < wr.heap.size := fun k hk => (World.ownsRow.lt h1 k hk).2
  refine ⟨(h.H.own o).less (fun k hk => ?_), h.G, h.T.then (Turns.alloc M wr o), blk_alloc h.tb o, ⟨xs, World.ownsRow.alloc h1 o, h2.turn (Turns.alloc _ _ _) (fun k hk => ?_)⟩, h.nw, h.len, fun k hk hp => ?_⟩
  · rcases hk with ((hk | hk) | hk) | hk
    · exact Or.inl (Or.inl (Or.inl hk))
    · exact Or.inr hk
    · exact Or.inl (Or.inl (Or.inr hk))
    · exact Or.inl (Or.inr hk)
  · rcases hk with hk | ((hk | hk) | hk) | hk
    · exact Or.inl (Or.inl hk)
    · exact Or.inl (Or.inr (Or.inl (Or.inl hk)))
    · exact Or.inr (Nat.le_of_eq hk.symm)
    · exact Or.inl (Or.inr (Or.inl (Or.inr hk)))
    · exact Or.inl (Or.inr (Or.inr hk))
  · rcases hp with hp | hp
    · exact h.dis k hk hp
    · have := hlt k hk; omega
theorem RSt.back {w : World} {B b σ g : Nat} {M P M' : Nat → Prop} {x : Tv} {va : Value} {wr : World} {acc : List (List Tv)} {s' : St} (h : RSt w B b σ M (also P g) x va wr acc s' M') : RSt w B b σ M P x va wr acc s' M' := by
  obtain ⟨xs, h1, h2⟩ := h.own
  have hs : ∀ k, row (also P w.heap.size) va k → row (also (also P g) w.heap.size) va k := fun k hk => by
    rcases hk with (hk | hk) | hk
    · exact Or.inl (Or.inl (Or.inl hk))
    · exact Or.inl (Or.inr hk)
    · exact Or.inr hk
  exact ⟨h.H.less hs, h.G, h.T, h.tb, ⟨xs, h1, h2.turn (Turns.refl _ _) (fun k hk => Or.inl (hk.imp id (hs k)))⟩, h.nw, h.len, fun k hk hp => h.dis k hk (Or.inl hp)⟩
theorem RSt.args {w : World} {B b σ : Nat} {M P M' : Nat → Prop} {x : Tv} {va : Value} {wr : World} {acc : List (List Tv)} {s' : St} (h : RSt w B b σ M P x va wr acc s' M') : ∃ A c, va = .slice A acc.length c ∧ ArgsFix wr (uni M' (also P w.heap.size)) A acc := by
  obtain ⟨xs, h1, h2⟩ := h.own
  have hgr : Grows wr (uni M' (row (also P w.heap.size) va)) (uni M' (also P w.heap.size)) := fun k hk => by
    rcases hk with hk | hk
    · exact Or.inl (Or.inl hk)
    · exact Or.inl (Or.inr (Or.inl hk))
  have h3 := h2.turn (Turns.refl _ _) hgr
  rcases h1.2 with ⟨e, h0⟩ | ⟨g, cap, cur, e, hB, hg, hn, hc, hs, ht⟩
  · exact ⟨none, 0, by rw [e, h0], fun h => by omega⟩
  · refine ⟨some ⟨g, 0, none⟩, cap, e, fun _ => ⟨g, rfl, ⟨(Array.getElem?_eq_some_iff.1 hg).1, fun hx => ?_⟩, fun j l hj => ?_⟩⟩
    · have hk : va.ownBlock = some g := by rw [e]; rfl
      rcases hx with hx | hx | hx
      · exact (h.H.lowP g (Or.inr hk)).2.2 hx
      · exact h.dis g hk hx
      · have := h.nw g hk; omega
    · obtain ⟨A, c, q1, q2⟩ := h3.get j l hj
      have h1' := h1
      rw [e] at h1'
      exact ⟨A, c, (World.ownsRow.cellAt h1' j (by have := (List.getElem?_eq_some_iff.1 hj).1; omega)).trans q1, q2⟩
end Mx
end Go.Proofs.YtnhcjgnohnedaaaGreatDoor

namespace Go.Proofs.YtnhcjgnohnedaaaGreatDoor
open Go.RowKit

namespace Mx
theorem Holds.listed {w W w1 : World} {B b σ : Nat} {M P : Nat → Prop} {s : St} {y : Lay} (H : Holds w B b σ M P s) (Pt : Parts w B b σ M (uni M P) y s) {l : List Tv} {v : Value} (hl : ∃ A c, v = .slice A l.length c ∧ l.length ≤ c ∧ TokFix w (uni M P) A l ∧ 0 < l.length ∧ l.length ≤ 20000) (hW : Below w.heap.size w W)
    {xs : List Value} {g1 cap1 n0 : Nat} (hn0 : n0 = s.lists.length) (hls : Lists w (uni M P) xs s.lists.reverse) (own1 : w1.ownsRow B 22 1 (.slice (some ⟨g1, 0, none⟩) (n0 + 1) cap1) (n0 + 1) (xs ++ [v])) (gr1 : W.grownBy w1 y.vl.ownBlock) (loc1 : some g1 = y.vl.ownBlock ∨ some g1 = some W.heap.size) :
    Turns M w (w1.setCell ⟨b, 1, none⟩ (.slice (some ⟨g1, 0, none⟩) (n0 + 1) cap1)) ∧ (s.lists.length < 200 → ∃ M', Grows w M M' ∧ Holds (w1.setCell ⟨b, 1, none⟩ (.slice (some ⟨g1, 0, none⟩) (n0 + 1) cap1)) B b σ M' P { s with lists := l :: s.lists }) := by
  subst hn0
  obtain ⟨xs0, hx0, hx0M, -⟩ := Pt.lists
  let N : Nat → Prop := fun k => k = b ∨ y.vl.ownBlock = some k
  let M' : Nat → Prop := fun k => M k ∨ k = g1
  have hbM := H.hb
  have hN : ∀ k, N k → M k := fun k hk => by rcases hk with hk | hk; rw [hk]; exact hbM; exact hx0M k hk
  have t1 : Turns N w w1 := (Turns.of_below hW N).then ((Turns.of_grown gr1 ((notExp_row hx0 (by decide)).below hW (fun k hk => (World.ownsRow.lt hx0 k hk).2))).mono (fun k h => Or.inr h))
  have t2 : Turns N w (w1.setCell ⟨b, 1, none⟩ (.slice (some ⟨g1, 0, none⟩) (s.lists.length + 1) cap1)) := t1.then (Turns.setCell (M := N) w1 (p := ⟨b, 1, none⟩) (Or.inl rfl) _)
  have hsz : (w1.setCell ⟨b, 1, none⟩ (.slice (some ⟨g1, 0, none⟩) (s.lists.length + 1) cap1)).heap.size = w1.heap.size := by simp [World.setCell]
  have hg1 := World.ownsRow.lt own1 g1 rfl
  have hgM : M g1 ∨ w.heap.size ≤ g1 := by
    rcases loc1 with h | h
    · exact Or.inl (hx0M g1 h.symm)
    · injection h with h; exact Or.inr (by rw [h]; exact hW.size)
  have hG : Grows w M M' := fun k hk => by rcases hk with hk | hk; exact Or.inl hk; rw [hk]; exact hgM
  have hGX : Grows w (uni M P) (uni M' P) := fun k hk => by
    rcases hk with hk | hk
    · rcases hG k hk with h | h
      · exact Or.inl (Or.inl h)
      · exact Or.inr h
    · exact Or.inl (Or.inr hk)
  have hNX : ∀ k, N k → uni M P k := fun k hk => Or.inl (hN k hk)
  have hMM : ∀ k, M k → M' k := fun k hk => Or.inl hk
  have vl_ne : ∀ {g : Nat} {c : Array Value} {t : TypeId} {f : Nat × Nat}, w.heap[g]? = some (.cells c t f) → 22 ≠ t → y.vl.ownBlock ≠ some g := fun hg ht e => row_ne hx0 hg ht _ e rfl
  have hbw : w1.heap[b]? = w.heap[b]? := by
    have t0 : Turns (fun k => y.vl.ownBlock = some k) w w1 := (Turns.of_below hW _).then (Turns.of_grown gr1 ((notExp_row hx0 (by decide)).below hW (fun k hk => (World.ownsRow.lt hx0 k hk).2)))
    exact t0.block b (H.low b hbM).2 (vl_ne Pt.cells (by decide))
  have hgb : g1 ≠ b := fun e => by
    obtain ⟨cur, hcur⟩ := row_ty own1 (k := g1) rfl
    have := hbw.trans Pt.cells
    rw [← e, hcur] at this
    injection this with this
    injection this with _ h2
    exact absurd h2 (by decide)
  have nb : ∀ k, k ≠ b → y.vl.ownBlock ≠ some k → ¬ N k := fun k h1 h2 h => by rcases h with h | h; exact h1 h; exact h2 h
  have nbt : ∀ {k : Nat} {c : Array Value} {t : TypeId} {f : Nat × Nat}, w.heap[k]? = some (.cells c t f) → t ≠ 48 → 22 ≠ t → ¬ N k := fun hc h1 h2 => nb _ (fun e => by rw [e] at hc; exact h1 (heap_inj hc Pt.cells)) (vl_ne hc h2)
  have hbl := Pt.pmap
  refine ⟨t2.mono hN, fun h200 => ⟨M', hG, ?_⟩⟩
  refine Holds.mk' (y := { y with vl := .slice (some ⟨g1, 0, none⟩) (s.lists.length + 1) cap1 }) (H.env.turn (t2.below (fun k hk => (H.low k (hN k hk)).1) H.Bs)) (fun k hk => ?_) (fun k hk => ⟨(H.lowP k hk).1, Nat.lt_of_lt_of_le (H.lowP k hk).2.1 t2.size, fun hm => ?_⟩) (hMM b hbM) (Nat.le_trans H.Bs t2.size)
    (heap_set w1 b 1 _ _ _ (hbw.trans Pt.cells)) (Parts.turn_rest Pt.rest (t2.mono hNX) hGX) ?_
    (out_keep Pt.out t2 hMM (fun k hk => by obtain ⟨cur, hc⟩ := row_ty Pt.out.1 hk; exact nbt hc (by decide) (by decide))) ?_ hbl.2
    (grp_keep Pt.groups t2 hNX hGX hMM (fun k hk => by obtain ⟨cur, hc⟩ := row_ty Pt.groups.choose_spec.1 hk; exact nbt hc (by decide) (by decide)) (fun k cur _ hcur => nbt hcur (by decide) (by decide))) H.lastf H.b1 H.b2 ?_ H.b4 H.b5
  · rcases hk with hk | hk
    · exact ⟨(H.low k hk).1, Nat.lt_of_lt_of_le (H.low k hk).2 t2.size⟩
    · rw [hk, hsz]; exact hg1
  · rcases hm with hm | hm
    · exact (H.lowP k hk).2.2 hm
    · rcases hgM with h | h
      · exact (H.lowP k hk).2.2 (hm ▸ h)
      · have := (H.lowP k hk).2.1; omega
  · refine ⟨xs ++ [v], ?_, fun k hk => Or.inr (by simp [Value.ownBlock] at hk; exact hk.symm), ?_⟩
    · show (w1.setCell ⟨b, 1, none⟩ (.slice (some ⟨g1, 0, none⟩) (s.lists.length + 1) cap1)).ownsRow B 22 1 (.slice (some ⟨g1, 0, none⟩) (s.lists.length + 1) cap1) (s.lists.length + 1) (xs ++ [v])
      exact row_keep own1 (fun k hk => by simp [Value.ownBlock] at hk; subst hk; exact Below.heap_setCell w1 ⟨b, 1, none⟩ _ g1 hgb)
    · rw [List.reverse_cons]
      obtain ⟨A, c, e, h1, h2, h3, h4⟩ := hl
      exact (hls.turn (t2.mono hNX) hGX).push ⟨A, c, e, h1, h2.turn (t2.mono hNX) hGX, h3, h4⟩
  · obtain ⟨hm, n, hmap, hn⟩ := hbl.1
    obtain ⟨D, hD, hsp⟩ := hmap.ex
    obtain ⟨es, clock, hes, hrest⟩ := hD
    exact map_keep ⟨hm, n, hmap, hn⟩ t2 hNX hGX hMM (nb _ (fun e => by rw [e, Pt.cells] at hes; cases hes) (fun e => by obtain ⟨cur, hc⟩ := row_ty hx0 e; rw [hc] at hes; cases hes))
  · show (l :: s.lists).length ≤ 200; simp; omega
end Mx
end Go.Proofs.YtnhcjgnohnedaaaGreatDoor
