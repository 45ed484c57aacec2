/-
  Contracts of package macro: the next token, on an expander.
  Contracts of package macro: the next token, on an expander.
  Contracts of package macro: the next token out of a list; whatever the next token is.
  Contracts of package macro: a token that has to be there.
-/
import Derived.Test.YtnhcjgnohnedaaaGreatDoorMxE
namespace Go.Proofs.YtnhcjgnohnedaaaGreatDoor
open Go.RowKit

namespace Mx
theorem Parts.turn_rest {w w' : World} {M M' : Nat → Prop} {v : Value} {l : List Tv} (h : ∃ A c, v = .slice A l.length c ∧ l.length ≤ c ∧ TokFix w M A l) (ht : Turns M w w') (hM : Grows w M M') : ∃ A c, v = .slice A l.length c ∧ l.length ≤ c ∧ TokFix w' M' A l := by
  obtain ⟨A, c, e, hc, h⟩ := h; exact ⟨A, c, e, hc, h.turn ht hM⟩
theorem TokOwn.keep {w w' : World} {B : Nat} {v : Value} {l : List Tv} (h : TokOwn w B v l) (hk : ∀ k, v.ownBlock = some k → w'.heap[k]? = w.heap[k]?) : TokOwn w' B v l := row_keep h hk
theorem head_at {w : World} {ad : Addr} {x : Tv} {l : List Tv} (h : ∀ j y, (x :: l)[j]? = some y → TokAt w (ad.add (j * 6)) y) : TokAt w ad x := by
  have := h 0 x rfl
  rwa [Nat.zero_mul, show ad.add 0 = ad from rfl] at this
theorem TokFix.tail {w : World} {M : Nat → Prop} {ad : Addr} {x : Tv} {l : List Tv} (h : TokFix w M (some ad) (x :: l)) (A' : Option Addr) (hA : 0 < l.length → A' = some (ad.add 6)) : TokFix w M A' l :=
  ⟨fun hn => by
    obtain ⟨ad', e, hs, hc⟩ := h.1 (by simp)
    injection e with e; subst e
    refine ⟨ad.add 6, hA hn, by rw [block_of_add]; exact hs, fun j y hj => ?_⟩
    have := hc (j + 1) y (by simpa using hj)
    rwa [add_of_add, show 6 + j * 6 = (j + 1) * 6 by omega], fun y hy => h.2 y (by simp [hy])⟩
/-- The types of the rows tell them apart. -/
theorem ty_ne {w : World} {g1 g2 : Nat} {c1 c2 : Array Value} {t1 t2 : TypeId} {f1 f2 : Nat × Nat} (h1 : w.heap[g1]? = some (.cells c1 t1 f1)) (h2 : w.heap[g2]? = some (.cells c2 t2 f2)) (ht : t1 ≠ t2) : g1 ≠ g2 := fun e => by
  subst e; exact ht (heap_inj h1 h2)
theorem row_ne {w : World} {B : Nat} {e : TypeId} {z : Nat} {v : Value} {n : Nat} {xs : List Value} (h : w.ownsRow B e z v n xs) {g : Nat} {c : Array Value} {t : TypeId} {f : Nat × Nat} (hg : w.heap[g]? = some (.cells c t f)) (ht : e ≠ t) : ∀ k, v.ownBlock = some k → k ≠ g := fun k hk => by
  obtain ⟨cur, hc⟩ := row_ty h hk
  exact ty_ne hc hg ht
theorem map_ne {w : World} {P : Program} {K : TypeId} {R : Value → Option (DataW Value × List MemPlace)} {mb n : Nat} {D : DataW Value} (h : w.ownsMap P K R mb n D) {g : Nat} {c : Array Value} {t : TypeId} {f : Nat × Nat} (hg : w.heap[g]? = some (.cells c t f)) : mb ≠ g := fun e => by
  obtain ⟨es, clock, hh, -⟩ := h
  subst e; rw [hg] at hh; cases hh
theorem Grps.rows {w : World} {B : Nat} {M X : Nat → Prop} : ∀ {vs : List Value} {gs : List (List (ByteArray × Mean))}, Grps w B M X vs gs → ∀ v ∈ vs, ∀ k, v.ownBlock = some k → ∃ cur, w.heap[k]? = some (.cells cur 162 (0, 0))
  | [], [], _, v, hv, _, _ => by simp at hv
  | u :: vs, _ :: _, ⟨⟨_, ho, _, _, _⟩, hr⟩, v, hv, k, hk => by
    rcases List.mem_cons.1 hv with rfl | hv
    · exact row_ty ho hk
    · exact hr.rows v hv k hk
  | [], _ :: _, h, _, _, _, _ => h.elim
  | _ :: _, [], h, _, _, _, _ => h.elim
theorem Grps.mem {w : World} {B : Nat} {M X : Nat → Prop} : ∀ {vs : List Value} {gs : List (List (ByteArray × Mean))}, Grps w B M X vs gs → ∀ v ∈ vs, ∀ k, v.ownBlock = some k → M k
  | [], [], _, v, hv, _, _ => by simp at hv
  | u :: vs, _ :: _, ⟨⟨_, _, hm, _, _⟩, hr⟩, v, hv, k, hk => by
    rcases List.mem_cons.1 hv with rfl | hv
    · exact hm k hk
    · exact hr.mem v hv k hk
  | [], _ :: _, h, _, _, _, _ => h.elim
  | _ :: _, [], h, _, _, _, _ => h.elim
abbrev PList (w : World) (B : Nat) (M X : Nat → Prop) (v : Value) (ls : List (List Tv)) : Prop := ∃ xs, w.ownsRow B 22 1 v ls.length xs ∧ (∀ k, v.ownBlock = some k → M k) ∧ Lists w X xs ls.reverse
abbrev POut (w : World) (B : Nat) (M : Nat → Prop) (v : Value) (l : List Tv) : Prop := TokOwn w B v l ∧ (∀ k, v.ownBlock = some k → M k)
abbrev PMap (w : World) (M X : Nat → Prop) (mb : Nat) (f : ByteArray → Mean) (m : Nat) : Prop := M mb ∧ ∃ n, MapIs w X mb n f ∧ n ≤ m
abbrev PGrp (w : World) (B : Nat) (M X : Nat → Prop) (v : Value) (gs : List (List (ByteArray × Mean))) : Prop := ∃ xs, w.ownsRow B 160 1 v gs.length xs ∧ (∀ k, v.ownBlock = some k → M k) ∧ Grps w B M X xs (gs.reverse.map List.reverse)
section
variable {w w' : World} {B : Nat} {N M M' X X' : Nat → Prop}
theorem list_keep {v : Value} {ls : List (List Tv)} (h : PList w B M X v ls) (ht : Turns N w w') (hN : ∀ k, N k → X k) (hM : Grows w X X') (hMM : ∀ k, M k → M' k) (hne : ∀ k, v.ownBlock = some k → ¬ N k) : PList w' B M' X' v ls := by
  obtain ⟨xs, h1, h2, h3⟩ := h
  exact ⟨xs, row_keep h1 (fun k hk => ht.block k (h1.lt k hk).2 (hne k hk)), fun k hk => hMM k (h2 k hk), h3.turn (ht.mono hN) hM⟩
theorem out_keep {v : Value} {l : List Tv} (h : POut w B M v l) (ht : Turns N w w') (hMM : ∀ k, M k → M' k) (hne : ∀ k, v.ownBlock = some k → ¬ N k) : POut w' B M' v l :=
  ⟨row_keep h.1 (fun k hk => ht.block k (h.1.lt k hk).2 (hne k hk)), fun k hk => hMM k (h.2 k hk)⟩
theorem map_keep {mb : Nat} {f : ByteArray → Mean} {m : Nat} (h : PMap w M X mb f m) (ht : Turns N w w') (hN : ∀ k, N k → X k) (hM : Grows w X X') (hMM : ∀ k, M k → M' k) (hne : ¬ N mb) : PMap w' M' X' mb f m := by
  obtain ⟨hm, n, hmap, hn⟩ := h
  obtain ⟨D, hD, -⟩ := hmap.ex
  exact ⟨hMM _ hm, n, hmap.turn (ht.mono hN) hM (ht.block _ hD.lt hne), hn⟩
theorem grp_keep {v : Value} {gs : List (List (ByteArray × Mean))} (h : PGrp w B M X v gs) (ht : Turns N w w') (hN : ∀ k, N k → X k) (hM : Grows w X X') (hMM : ∀ k, M k → M' k) (hne : ∀ k, v.ownBlock = some k → ¬ N k)
    (hns : ∀ k cur, M k → w.heap[k]? = some (.cells cur 162 (0, 0)) → ¬ N k) : PGrp w' B M' X' v gs := by
  obtain ⟨xs, h1, h2, h3⟩ := h
  exact ⟨xs, row_keep h1 (fun k hk => ht.block k (h1.lt k hk).2 (hne k hk)), fun k hk => hMM k (h2 k hk), h3.turn (ht.mono hN) hM hMM (fun v hv k hk => by
      obtain ⟨cur, hcur⟩ := h3.rows v hv k hk
      exact ht.block k (Array.getElem?_eq_some_iff.1 hcur).1 (hns k cur (h3.mem v hv k hk) hcur))⟩
end
theorem uni_l {M P : Nat → Prop} {k : Nat} (h : M k) : uni M P k := Or.inl h
/-- An expander from its parts. -/
theorem Holds.mk' {w : World} {B b σ : Nat} {M P : Nat → Prop} {s : St} {y : Lay} (env : Env0 w B) (low : ∀ k, M k → B ≤ k ∧ k < w.heap.size) (lowP : ∀ k, P k → B ≤ k ∧ k < w.heap.size ∧ ¬ M k) (hb : M b) (Bs : B ≤ w.heap.size)
    (cells : w.heap[b]? = some (.cells (cellsE y s) 48 (0, 0))) (rest : ∃ A c, y.vr = .slice A s.rest.length c ∧ s.rest.length ≤ c ∧ TokFix w (uni M P) A s.rest) (lists : PList w B M (uni M P) y.vl s.lists) (out : POut w B M y.vo s.out)
    (map : PMap w M (uni M P) y.mb s.means (1000 + 4 * s.steps - saved s - σ)) (hsv : saved s + σ ≤ 1000 + 4 * s.steps) (groups : PGrp w B M (uni M P) y.vg s.groups) (lastf : s.last.fit) (b1 : s.steps ≤ 200000) (b2 : s.out.length ≤ 20000) (b3 : s.lists.length ≤ 200) (b4 : s.groups.length + σ ≤ 1000 + 4 * s.steps) (b5 : s.rest.length ≤ 9223372036854775807) : Holds w B b σ M P s := by
  obtain ⟨m1, n, m2, m3⟩ := map
  exact ⟨env, low, lowP, hb, Bs, ⟨y, cells, rest, lists, out, ⟨m1, n, m2, by omega⟩, groups⟩, lastf, b1, b2, b3, b4, b5⟩
theorem Parts.pmap {w : World} {B b σ : Nat} {M X : Nat → Prop} {y : Lay} {s : St} (h : Parts w B b σ M X y s) : PMap w M X y.mb s.means (1000 + 4 * s.steps - saved s - σ) ∧ saved s + σ ≤ 1000 + 4 * s.steps := by
  obtain ⟨m1, n, m2, m3⟩ := h.map
  exact ⟨⟨m1, n, m2, by omega⟩, by omega⟩
theorem PMap.mono {w : World} {M X : Nat → Prop} {mb : Nat} {f : ByteArray → Mean} {m m' : Nat} (h : PMap w M X mb f m) (hm : m ≤ m') : PMap w M X mb f m' := by obtain ⟨a, n, b, c⟩ := h; exact ⟨a, n, b, by omega⟩
/-- Blocks that are none of the expander's: it lies as it lay. -/
theorem Holds.keep {w w' : World} {B b σ σ' : Nat} {M P P' : Nat → Prop} {s : St} (h : Holds w B b σ M P s) (ht : Turns P w w') (hP : Grows w P P') (hl : ∀ k, P' k → B ≤ k ∧ k < w'.heap.size) (hσ : σ' ≤ σ) : Holds w' B b σ' M P' s := by
  obtain ⟨y, hp⟩ := h.parts
  have hN : ∀ k, P k → uni M P k := fun _ h => Or.inr h
  have hne : ∀ k, M k → ¬ P k := fun k hm hp => (h.lowP k hp).2.2 hm
  have hG : Grows w (uni M P) (uni M P') := fun k hk => by
    rcases hk with hk | hk
    · exact Or.inl (Or.inl hk)
    · rcases hP k hk with h1 | h1
      · exact Or.inl (Or.inr h1)
      · exact Or.inr h1
  have hbl := hp.pmap
  have hlP : ∀ k, P k → B ≤ k := fun k hk => (h.lowP k hk).1
  refine Holds.mk' (y := y) (h.env.turn (ht.below hlP h.Bs)) (fun k hk => ⟨(h.low k hk).1, Nat.lt_of_lt_of_le (h.low k hk).2 ht.size⟩) (fun k hk => ⟨(hl k hk).1, (hl k hk).2, fun hm => ?_⟩) h.hb (Nat.le_trans h.Bs ht.size) ((ht.block b (h.low b h.hb).2 (hne b h.hb)).trans hp.cells)
    (Parts.turn_rest hp.rest (ht.mono hN) hG) (list_keep hp.lists ht hN hG (fun _ h => h) (fun k hk => hne k (hp.lists.choose_spec.2.1 k hk))) (out_keep hp.out ht (fun _ h => h) (fun k hk => hne k (hp.out.2 k hk))) ((map_keep hbl.1 ht hN hG (fun _ h => h) (hne _ hbl.1.1)).mono (by omega)) (by omega)
    (grp_keep hp.groups ht hN hG (fun _ h => h) (fun k hk => hne k (hp.groups.choose_spec.2.1 k hk)) (fun k _ hm _ => hne k hm)) h.lastf h.b1 h.b2 h.b3 (by have := h.b4; omega) h.b5
  rcases hP k hk with h1 | h1
  · exact hne k hm h1
  · have := (h.low k hm).2; omega
/-- A new block. -/
theorem Holds.below {w w' : World} {B b σ : Nat} {M P : Nat → Prop} {s : St} (h : Holds w B b σ M P s) (hb : Below w.heap.size w w') : Holds w' B b σ M P s :=
  h.keep (Turns.of_below hb _) (Grows.refl _ _) (fun k hk => ⟨(h.lowP k hk).1, Nat.lt_of_lt_of_le (h.lowP k hk).2.1 hb.size⟩) (Nat.le_refl _)
theorem Holds.alloc {w : World} {B b σ : Nat} {M P : Nat → Prop} {s : St} (h : Holds w B b σ M P s) (o : Obj) : Holds (w.alloc o) B b σ M P s := h.below (Below.alloc (Below.refl _ _) (Nat.le_refl _) o)
/-- .. that the caller keeps for itself. -/
def also (P : Nat → Prop) (g k : Nat) : Prop := P k ∨ k = g
theorem Holds.own {w : World} {B b σ : Nat} {M P : Nat → Prop} {s : St} (h : Holds w B b σ M P s) (o : Obj) : Holds (w.alloc o) B b σ M (also P w.heap.size) s :=
  h.keep (Turns.alloc _ _ _) (fun k hk => by rcases hk with hk | hk; exact Or.inl hk; exact Or.inr (by omega)) (fun k hk => by
    rcases hk with hk | hk
    · exact ⟨(h.lowP k hk).1, by have := (h.lowP k hk).2.1; simp; omega⟩
    · have := h.Bs; rw [hk]; exact ⟨this, by simp⟩) (Nat.le_refl _)
/-- .. and gives back. -/
theorem Holds.less {w : World} {B b σ : Nat} {M P P' : Nat → Prop} {s : St} (h : Holds w B b σ M P s) (hP : ∀ k, P' k → P k) : Holds w B b σ M P' s :=
  h.keep (Turns.refl _ _) (fun k hk => Or.inl (hP k hk)) (fun k hk => ⟨(h.lowP k (hP k hk)).1, (h.lowP k (hP k hk)).2.1⟩) (Nat.le_refl _)
theorem Holds.slack {w : World} {B b σ σ' : Nat} {M P : Nat → Prop} {s : St} (h : Holds w B b σ M P s) (hσ : σ' ≤ σ) : Holds w B b σ' M P s :=
  h.keep (Turns.refl _ _) (Grows.refl _ _) (fun k hk => ⟨(h.lowP k hk).1, (h.lowP k hk).2.1⟩) hσ
/-- .. and writes. -/
theorem Holds.wrote {w : World} {B b σ : Nat} {M P : Nat → Prop} {s : St} (h : Holds w B b σ M P s) {p : Addr} (hp : P p.block) (u : Value) : Holds (w.setCell p u) B b σ M P s :=
  h.keep (Turns.setCell w hp u) (Grows.refl _ _) (fun k hk => ⟨(h.lowP k hk).1, by have := (h.lowP k hk).2.1; simpa [World.setCell] using this⟩) (Nat.le_refl _)
theorem Holds.drew {w : World} {B b σ : Nat} {M P : Nat → Prop} {s : St} (h : Holds w B b σ M P s) : Holds w.drew B b σ M P s := h.below (Below.refl _ _).drew
end Mx
end Go.Proofs.YtnhcjgnohnedaaaGreatDoor

namespace Go.Proofs.YtnhcjgnohnedaaaGreatDoor
open Go.RowKit

namespace Mx
theorem row_set {w w' : World} {B : Nat} {e : TypeId} {g k cap : Nat} {xs : List Value} {v V : Value} (h : w.ownsRow B e 1 (.slice (some ⟨g, 0, none⟩) (k + 1) cap) (k + 1) (xs ++ [v])) (hg : w'.heap[g]? = (w.setCell ⟨g, k, none⟩ V).heap[g]?) :
    w'.ownsRow B e 1 (.slice (some ⟨g, 0, none⟩) (k + 1) cap) (k + 1) (xs ++ [V]) := by
  have hx : xs.length = k := by have := h.1; simp at this; omega
  have h2 := (h.stored k V).1
  have e1 : (xs ++ [v]).set k V = xs ++ [V] := by subst hx; simp
  rw [e1] at h2
  exact row_keep h2 (fun k' hk' => by simp [Value.ownBlock] at hk'; subst hk'; exact hg)
theorem row_pop {w w' : World} {B : Nat} {e : TypeId} {g k cap : Nat} {xs : List Value} {v V : Value} (h : w.ownsRow B e 1 (.slice (some ⟨g, 0, none⟩) (k + 1) cap) (k + 1) (xs ++ [v])) (hg : w'.heap[g]? = (w.setCell ⟨g, k, none⟩ V).heap[g]?) :
    w'.ownsRow B e 1 (.slice (some ⟨g, 0, none⟩) k cap) k xs := by
  have h2 := row_set h hg
  have hx : xs.length = k := by have := h.1; simp at this; omega
  rcases h2.2 with ⟨hv, -⟩ | ⟨g', cap', cur, hv, hb, hgg, hn, hc, hs, ht⟩
  · cases hv
  · injection hv with hv1 hv2 hv3
    injection hv1 with hv1
    injection hv1 with hv1
    subst hv1 hv3
    refine ⟨by omega, .inr ⟨g, cap, cur, rfl, hb, hgg, by omega, hc, hs, ?_⟩⟩
    have := congrArg (List.take k) ht
    rw [List.take_take, List.take_append_of_le_length (by omega), List.take_of_length_le (l := xs) (by omega)] at this
    rwa [show min k ((k + 1) * 1) = k * 1 by omega] at this
theorem Lists.snoc {w : World} {M : Nat → Prop} {l : List Tv} : ∀ {a : List (List Tv)} {xs : List Value}, Lists w M xs (a ++ [l]) → ∃ xs' A c, xs = xs' ++ [.slice A l.length c] ∧ Lists w M xs' a ∧ l.length ≤ c ∧ TokFix w M A l ∧ 0 < l.length ∧ l.length ≤ 20000
  | [], [v], ⟨⟨A, c, e, h1, h2, h3, h4⟩, _⟩ => ⟨[], A, c, by rw [e]; rfl, trivial, h1, h2, h3, h4⟩
  | [], _ :: _ :: _, ⟨_, h⟩ => h.elim
  | b :: a, v :: xs, ⟨h, hr⟩ => by
    obtain ⟨xs', A, c, rfl, h0, h1⟩ := hr.snoc
    exact ⟨v :: xs', A, c, rfl, ⟨h, h0⟩, h1⟩
  | [], [], h => h.elim
  | _ :: _, [], h => h.elim
theorem Lists.push {w : World} {M : Nat → Prop} {l : List Tv} {v : Value} (hl : ∃ A c, v = .slice A l.length c ∧ l.length ≤ c ∧ TokFix w M A l ∧ 0 < l.length ∧ l.length ≤ 20000) : ∀ {a : List (List Tv)} {xs : List Value}, Lists w M xs a → Lists w M (xs ++ [v]) (a ++ [l])
  | [], [], _ => ⟨hl, trivial⟩
  | _ :: _, _ :: _, ⟨h, hr⟩ => ⟨h, hr.push hl⟩
  | [], _ :: _, h => h.elim
  | _ :: _, [], h => h.elim
theorem row_nil {w : World} {B : Nat} {e : TypeId} {z : Nat} {v : Value} {xs : List Value} (h : w.ownsRow B e z v 0 xs) : ∃ A d, v = .slice A 0 d := by
  rcases h.2 with ⟨rfl, -⟩ | ⟨g, cap, cur, rfl, -⟩
  · exact ⟨_, _, rfl⟩
  · exact ⟨_, _, rfl⟩
theorem row_some {w : World} {B : Nat} {e : TypeId} {z : Nat} {v : Value} {n : Nat} {xs : List Value} (h : w.ownsRow B e z v (n + 1) xs) : ∃ g cap, v = .slice (some ⟨g, 0, none⟩) (n + 1) cap ∧ n + 1 ≤ cap ∧ g < w.heap.size ∧ B ≤ g := by
  rcases h.2 with ⟨-, h0⟩ | ⟨g, cap, cur, rfl, hb, hg, hn, -⟩
  · omega
  · exact ⟨g, cap, rfl, hn, (Array.getElem?_eq_some_iff.1 hg).1, hb⟩
/-- What next does where there is no token. -/
theorem next_end {w : World} {B b σ : Nat} {M Pp : Nat → Prop} {s : St} (H : Holds w B b σ M Pp s) (hp : pop s = none) :
    Calls Tryz.prog 35 #[.pointer (some ⟨b, 0, none⟩)] w fun e w' => e = .returned (.tuple #[.agg #[.int .i64 0, .string ⟨#[]⟩, .int .i64 0, .int .i64 0, .int .i64 0, .int .i64 0], .bool false]) ∧ Below w.heap.size w w' := by
  obtain ⟨y, P⟩ := H.parts
  obtain ⟨xs, hx, -, hl⟩ := P.lists
  obtain ⟨A, c, hr, -, -⟩ := P.rest
  unfold pop at hp
  cases hls : s.lists with
  | cons l ls =>
    rw [hls] at hp hl
    cases l with
    | cons => cases hp
    | nil =>
      rw [List.reverse_cons] at hl
      obtain ⟨_, _, _, _, _, _, _, h0, _⟩ := hl.snoc
      simp at h0
  | nil =>
    rw [hls] at hp hx
    cases hrs : s.rest with
    | cons => rw [hrs] at hp; cases hp
    | nil =>
      rw [hrs] at hr
      obtain ⟨A2, d2, hv⟩ := row_nil hx
      exact next_none y s b A A2 c d2 w P.cells hr hv
theorem Holds.envAll {w : World} {B b σ : Nat} {M Pp N : Nat → Prop} {s : St} (H : Holds w B b σ M Pp s) (hN : ∀ k, N k → B ≤ k) : ∀ w', Turns N w w' → EnvL w' := fun _ ht => (H.env.turn (ht.below hN H.Bs)).env
/-- What next does where there is a token. -/
def NextS (B b σ : Nat) (M Pp : Nat → Prop) (s s' : St) (x : Tv) (w : World) (e : Ending) (w' : World) : Prop :=
  Turns M w w' ∧ (s.steps < 200000 → e = .returned (.tuple #[x.val, .bool true]) ∧ x.fit ∧ Holds w' B b (σ + 4) M Pp { s' with steps := s.steps + 1 }) ∧
    (¬ s.steps < 200000 → e = .panicked [{ v := .iface 27 (.agg #[.int .i64 (failAt 21 x).code, .string (failAt 21 x).name, .int .i64 (failAt 21 x).line, .int .i64 (failAt 21 x).col]), recovered := false }])
theorem next_fromRest {w : World} {B b σ : Nat} {M Pp : Nat → Prop} {s : St} (H : Holds w B b σ M Pp s) (x : Tv) (r : List Tv) (h1 : s.lists = []) (h2 : s.rest = x :: r) :
    Calls Tryz.prog 35 #[.pointer (some ⟨b, 0, none⟩)] w (NextS B b σ M Pp s { s with rest := r } x w) := by
  obtain ⟨y, P⟩ := H.parts
  obtain ⟨xs, hx, -, -⟩ := P.lists
  obtain ⟨A, c, hr, hc, hf⟩ := P.rest
  rw [h1] at hx
  obtain ⟨A2, d2, hv⟩ := row_nil hx
  rw [h2] at hr hc hf
  obtain ⟨ad, rfl, hst, hat⟩ := hf.1 (by simp)
  have hbM := H.hb
  have hlow := H.low
  refine (next_rest y s b r.length ad x A2 c d2 w P.cells hr hc (by have := H.b5; rw [h2] at this; simp at this; omega) hv (head_at hat) hst.1 (fun e => hst.2 (Or.inl (e ▸ hbM))) H.b1 (hf.2 x (by simp)) (H.envAll (fun k hk => by rw [hk]; exact (hlow b hbM).1)) _ rfl).mono ?_
  rintro e w' ⟨ht, hok, hbad⟩
  have hN : ∀ k, Mx.only b k → M k := fun k hk => by rw [hk]; exact hbM
  have hNX : ∀ k, Mx.only b k → uni M Pp k := fun k hk => Or.inl (hN k hk)
  refine ⟨ht.mono hN, fun hs => ?_, hbad⟩
  obtain ⟨he, vr, hv0, hv1, hcell⟩ := hok hs
  have same : ∀ k, k ≠ b → ¬ Mx.only b k := fun k hk h => hk h
  have hbl := P.pmap
  have hfix : ∃ A' c', vr = .slice A' r.length c' ∧ r.length ≤ c' ∧ TokFix w (uni M Pp) A' r := by
    by_cases h0 : r.length = 0
    · obtain ⟨A', e⟩ := hv0 h0
      have : r = [] := List.eq_nil_of_length_eq_zero h0
      subst this
      exact ⟨A', _, e, Nat.zero_le _, TokFix.nil _ _ _⟩
    · exact ⟨some (ad.add 6), _, hv1 (by omega), by simp at hc; omega, hf.tail _ (fun _ => rfl)⟩
  refine ⟨he, hf.2 x (by simp), Holds.mk' (y := { y with vr := vr }) (H.env.turn (ht.below (fun k hk => by rw [hk]; exact (hlow b hbM).1) H.Bs)) (fun k hk => ⟨(hlow k hk).1, Nat.lt_of_lt_of_le (hlow k hk).2 ht.size⟩) (fun k hk => ⟨(H.lowP k hk).1, Nat.lt_of_lt_of_le (H.lowP k hk).2.1 ht.size, (H.lowP k hk).2.2⟩) hbM (Nat.le_trans H.Bs ht.size) hcell
    (Parts.turn_rest hfix (ht.mono hNX) (Grows.refl _ _)) (list_keep P.lists ht hNX (Grows.refl _ _) (fun _ h => h) (fun k hk => same k (row_ne P.lists.choose_spec.1 P.cells (by decide) k hk)))
    (out_keep P.out ht (fun _ h => h) (fun k hk => same k (row_ne P.out.1 P.cells (by decide) k hk))) ?_ ?_ (grp_keep P.groups ht hNX (Grows.refl _ _) (fun _ h => h) (fun k hk => same k (row_ne P.groups.choose_spec.1 P.cells (by decide) k hk)) (fun k cur _ hcur => same k (ty_ne hcur P.cells (by decide)))) H.lastf ?_ H.b2 H.b3 ?_ ?_⟩
  · obtain ⟨hm, n, hmap, hn⟩ := hbl.1
    obtain ⟨D, hD, -⟩ := hmap.ex
    exact (map_keep ⟨hm, n, hmap, hn⟩ ht hNX (Grows.refl _ _) (fun _ h => h) (same _ (map_ne hD P.cells))).mono (by show _ ≤ 1000 + 4 * (s.steps + 1) - saved s - (σ + 4); omega)
  · show saved s + (σ + 4) ≤ 1000 + 4 * (s.steps + 1); omega
  · show s.steps + 1 ≤ 200000; omega
  · show s.groups.length + (σ + 4) ≤ 1000 + 4 * (s.steps + 1); have := H.b4; omega
  · show r.length ≤ _; have := H.b5; rw [h2] at this; simp at this; omega
end Mx
end Go.Proofs.YtnhcjgnohnedaaaGreatDoor

namespace Go.Proofs.YtnhcjgnohnedaaaGreatDoor
open Go.RowKit

namespace Mx
theorem next_fromList {w : World} {B b σ : Nat} {M Pp : Nat → Prop} {s : St} (H : Holds w B b σ M Pp s) (x : Tv) (l : List Tv) (ls : List (List Tv)) (h1 : s.lists = (x :: l) :: ls) :
    Calls Tryz.prog 35 #[.pointer (some ⟨b, 0, none⟩)] w (NextS B b σ M Pp s { s with lists := if l.isEmpty then ls else l :: ls } x w) := by
  obtain ⟨y, P⟩ := H.parts
  obtain ⟨xs, hx, hxM, hl⟩ := P.lists
  rw [h1] at hx hl
  rw [List.reverse_cons] at hl
  obtain ⟨xs', A, c, rfl, hl', hc, hf, hp, hq⟩ := hl.snoc
  have hxl : xs'.length = ls.length := by have := hx.1; simp at this; omega
  obtain ⟨g, cap, hvl, hcap, hg, hgB⟩ := row_some hx
  obtain ⟨ad, rfl, hst, hat⟩ := hf.1 hp
  have hgM : M g := hxM g (by rw [hvl]; rfl)
  have hgb : g ≠ b := row_ne hx P.cells (by decide) g (by rw [hvl]; rfl)
  obtain ⟨gcur, hgcur⟩ := row_ty hx (k := g) (by rw [hvl]; rfl)
  have hbM := H.hb
  have hlow := H.low
  have hN : ∀ k, Mx.two b g k → M k := fun k hk => by rcases hk with hk | hk <;> rw [hk]; exact hbM; exact hgM
  have hNX : ∀ k, Mx.two b g k → uni M Pp k := fun k hk => Or.inl (hN k hk)
  have hNB : ∀ k, Mx.two b g k → B ≤ k := fun k hk => (hlow k (hN k hk)).1
  have hx2 := hx
  rw [hvl] at hx2
  have hcell : w.cell? ⟨g, ls.length, none⟩ = some (.slice (some ad) (l.length + 1) c) := by
    have h2 : w.cell? ⟨g, ls.length, none⟩ = (xs' ++ [Value.slice (some ad) (x :: l).length c])[ls.length]? := World.ownsRow.cellAt hx2 ls.length (by simp)
    rw [h2, List.getElem?_append_right (by omega), hxl, Nat.sub_self]
    rfl
  have hfz : w.frozen? ⟨g, ls.length, none⟩ = false := World.ownsRow.frozenAt hx2 ls.length
  have h200 : ls.length ≤ 200 := by have := H.b3; rw [h1] at this; simp at this; omega
  have hfit := hf.2 x (by simp)
  have hbl := P.pmap
  have nb : ∀ k, k ≠ b → k ≠ g → ¬ Mx.two b g k := fun k a b h => by rcases h with h | h; exact a h; exact b h
  have fin : ∀ (w' : World) (v : Value) (ls' : List (List Tv)), Turns (Mx.two b g) w w' → s.steps < 200000 → w'.heap[b]? = some (.cells (cellsE { y with vl := v } { s with lists := ls', steps := s.steps + 1 }) 48 (0, 0)) → PList w' B M (uni M Pp) v ls' → ls'.length ≤ 200 → Holds w' B b (σ + 4) M Pp { s with lists := ls', steps := s.steps + 1 } := fun w' v ls' ht hs hcl hpl hln => by
    refine Holds.mk' (y := { y with vl := v }) (H.env.turn (ht.below hNB H.Bs)) (fun k hk => ⟨(hlow k hk).1, Nat.lt_of_lt_of_le (hlow k hk).2 ht.size⟩) (fun k hk => ⟨(H.lowP k hk).1, Nat.lt_of_lt_of_le (H.lowP k hk).2.1 ht.size, (H.lowP k hk).2.2⟩) hbM (Nat.le_trans H.Bs ht.size) hcl (Parts.turn_rest P.rest (ht.mono hNX) (Grows.refl _ _)) hpl
      (out_keep P.out ht (fun _ h => h) (fun k hk => nb k (row_ne P.out.1 P.cells (by decide) k hk) (row_ne P.out.1 hgcur (by decide) k hk))) ?_ ?_
      (grp_keep P.groups ht hNX (Grows.refl _ _) (fun _ h => h) (fun k hk => nb k (row_ne P.groups.choose_spec.1 P.cells (by decide) k hk) (row_ne P.groups.choose_spec.1 hgcur (by decide) k hk)) (fun k cur _ hcur => nb k (ty_ne hcur P.cells (by decide)) (ty_ne hcur hgcur (by decide)))) H.lastf ?_ H.b2 hln ?_ H.b5
    · obtain ⟨hm, n, hmap, hn⟩ := hbl.1
      obtain ⟨D, hD, -⟩ := hmap.ex
      exact (map_keep ⟨hm, n, hmap, hn⟩ ht hNX (Grows.refl _ _) (fun _ h => h) (nb _ (map_ne hD P.cells) (map_ne hD hgcur))).mono (by show _ ≤ 1000 + 4 * (s.steps + 1) - saved s - (σ + 4); omega)
    · show saved s + (σ + 4) ≤ 1000 + 4 * (s.steps + 1); omega
    · show s.steps + 1 ≤ 200000; omega
    · show s.groups.length + (σ + 4) ≤ 1000 + 4 * (s.steps + 1); have := H.b4; omega
  by_cases h0 : l.length = 0
  · have hnil : l = [] := List.eq_nil_of_length_eq_zero h0
    subst hnil
    refine (next_list0 y s b g ls.length ad x c cap w P.cells hvl h200 hcap hcell hfz hg hgb hc (head_at hat) hst.1 (fun e => hst.2 (Or.inl (e ▸ hbM))) (fun e => hst.2 (Or.inl (e ▸ hgM))) H.b1 hfit (H.envAll hNB) _ rfl).mono ?_
    rintro e w' ⟨ht, hok, hbad⟩
    refine ⟨ht.mono hN, fun hs => ?_, hbad⟩
    obtain ⟨he, hz, -⟩ := hok hs
    obtain ⟨hcl, V, hgV⟩ := hz rfl
    refine ⟨he, hfit, ?_⟩
    have := fin w' _ ls ht hs hcl ⟨xs', row_pop hx2 hgV, fun k hk => by simp [Value.ownBlock] at hk; subst hk; exact hgM, hl'.turn (ht.mono hNX) (Grows.refl _ _)⟩ h200
    exact this
  · refine (next_listS y s b g ls.length l.length ad x c cap w P.cells hvl h200 hcap hcell hfz hg hgb hc h0 (by simp at hq; omega) (head_at hat) hst.1 (fun e => hst.2 (Or.inl (e ▸ hbM))) (fun e => hst.2 (Or.inl (e ▸ hgM))) H.b1 hfit (H.envAll hNB) _ rfl).mono ?_
    rintro e w' ⟨ht, hok, hbad⟩
    refine ⟨ht.mono hN, fun hs => ?_, hbad⟩
    obtain ⟨he, -, hz⟩ := hok hs
    obtain ⟨hcl, hgV⟩ := hz (by omega)
    refine ⟨he, hfit, ?_⟩
    have hne : l.isEmpty = false := by cases l with
      | nil => exact absurd rfl h0
      | cons => rfl
    simp only [hne, Bool.false_eq_true, if_false]
    have hnew : Lists w' (uni M Pp) (xs' ++ [.slice (some (ad.add 6)) l.length (c - 1)]) (ls.reverse ++ [l]) :=
      (hl'.turn (ht.mono hNX) (Grows.refl _ _)).push ⟨_, _, rfl, by simp at hc; omega, (hf.tail _ (fun _ => rfl)).turn (ht.mono hNX) (Grows.refl _ _), by omega, by simp at hq; omega⟩
    have := fin w' y.vl (l :: ls) ht hs hcl ⟨_, by rw [hvl]; exact row_set hx2 hgV, hxM, by rw [List.reverse_cons]; exact hnew⟩ (by simp; have := H.b3; rw [h1] at this; simpa using this)
    exact this
/-- What next does where there is a token. -/
theorem next_tok {w : World} {B b σ : Nat} {M Pp : Nat → Prop} {s s' : St} {x : Tv} (H : Holds w B b σ M Pp s) (hp : pop s = some (x, s')) :
    Calls Tryz.prog 35 #[.pointer (some ⟨b, 0, none⟩)] w (NextS B b σ M Pp s s' x w) := by
  unfold pop at hp
  split at hp
  · rename_i t l ls hls
    injection hp with hp
    injection hp with h1 h2
    subst h1 h2
    exact next_fromList H t l ls hls
  · cases hp
  · rename_i hls
    split at hp
    · rename_i t r hrs
      injection hp with hp
      injection hp with h1 h2
      subst h1 h2
      exact next_fromRest H t r hls hrs
    · cases hp
end Mx
end Go.Proofs.YtnhcjgnohnedaaaGreatDoor

namespace Go.Proofs.YtnhcjgnohnedaaaGreatDoor
open Go.RowKit

namespace Mx
theorem pop_steps {s s' : St} {x : Tv} (h : pop s = some (x, s')) : s'.steps = s.steps ∧ s'.last = s.last ∧ s'.means = s.means ∧ s'.groups = s.groups ∧ s'.saving = s.saving ∧ s'.out = s.out := by
  unfold pop at h
  split at h
  · injection h with h; injection h with h1 h2; subst h2; exact ⟨rfl, rfl, rfl, rfl, rfl, rfl⟩
  · cases h
  · split at h
    · injection h with h; injection h with h1 h2; subst h2; exact ⟨rfl, rfl, rfl, rfl, rfl, rfl⟩
    · cases h
theorem read_none {s : St} (h : pop s = none) : read s = .bad ⟨12, str [], s.last.a, s.last.c⟩ := by simp [read, next, h, early]
theorem read_some {s s' : St} {x : Tv} (h : pop s = some (x, s')) (hs : s.steps < 200000) : read s = .ok x { s' with steps := s.steps + 1 } := by
  simp [read, next, h, show ¬ 200000 ≤ s.steps by omega, (pop_steps h).1]
theorem read_over {s s' : St} {x : Tv} (h : pop s = some (x, s')) (hs : ¬ s.steps < 200000) : read s = .bad (failAt 21 x) := by
  simp [read, next, h, show 200000 ≤ s.steps by omega]
/-- A token by value. -/
def vTok (x : Tv) (_ : St) (_ : Nat → Prop) (_ : World) (v : Value) : Prop := v = x.val ∧ x.fit
def vUnit (_ : Unit) (_ : St) (_ : Nat → Prop) (_ : World) (v : Value) : Prop := v = .tuple #[]
theorem Holds.cells {w : World} {B b σ : Nat} {M P : Nat → Prop} {s : St} (h : Holds w B b σ M P s) : ∃ y, w.heap[b]? = some (.cells (cellsE y s) 48 (0, 0)) := by obtain ⟨y, P⟩ := h.parts; exact ⟨y, P.cells⟩
theorem ends_bad {α : Type} {B b σ : Nat} {M P : Nat → Prop} {w w' : World} {R : Res α} {val : α → St → (Nat → Prop) → World → Value → Prop} {f : Flt} {e : Ending} (hR : R = .bad f) (ht : Turns M w w')
    (he : e = .panicked [{ v := .iface 27 (.agg #[.int .i64 f.code, .string f.name, .int .i64 f.line, .int .i64 f.col]), recovered := false }]) : Ends B b σ M P w R val e w' := by
  rw [hR]; exact ⟨M, Grows.refl _ _, ht, he⟩
theorem ends_ok {α : Type} {B b σ : Nat} {M M' P : Nat → Prop} {w w' : World} {R : Res α} {val : α → St → (Nat → Prop) → World → Value → Prop} {a : α} {s : St} {v : Value} (hR : R = .ok a s) (hM : Grows w M M') (ht : Turns M w w') (hv : val a s (uni M' P) w' v) (hh : Holds w' B b σ M' P s) :
    Ends B b σ M P w R val (.returned v) w' := by
  rw [hR]; exact ⟨M', hM, ht, v, rfl, hv, hh⟩

theorem Turns.new1 {M : Nat → Prop} {w w1 : World} (h : Turns M w w1) {g : Nat} (hg : w.heap.size ≤ g) (i : Nat) (u : Value) : Turns M w (w1.setCell ⟨g, i, none⟩ u) :=
  ⟨h.os, h.tape, h.output, by simpa [World.setCell] using h.size, fun k hk hn => (Below.heap_setCell w1 ⟨g, i, none⟩ u k (fun e => by simp only at e; omega)).trans (h.block k hk hn), fun k c hc => by
    obtain ⟨c1, h1, e1⟩ := h.exp k c hc
    have hk := (Array.getElem?_eq_some_iff.1 hc).1
    exact ⟨c1, (Below.heap_setCell w1 ⟨g, i, none⟩ u k (fun e => by simp only at e; omega)).trans h1, e1⟩⟩
theorem Turns.new6 {M : Nat → Prop} {w w1 : World} (h : Turns M w w1) {g : Nat} (hg : w.heap.size ≤ g) (v0 v1 v2 v3 v4 v5 : Value) :
    Turns M w ((((((w1.setCell ⟨g, 0, none⟩ v0).setCell ⟨g, 1, none⟩ v1).setCell ⟨g, 2, none⟩ v2).setCell ⟨g, 3, none⟩ v3).setCell ⟨g, 4, none⟩ v4).setCell ⟨g, 5, none⟩ v5) :=
  (((((h.new1 hg 0 v0).new1 hg 1 v1).new1 hg 2 v2).new1 hg 3 v3).new1 hg 4 v4).new1 hg 5 v5
theorem Holds.wrote6 {w : World} {B b σ : Nat} {M P : Nat → Prop} {s : St} (h : Holds w B b σ M P s) {g : Nat} (hg : P g) (v0 v1 v2 v3 v4 v5 : Value) :
    Holds ((((((w.setCell ⟨g, 0, none⟩ v0).setCell ⟨g, 1, none⟩ v1).setCell ⟨g, 2, none⟩ v2).setCell ⟨g, 3, none⟩ v3).setCell ⟨g, 4, none⟩ v4).setCell ⟨g, 5, none⟩ v5) B b σ M P s :=
  (((((h.wrote (p := ⟨g, 0, none⟩) hg v0).wrote (p := ⟨g, 1, none⟩) hg v1).wrote (p := ⟨g, 2, none⟩) hg v2).wrote (p := ⟨g, 3, none⟩) hg v3).wrote (p := ⟨g, 4, none⟩) hg v4).wrote (p := ⟨g, 5, none⟩) hg v5

set_option maxRecDepth 100000 in
set_option maxHeartbeats 4000000 in
theorem read_any {w : World} {B b σ : Nat} {M P : Nat → Prop} {s : St} (H : Holds w B b σ M P s) :
    Calls Tryz.prog 124 #[.pointer (some ⟨b, 0, none⟩)] w (Ends B b (σ + 4) M P w (read s) vTok) := by
  have HA := H.own (.cells #[.int .i64 0, .string ⟨#[]⟩, .int .i64 0, .int .i64 0, .int .i64 0, .int .i64 0] 41)
  have hnM : ¬ M w.heap.size := (HA.lowP _ (Or.inr rfl)).2.2
  have T0 := Lib.hid (Turns.alloc M w (.cells #[.int .i64 0, .string ⟨#[]⟩, .int .i64 0, .int .i64 0, .int .i64 0, .int .i64 0] 41))
  cases hp : pop s with
  | none =>
    obtain ⟨y, hy⟩ := HA.cells
    have HR := Lib.hid (read_none hp)
    have C := Lib.hid (next_end HA hp)
    have HY := Lib.hid hy
    have CE := Lib.hid (fun (W : World) (h : W.heap[b]? = some (.cells (cellsE y s) 48 (0, 0))) => early_any y s b W h _ rfl)
    have hb1 := (Array.getElem?_eq_some_iff.1 hy).1
    clear H HA hp hy
    go_enter Tryz.func124, Tryz.ntmps124
    go_wp2_with fail
    refine C.out.mono ?_; rintro e w1 ⟨rfl, hb⟩
    have B1 := Lib.hid hb
    clear hb
    go_wp2_with fail
    refine (CE.out _ ?_).mono ?_
    · exact blk_alloc ((B1.out.block b hb1).trans HY.out) _
    rintro e w2 ⟨rfl, hb⟩
    exact ⟨rfl, ends_bad HR.out (((T0.out.then (Turns.of_below B1.out M)).then (Turns.alloc _ _ _)).then (Turns.of_below hb _)) rfl⟩
  | some q =>
    obtain ⟨x, s'⟩ := q
    have C := Lib.hid (next_tok HA hp)
    have HP := Lib.hid hp
    by_cases hs : s.steps < 200000
    · have HS := Lib.hid hs
      clear H HA hp hs
      go_enter Tryz.func124, Tryz.ntmps124
      go_wp2_with fail
      refine C.out.mono ?_; rintro e w1 ⟨ht, hok, -⟩
      obtain ⟨rfl, hfit, hh⟩ := hok HS.out
      have HH := Lib.hid hh
      have HF := Lib.hid hfit
      have TT := Lib.hid (T0.out.then ht)
      have hw1 := ht.size
      have hz1 : w1.heap[w.heap.size]? = some (.cells #[.int .i64 0, .string ⟨#[]⟩, .int .i64 0, .int .i64 0, .int .i64 0, .int .i64 0] 41) := (ht.block w.heap.size (by simp) hnM).trans (heap_alloc_new w _)
      have HZ := Lib.hid hz1
      obtain ⟨⟨z0, z1, z2, z3, z4, z5⟩, ⟨y0, y1, y2, y3, y4, y5⟩, zl⟩ := blk6 hz1
      clear ht hok hh hfit hz1
      unfold Tv.val
      go_wp2_with fail
      obtain ⟨⟨q0, q1, q2, q3, q4, q5⟩, -, -⟩ := blk6 (blk_alloc (set6 HZ.out (.int .i64 x.k) (.string x.t) (.int .i64 x.p) (.int .i64 x.q) (.int .i64 x.a) (.int .i64 x.c)) (.cells #[.int .i64 x.k, .string x.t, .int .i64 x.p, .int .i64 x.q, .int .i64 x.a, .int .i64 x.c] 41))
      exact bodyPost_ret (v := x.val) (by simp [results, Tryz.results124, go_sem, Tv.val, q0, q1, q2, q3, q4, q5]) rfl
        (ends_ok (read_some HP.out HS.out) (Grows.refl _ _) ((TT.out.new6 (Nat.le_refl _) _ _ _ _ _ _).then (Turns.alloc _ _ _)) ⟨rfl, HF.out⟩ (((HH.out.wrote6 (Or.inr rfl) _ _ _ _ _ _).alloc _).less (fun k hk => Or.inl hk)))
    · have HS := Lib.hid hs
      clear H HA hp hs
      go_enter Tryz.func124, Tryz.ntmps124
      go_wp2_with fail
      refine C.out.mono ?_; rintro e w1 ⟨ht, -, hbad⟩
      obtain rfl := hbad HS.out
      exact ⟨rfl, ends_bad (read_over HP.out HS.out) (T0.out.then ht) rfl⟩
end Mx
end Go.Proofs.YtnhcjgnohnedaaaGreatDoor
