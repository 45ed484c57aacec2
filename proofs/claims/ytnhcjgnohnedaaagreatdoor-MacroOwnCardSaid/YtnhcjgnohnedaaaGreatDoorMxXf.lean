/-
  The mathematics of macros: what is put out has its groups in order, and names behind save; its tokens are valid.
  The mathematics of macros: no step is undone; a run, token by token.
  Contracts of package macro: expanded.
-/
import Derived.Test.YtnhcjgnohnedaaaGreatDoorMxPa
import Derived.Test.YtnhcjgnohnedaaaGreatDoorMxXe
namespace Go.Proofs.YtnhcjgnohnedaaaGreatDoor
namespace Mx
namespace Z

def MeanOk : Mean → Prop
  | .var => True
  | .word w => w.data.toList ∈ Lx.wds
  | .mac m => ∀ p ∈ m.body, p.tok.ok = true
/-- Tokens put out: valid, and not too many. -/
def OutOk (o : List Tv) : Prop := (∀ t ∈ o, t.ok = true) ∧ o.length ≤ 20000
structure Good (s : St) : Prop where
  rest : ∀ t ∈ s.rest, t.ok = true
  lists : ∀ l ∈ s.lists, ∀ t ∈ l, t.ok = true
  means : ∀ x, MeanOk (s.means x)
  groups : ∀ g ∈ s.groups, ∀ p ∈ g, MeanOk p.2
  out : OutOk s.out
/-- Good, with these tokens put out, these groups, and this flag. -/
def Fr (o : List Tv) (g : List (List (ByteArray × Mean))) (b : Bool) (s : St) : Prop := Good s ∧ s.out = o ∧ s.groups = g ∧ s.saving = b
def Tri {α : Type} (P : St → Prop) (m : M α) (Q : α → St → Prop) : Prop := ∀ s a s', P s → m s = .ok a s' → Q a s'
theorem Tri.bind {α β : Type} {P : St → Prop} {m : M α} {Q : α → St → Prop} {f : α → M β} {R : β → St → Prop} (h : Tri P m Q) (hf : ∀ a, Tri (Q a) (f a) R) : Tri P (m >>= f) R := by
  intro s b s' hP he
  cases hm : m s with
  | ok a s1 => rw [bind_ok hm] at he; exact hf a s1 b s' (h s a s1 hP hm) he
  | bad x => rw [bind_bad hm] at he; cases he
theorem Tri.pure {α : Type} {P : St → Prop} (a : α) {Q : α → St → Prop} (h : ∀ s, P s → Q a s) : Tri P (pure a : M α) Q := by
  intro s b s' hP he
  injection he with h1 h2
  subst h1 h2
  exact h s hP
theorem Tri.bad {α : Type} {P : St → Prop} (f : Flt) {Q : α → St → Prop} : Tri P (bad f : M α) Q := by
  intro s b s' hP he
  cases he
theorem Tri.early {α : Type} {P : St → Prop} {Q : α → St → Prop} : Tri P (early : M α) Q := by
  intro s b s' hP he
  cases he
theorem Tri.ite {α : Type} {P : St → Prop} {c : Prop} [Decidable c] {m n : M α} {Q : α → St → Prop} (h1 : c → Tri P m Q) (h2 : ¬ c → Tri P n Q) : Tri P (if c then m else n) Q := by
  by_cases h : c
  · rw [if_pos h]; exact h1 h
  · rw [if_neg h]; exact h2 h
theorem Tri.pre {α : Type} {P : St → Prop} {c : Prop} {m : M α} {Q : α → St → Prop} (h : c → Tri P m Q) : Tri (fun s => P s ∧ c) m Q := fun s a s' hP he => h hP.2 s a s' hP.1 he
theorem Tri.weak {α : Type} {P P' : St → Prop} {m : M α} {Q Q' : α → St → Prop} (h : Tri P m Q) (hp : ∀ s, P' s → P s) (hq : ∀ a s, Q a s → Q' a s) : Tri P' m Q' := fun s a s' hP he => hq a s' (h s a s' (hp s hP) he)
theorem Tri.state {α : Type} {P : St → Prop} {f : St → M α} {Q : α → St → Prop} (h : ∀ s0, P s0 → Tri P (f s0) Q) : Tri P (fun s => f s s) Q := fun s a s' hP he => h s hP s a s' hP he
theorem Tri.modify {P : St → Prop} {f : St → St} {Q : Unit → St → Prop} (h : ∀ s, P s → Q () (f s)) : Tri P (modify f) Q := by
  intro s a s' hP he
  injection he with h1 h2
  subst h2
  exact h s hP

section
variable {o : List Tv} {g : List (List (ByteArray × Mean))} {b : Bool}
theorem read_tri : Tri (Fr o g b) read (fun t s => Fr o g b s ∧ t.ok = true) := by
  intro s t s' hP he
  rw [read, next] at he
  cases hp : pop s with
  | none => rw [hp] at he; cases he
  | some x =>
    obtain ⟨u, s1⟩ := x
    rw [hp] at he
    simp only at he
    by_cases hst : 200000 ≤ s.steps
    · simp only [if_pos hst] at he; cases he
    simp only [if_neg hst] at he
    injection he with h1 h2
    subst h1 h2
    obtain ⟨hG, h1, h2, h3⟩ := hP
    unfold pop at hp
    cases hl : s.lists with
    | cons l ls =>
      rw [hl] at hp
      cases l with
      | nil => cases hp
      | cons t l =>
        simp only [Option.some.injEq, Prod.mk.injEq] at hp
        obtain ⟨rfl, rfl⟩ := hp
        refine ⟨⟨⟨hG.rest, ?_, hG.means, hG.groups, hG.out⟩, h1, h2, h3⟩, hG.lists (t :: l) (by rw [hl]; simp) t (by simp)⟩
        intro l' hl' u hu
        have hls : ∀ l'' ∈ ls, ∀ t ∈ l'', t.ok = true := fun l'' h => hG.lists l'' (by rw [hl]; simp [h])
        by_cases he : l.isEmpty
        · simp only [if_pos he] at hl'; exact hls l' hl' u hu
        · simp only [if_neg he] at hl'
          rcases List.mem_cons.1 hl' with rfl | hl'
          · exact hG.lists (t :: l') (by rw [hl]; simp) u (by simp [hu])
          · exact hls l' hl' u hu
    | nil =>
      rw [hl] at hp
      cases hr : s.rest with
      | nil => rw [hr] at hp; cases hp
      | cons t r =>
        rw [hr] at hp
        simp only [Option.some.injEq, Prod.mk.injEq] at hp
        obtain ⟨rfl, rfl⟩ := hp
        refine ⟨⟨⟨fun u hu => hG.rest u (by rw [hr]; simp [hu]), ?_, hG.means, hG.groups, hG.out⟩, h1, h2, h3⟩, hG.rest t (by rw [hr]; simp)⟩
        exact fun l hl => by simp at hl
theorem readName_tri : Tri (Fr o g b) readName (fun t s => Fr o g b s ∧ (t.ok = true ∧ isName t = true)) := by
  unfold readName
  refine read_tri.bind fun t => ?_
  refine Tri.pre fun ht => Tri.ite (fun h => Tri.pure _ fun s hs => ⟨hs, ht, h⟩) (fun _ => Tri.bad _)
theorem demand_tri (t : Tv) (x : ByteArray) : Tri (Fr o g b) (demand t x) (fun _ s => Fr o g b s) := by
  unfold demand
  exact Tri.ite (fun _ => Tri.pure _ fun _ h => h) (fun _ => Tri.bad _)
theorem readSign_tri (x : ByteArray) : Tri (Fr o g b) (readSign x) (fun _ s => Fr o g b s) := by
  unfold readSign
  exact read_tri.bind fun t => (demand_tri t x).weak (fun _ h => h.1) (fun _ _ h => h)
theorem ok_word {t : Tv} (h : t.ok = true) (hk : t.k = 1) : t.t.data.toList ∈ Lx.wds := by
  rw [Tv.ok, Lx.vldT, hk] at h
  simp only [show ¬ (1 : Int) = 2 by decide, if_false, show ¬ (1 : Int) = 0 by decide, if_true] at h
  by_cases hp : ¬ (t.p = 0 ∧ t.q = 0)
  · rw [if_pos hp] at h; cases h
  · rw [if_neg hp] at h; exact of_decide_eq_true h
theorem meaningOf_ok {s : St} {t : Tv} (hG : Good s) (h : t.ok = true) : MeanOk (meaningOf s t) := by
  rw [meaningOf]
  by_cases hk : t.k = 1
  · rw [if_pos hk]; exact ok_word h hk
  · rw [if_neg hk]; exact hG.means _
theorem Fr.set {s : St} (h : Fr o g b s) {n : ByteArray} {m : Mean} (hm : MeanOk m) : Fr o g b (setMean n m s) := by
  obtain ⟨hG, h1, h2, h3⟩ := h
  refine ⟨⟨hG.rest, hG.lists, fun x => ?_, hG.groups, hG.out⟩, h1, h2, h3⟩
  show MeanOk (if x = n then m else s.means x)
  by_cases e : x = n
  · rw [if_pos e]; exact hm
  · rw [if_neg e]; exact hG.means x
theorem doLet_tri : Tri (Fr o g b) doLet (fun _ s => Fr o g b s) := by
  unfold doLet
  refine readName_tri.bind fun n => Tri.pre fun _ => (readSign_tri _).bind fun _ => readName_tri.bind fun u => Tri.pre fun hu => (readSign_tri _).bind fun _ => Tri.modify fun s hs => hs.set (meaningOf_ok hs.1 hu.1)
theorem params_tri : ∀ (f : Nat) (text : Bool) (pl : Pl) (n : Nat), Tri (Fr o g b) (params f text pl n) (fun _ s => Fr o g b s)
  | 0, _, _, _ => by unfold params; exact Tri.early
  | f + 1, text, pl, n => by
    unfold params
    refine readName_tri.bind fun name => Tri.pre fun _ => Tri.ite (fun _ => Tri.bad _) fun _ => read_tri.bind fun t => Tri.pre fun _ => Tri.ite (fun _ => (demand_tri _ _).bind fun _ => Tri.pure _ fun _ h => h) fun _ => params_tri f text _ _
theorem parGroup_tri (f : Nat) (pl : Pl) : Tri (Fr o g b) (parGroup f pl) (fun _ s => Fr o g b s) := by
  unfold parGroup
  refine readName_tri.bind fun k => Tri.pre fun _ => Tri.ite (fun _ => (params_tri _ _ _ _).bind fun r => Tri.pure _ fun _ h => h) fun _ => Tri.bad _
theorem parGroups_tri : ∀ (f : Nat) (pl : Pl) (gs : List Par), Tri (Fr o g b) (parGroups f pl gs) (fun _ s => Fr o g b s)
  | 0, _, _ => by unfold parGroups; exact Tri.early
  | f + 1, pl, gs => by
    unfold parGroups
    refine read_tri.bind fun t => Tri.pre fun _ => Tri.ite (fun _ => (parGroup_tri f pl).bind fun r => parGroups_tri f _ _) fun _ => Tri.pure _ fun _ h => h
theorem piece_tok (pl : Pl) (t : Tv) : (piece pl t).tok = t := by
  unfold piece
  by_cases h : t.k = 0
  · rw [if_pos h]
  · rw [if_neg h]
theorem snoc_ok {l : List Piece} {pl : Pl} {t : Tv} (hl : ∀ p ∈ l, p.tok.ok = true) (ht : t.ok = true) : ∀ p ∈ l ++ [piece pl t], p.tok.ok = true := fun p hp => by
  rcases List.mem_append.1 hp with h | h
  · exact hl p h
  · rw [List.mem_singleton.1 h, piece_tok]; exact ht
theorem body_tri : ∀ (f : Nat) (pl : Pl) (n : Nat) (l : List Piece), (∀ p ∈ l, p.tok.ok = true) → Tri (Fr o g b) (body f pl n l) (fun r s => Fr o g b s ∧ ∀ p ∈ r, p.tok.ok = true)
  | 0, _, _, _, _ => by unfold body; exact Tri.early
  | f + 1, pl, n, l, hl => by
    unfold body
    refine read_tri.bind fun t => Tri.pre fun ht => ?_
    intro s a s' hP he
    by_cases h1 : meansW s t sEnddef = true
    · by_cases h2 : n = 0
      · simp only [if_pos h1, if_pos h2] at he
        injection he with e1 e2
        subst e1 e2
        exact ⟨hP, hl⟩
      · simp only [if_pos h1, if_neg h2] at he
        exact body_tri f pl (n - 1) _ (snoc_ok hl ht) s a s' hP he
    · by_cases h2 : meansW s t sDef = true
      · simp only [if_neg h1, if_pos h2] at he
        exact body_tri f pl (n + 1) _ (snoc_ok hl ht) s a s' hP he
      · simp only [if_neg h1, if_neg h2] at he
        exact body_tri f pl n _ (snoc_ok hl ht) s a s' hP he
theorem define_tri (f : Nat) : Tri (Fr o g b) (define f) (fun _ s => Fr o g b s) := by
  unfold define
  refine readName_tri.bind fun n => Tri.pre fun _ => (parGroups_tri f _ _).bind fun r => (demand_tri _ _).bind fun _ => (body_tri f _ _ _ (fun p hp => by simp at hp)).bind fun bd => Tri.pre fun hb => Tri.modify fun s hs => hs.set hb
def allOk (l : List Tv) : Prop := ∀ t ∈ l, t.ok = true
theorem allOk.snoc {l : List Tv} {t : Tv} (h : allOk l) (ht : t.ok = true) : allOk (l ++ [t]) := fun u hu => by
  rcases List.mem_append.1 hu with h' | h'
  · exact h u h'
  · rw [List.mem_singleton.1 h']; exact ht
theorem argument_tri : ∀ (f : Nat) (text : Bool) (op : List ByteArray) (l : List Tv), allOk l → Tri (Fr o g b) (argument f text op l) (fun r s => Fr o g b s ∧ allOk r.1)
  | 0, _, _, _, _ => by unfold argument; exact Tri.early
  | f + 1, text, op, l, hl => by
    unfold argument
    refine read_tri.bind fun t => Tri.pre fun ht => Tri.ite (fun _ => Tri.ite (fun _ => Tri.pure _ fun _ h => ⟨h, hl⟩) fun _ => ?_) fun _ => argument_tri f text op _ (hl.snoc ht)
    cases bracketed op t with
    | none => exact Tri.bad _
    | some op' => exact argument_tri f text op' _ (hl.snoc ht)
theorem args1_tri (f : Nat) (text : Bool) : ∀ (k : Nat) (l : List (List Tv)), (∀ x ∈ l, allOk x) → Tri (Fr o g b) (args1 f text k l) (fun r s => Fr o g b s ∧ ∀ x ∈ r, allOk x)
  | 0, l, hl => by unfold args1; exact Tri.pure _ fun _ h => ⟨h, hl⟩
  | k + 1, l, hl => by
    unfold args1
    refine (argument_tri f text [] [] (fun t ht => by simp at ht)).bind fun r => Tri.pre fun hr => (demand_tri _ _).bind fun _ => args1_tri f text k _ ?_
    intro x hx
    rcases List.mem_append.1 hx with h | h
    · exact hl x h
    · rw [List.mem_singleton.1 h]; exact hr
theorem args_tri (f : Nat) : ∀ (gs : List Par) (l : List (List Tv)), (∀ x ∈ l, allOk x) → Tri (Fr o g b) (args f gs l) (fun r s => Fr o g b s ∧ ∀ x ∈ r, allOk x)
  | [], l, hl => by unfold args; exact Tri.pure _ fun _ h => ⟨h, hl⟩
  | p :: gs, l, hl => by
    unfold args
    exact (readSign_tri _).bind fun _ => (args1_tri f _ _ _ hl).bind fun r => Tri.pre fun hr => args_tri f gs r hr
theorem sign_ok (t : Tv) (x : ByteArray) (hx : x.data.toList ∈ Lx.sgs) : (signAt t x).ok = true := by
  rw [signAt, Tv.ok, Lx.vldT]
  simp [hx]
theorem getD_ok {l : List (List Tv)} (h : ∀ x ∈ l, allOk x) (i : Nat) : allOk (l.getD i []) := by
  rw [List.getD_eq_getElem?_getD]
  cases hx : l[i]? with
  | none => exact fun t ht => by simp at ht
  | some x => exact h x (List.mem_of_getElem? hx)
theorem listOf_ok {m : Mac} {ar : List (List Tv)} (hm : ∀ p ∈ m.body, p.tok.ok = true) (ha : ∀ x ∈ ar, allOk x) : allOk (listOf m ar) := by
  intro t ht
  obtain ⟨p, hp, hx⟩ := List.mem_flatMap.1 ht
  rw [pieceToks] at hx
  by_cases h0 : p.arg = 0
  · rw [if_pos h0, List.mem_singleton] at hx; rw [hx]; exact hm p hp
  rw [if_neg h0] at hx
  by_cases h1 : p.text = true
  · rw [if_pos h1] at hx; exact getD_ok ha _ t hx
  rw [if_neg h1] at hx
  rcases List.mem_append.1 hx with hx | hx
  · rcases List.mem_cons.1 hx with rfl | hx
    · exact sign_ok _ _ (by decide +kernel)
    · exact getD_ok ha _ t hx
  · rw [List.mem_singleton.1 hx]; exact sign_ok _ _ (by decide +kernel)
theorem replace_tri (f : Nat) (t : Tv) (m : Mac) (hm : ∀ p ∈ m.body, p.tok.ok = true) : Tri (Fr o g b) (replace f t m) (fun _ s => Fr o g b s) := by
  unfold replace
  refine (args_tri f _ _ (fun x hx => by simp at hx)).bind fun ar => Tri.pre fun har => Tri.ite (fun _ => Tri.bad _) fun _ => ?_
  intro s a s' hP he
  simp only at he
  by_cases h2 : 200 < (if (listOf m ar).isEmpty = true then s.lists else listOf m ar :: s.lists).length
  · rw [if_pos h2] at he; cases he
  rw [if_neg h2] at he
  injection he with _ e
  subst e
  obtain ⟨hG, h1, h2, h3⟩ := hP
  refine ⟨⟨hG.rest, ?_, hG.means, hG.groups, hG.out⟩, h1, h2, h3⟩
  intro l hl
  by_cases hE : (listOf m ar).isEmpty = true
  · simp only [if_pos hE] at hl; exact hG.lists l hl
  · simp only [if_neg hE] at hl
    rcases List.mem_cons.1 hl with rfl | hl
    · exact listOf_ok hm har
    · exact hG.lists l hl
end
end Z
end Mx
end Go.Proofs.YtnhcjgnohnedaaaGreatDoor

namespace Go.Proofs.YtnhcjgnohnedaaaGreatDoor
namespace Mx
namespace Z

/-- At least n steps. -/
def Least (n : Nat) (s : St) : Prop := n ≤ s.steps
section
variable {n : Nat}
theorem read_least : Tri (Least n) read (fun _ s => Least n s) := by
  intro s t s' hP he
  rw [read, next] at he
  cases hp : pop s with
  | none => rw [hp] at he; cases he
  | some x =>
    obtain ⟨u, s1⟩ := x
    rw [hp] at he
    simp only at he
    by_cases hst : 200000 ≤ s.steps
    · simp only [if_pos hst] at he; cases he
    simp only [if_neg hst] at he
    injection he with h1 h2
    subst h2
    have := hP
    unfold Least at *
    show n ≤ s.steps + 1
    omega
theorem readName_least : Tri (Least n) readName (fun _ s => Least n s) := by
  unfold readName
  exact read_least.bind fun t => Tri.ite (fun _ => Tri.pure _ fun _ h => h) (fun _ => Tri.bad _)
theorem demand_least (t : Tv) (x : ByteArray) : Tri (Least n) (demand t x) (fun _ s => Least n s) := by
  unfold demand
  exact Tri.ite (fun _ => Tri.pure _ fun _ h => h) (fun _ => Tri.bad _)
theorem readSign_least (x : ByteArray) : Tri (Least n) (readSign x) (fun _ s => Least n s) := by
  unfold readSign
  exact read_least.bind fun t => demand_least t x
theorem doLet_least : Tri (Least n) doLet (fun _ s => Least n s) := by
  unfold doLet
  exact readName_least.bind fun _ => (readSign_least _).bind fun _ => readName_least.bind fun _ => (readSign_least _).bind fun _ => Tri.modify fun s hs => hs
theorem params_least : ∀ (f : Nat) (text : Bool) (pl : Pl) (k : Nat), Tri (Least n) (params f text pl k) (fun _ s => Least n s)
  | 0, _, _, _ => by unfold params; exact Tri.early
  | f + 1, text, pl, k => by
    unfold params
    exact readName_least.bind fun _ => Tri.ite (fun _ => Tri.bad _) fun _ => read_least.bind fun t => Tri.ite (fun _ => (demand_least _ _).bind fun _ => Tri.pure _ fun _ h => h) fun _ => params_least f text _ _
theorem parGroup_least (f : Nat) (pl : Pl) : Tri (Least n) (parGroup f pl) (fun _ s => Least n s) := by
  unfold parGroup
  exact readName_least.bind fun _ => Tri.ite (fun _ => (params_least _ _ _ _).bind fun r => Tri.pure _ fun _ h => h) fun _ => Tri.bad _
theorem parGroups_least : ∀ (f : Nat) (pl : Pl) (gs : List Par), Tri (Least n) (parGroups f pl gs) (fun _ s => Least n s)
  | 0, _, _ => by unfold parGroups; exact Tri.early
  | f + 1, pl, gs => by
    unfold parGroups
    exact read_least.bind fun t => Tri.ite (fun _ => (parGroup_least f pl).bind fun r => parGroups_least f _ _) fun _ => Tri.pure _ fun _ h => h
theorem body_least : ∀ (f : Nat) (pl : Pl) (k : Nat) (l : List Piece), Tri (Least n) (body f pl k l) (fun _ s => Least n s)
  | 0, _, _, _ => by unfold body; exact Tri.early
  | f + 1, pl, k, l => by
    unfold body
    refine read_least.bind fun t => ?_
    intro s a s' hP he
    by_cases h1 : meansW s t sEnddef = true
    · by_cases h2 : k = 0
      · simp only [if_pos h1, if_pos h2] at he
        injection he with e1 e2
        subst e2
        exact hP
      · simp only [if_pos h1, if_neg h2] at he
        exact body_least f pl (k - 1) _ s a s' hP he
    · by_cases h2 : meansW s t sDef = true
      · simp only [if_neg h1, if_pos h2] at he
        exact body_least f pl (k + 1) _ s a s' hP he
      · simp only [if_neg h1, if_neg h2] at he
        exact body_least f pl k _ s a s' hP he
theorem define_least (f : Nat) : Tri (Least n) (define f) (fun _ s => Least n s) := by
  unfold define
  exact readName_least.bind fun _ => (parGroups_least f _ _).bind fun r => (demand_least _ _).bind fun _ => (body_least f _ _ _).bind fun bd => Tri.modify fun s hs => hs
theorem argument_least : ∀ (f : Nat) (text : Bool) (op : List ByteArray) (l : List Tv), Tri (Least n) (argument f text op l) (fun _ s => Least n s)
  | 0, _, _, _ => by unfold argument; exact Tri.early
  | f + 1, text, op, l => by
    unfold argument
    refine read_least.bind fun t => Tri.ite (fun _ => Tri.ite (fun _ => Tri.pure _ fun _ h => h) fun _ => ?_) fun _ => argument_least f text op _
    cases bracketed op t with
    | none => exact Tri.bad _
    | some op' => exact argument_least f text op' _
theorem args1_least (f : Nat) (text : Bool) : ∀ (k : Nat) (l : List (List Tv)), Tri (Least n) (args1 f text k l) (fun _ s => Least n s)
  | 0, l => by unfold args1; exact Tri.pure _ fun _ h => h
  | k + 1, l => by
    unfold args1
    exact (argument_least f text [] []).bind fun r => (demand_least _ _).bind fun _ => args1_least f text k _
theorem args_least (f : Nat) : ∀ (gs : List Par) (l : List (List Tv)), Tri (Least n) (args f gs l) (fun _ s => Least n s)
  | [], l => by unfold args; exact Tri.pure _ fun _ h => h
  | p :: gs, l => by
    unfold args
    exact (readSign_least _).bind fun _ => (args1_least f _ _ _).bind fun r => args_least f gs r
theorem replace_least (f : Nat) (t : Tv) (m : Mac) : Tri (Least n) (replace f t m) (fun _ s => Least n s) := by
  unfold replace
  refine (args_least f _ _).bind fun ar => Tri.ite (fun _ => Tri.bad _) fun _ => ?_
  intro s a s' hP he
  simp only at he
  by_cases h2 : 200 < (if (listOf m ar).isEmpty = true then s.lists else listOf m ar :: s.lists).length
  · rw [if_pos h2] at he; cases he
  rw [if_neg h2] at he
  injection he with _ e
  subst e
  exact hP
theorem put_least (t : Tv) (k : Int) (x : ByteArray) : Tri (Least n) (put t k x) (fun _ s => Least n s) := by
  intro s a s' hP he
  rw [put] at he
  by_cases hl : s.out.length = 20000
  · rw [if_pos hl] at he; cases he
  rw [if_neg hl] at he
  injection he with _ e
  subst e
  exact hP
theorem addSaved_steps (x : ByteArray) (s : St) : (addSaved x s).steps = s.steps := by
  unfold addSaved
  split <;> rfl
theorem save_least : Tri (Least n) save (fun _ s => Least n s) := by
  unfold save
  refine readName_least.bind fun t => (put_least _ _ _).bind fun _ => Tri.modify fun s hs => ?_
  show n ≤ (addSaved t.t s).steps
  rw [addSaved_steps]; exact hs
theorem endGroup_steps (s : St) : (endGroup s).steps = s.steps := by
  have key : ∀ (l : List (ByteArray × Mean)) (s : St), (l.foldl (fun s p => setMean p.1 p.2 s) s).steps = s.steps := by
    intro l
    induction l with
    | nil => intro s; rfl
    | cons p l ih => intro s; rw [List.foldl_cons, ih]; rfl
  unfold endGroup
  split
  · rfl
  · exact key _ s
theorem takeOther_least (t : Tv) : Tri (Least n) (takeOther t) (fun _ s => Least n s) := by
  intro s a s' hP he
  have hP' : Least n (unsave s) := hP
  rw [takeOther] at he
  by_cases hc : (s.saving && isSign t (str [44])) = true
  · simp only [hc, if_true] at he
    exact ((put_least t t.k t.t).bind fun _ => save_least) (unsave s) a s' hP' he
  · simp only [hc] at he
    exact ((put_least t t.k t.t).bind (R := fun _ s => Least n s) fun _ => Tri.pure _ fun s hs => hs) (unsave s) a s' hP' he
theorem takeWord_least (fi : Nat) (t : Tv) (w : ByteArray) : Tri (Least n) (takeWord fi t w) (fun _ s => Least n s) := by
  by_cases c3 : w = sLet
  · have e : takeWord fi t w = _ := if_pos c3
    rw [e]; exact doLet_least
  by_cases c2 : w = sDef
  · have e : takeWord fi t w = _ := Eq.trans (if_neg c3) (if_pos c2)
    rw [e]; exact define_least fi
  intro s a s' hP he
  rw [takeWord_eq c3 c2] at he
  by_cases hc : w = sEnddef ∨ (w = sEnd ∧ s.groups = [])
  · rw [if_pos hc] at he; cases he
  rw [if_neg hc] at he
  have hP' : Least n (unsave s) := hP
  have hpre : Tri (Least n) (if w = sBegin then modify (fun s => { s with groups := [] :: s.groups }) else if w = sEnd then modify endGroup else pure ()) (fun _ s => Least n s) :=
    Tri.ite (fun _ => Tri.modify fun s hs => hs) fun _ => Tri.ite (fun _ => Tri.modify fun s hs => by unfold Least; rw [endGroup_steps]; exact hs) fun _ => Tri.pure _ fun _ h => h
  exact (hpre.bind fun _ => (put_least t 1 w).bind fun _ => Tri.ite (fun _ => save_least) fun _ => Tri.pure _ fun _ h => h) (unsave s) a s' hP' he
theorem take_least (fi : Nat) (t : Tv) : Tri (Least n) (take fi t) (fun _ s => Least n s) := by
  intro s a s' hP he
  by_cases hn : isName t = true
  · cases hm : meaningOf s t with
    | mac m => rw [tk_mac hn hm] at he; exact replace_least fi t m s a s' hP he
    | word w => rw [tk_word hn hm] at he; exact takeWord_least fi t w s a s' hP he
    | var => rw [tk_var hn hm] at he; exact put_least t 0 t.t (unsave s) a s' hP he
  · rw [tk_other hn] at he
    exact takeOther_least t s a s' hP he
end
theorem take_steps {fi : Nat} {t : Tv} {s s' : St} {a : Unit} (h : take fi t s = .ok a s') : s.steps ≤ s'.steps := take_least (n := s.steps) fi t s a s' (Nat.le_refl _) h
/-- A run: the next token is taken, and so on. -/
theorem run_none {fi f : Nat} {s : St} (h : pop s = none) : run fi (f + 1) s = .ok () s := by
  have hq : next s = .ok none s := by rw [next, h]
  rw [run, bind_ok hq]; rfl
theorem run_some {fi f : Nat} {s s' : St} {t : Tv} (h : pop s = some (t, s')) (hs : s.steps < 200000) : run fi (f + 1) s = (take fi t >>= fun _ => run fi f) { s' with steps := s.steps + 1 } := by
  have hq : next s = .ok (some t) { s' with steps := s.steps + 1 } := by
    rw [next, h]
    simp only [if_neg (show ¬ 200000 ≤ s.steps by omega)]
  rw [run, bind_ok hq]
theorem run_over {fi f : Nat} {s s' : St} {t : Tv} (h : pop s = some (t, s')) (hs : ¬ s.steps < 200000) : run fi (f + 1) s = .bad (failAt 21 t) := by
  have hq : next s = .bad (failAt 21 t) := by
    rw [next, h]
    simp only [if_pos (show 200000 ≤ s.steps by omega)]
  rw [run, bind_bad hq]
end Z
end Mx
end Go.Proofs.YtnhcjgnohnedaaaGreatDoor

namespace Go.Proofs.YtnhcjgnohnedaaaGreatDoor
open Go.RowKit

theorem blk13 {w : World} {b : Nat} {t : TypeId} {c0 c1 c2 c3 c4 c5 c6 c7 c8 c9 c10 c11 c12 : Value} (h : w.heap[b]? = some (.cells #[c0, c1, c2, c3, c4, c5, c6, c7, c8, c9, c10, c11, c12] t (0, 0))) :
    (w.cell? ⟨b, 0, none⟩ = some c0 ∧ w.cell? ⟨b, 1, none⟩ = some c1 ∧ w.cell? ⟨b, 2, none⟩ = some c2 ∧ w.cell? ⟨b, 3, none⟩ = some c3 ∧ w.cell? ⟨b, 4, none⟩ = some c4 ∧ w.cell? ⟨b, 5, none⟩ = some c5 ∧ w.cell? ⟨b, 6, none⟩ = some c6 ∧ w.cell? ⟨b, 7, none⟩ = some c7 ∧ w.cell? ⟨b, 8, none⟩ = some c8 ∧ w.cell? ⟨b, 9, none⟩ = some c9 ∧ w.cell? ⟨b, 10, none⟩ = some c10 ∧ w.cell? ⟨b, 11, none⟩ = some c11 ∧ w.cell? ⟨b, 12, none⟩ = some c12) ∧ (w.frozen? ⟨b, 0, none⟩ = false ∧ w.frozen? ⟨b, 1, none⟩ = false ∧ w.frozen? ⟨b, 2, none⟩ = false ∧ w.frozen? ⟨b, 3, none⟩ = false ∧ w.frozen? ⟨b, 4, none⟩ = false ∧ w.frozen? ⟨b, 5, none⟩ = false ∧ w.frozen? ⟨b, 6, none⟩ = false ∧ w.frozen? ⟨b, 7, none⟩ = false ∧ w.frozen? ⟨b, 8, none⟩ = false ∧ w.frozen? ⟨b, 9, none⟩ = false ∧ w.frozen? ⟨b, 10, none⟩ = false ∧ w.frozen? ⟨b, 11, none⟩ = false ∧ w.frozen? ⟨b, 12, none⟩ = false) ∧ b < w.heap.size := by
  have hf : ∀ i, w.frozen? ⟨b, i, none⟩ = false := fun i => by simp [World.frozen?, h]
  exact ⟨⟨cell_of_row w b 0 _ _ _ h, cell_of_row w b 1 _ _ _ h, cell_of_row w b 2 _ _ _ h, cell_of_row w b 3 _ _ _ h, cell_of_row w b 4 _ _ _ h, cell_of_row w b 5 _ _ _ h, cell_of_row w b 6 _ _ _ h, cell_of_row w b 7 _ _ _ h, cell_of_row w b 8 _ _ _ h, cell_of_row w b 9 _ _ _ h, cell_of_row w b 10 _ _ _ h, cell_of_row w b 11 _ _ _ h, cell_of_row w b 12 _ _ _ h⟩, ⟨hf 0, hf 1, hf 2, hf 3, hf 4, hf 5, hf 6, hf 7, hf 8, hf 9, hf 10, hf 11, hf 12⟩, (Array.getElem?_eq_some_iff.1 h).1⟩
set_option maxRecDepth 100000 in
set_option maxHeartbeats 4000000 in
theorem expanded_arg (A : Option Addr) (c : Nat) (l : List Tv) (w : World) (he : EnvL w) (h1 : TokSl w w.heap.size A l) (hl : l.length ≤ 9223372036854775807) (hf : ∀ x ∈ l, x.fit) (hbad : l.all Tv.ok = false) :
    Calls Tryz.prog 23 #[.slice A l.length c] w fun e w' => e = .returned (.tuple #[.agg zeroE, .agg #[.int .i64 2, .string ⟨#[]⟩, .int .i64 0, .int .i64 0]]) ∧ Below w.heap.size w w' := by
  have HV := Lib.hid (fun W (hW : EnvL W) (h : TokSl W W.heap.size A l) => cvalid_any A c l W hW h hl hf)
  rw [hbad] at HV
  have HE := Lib.hid he
  have H1 := Lib.hid h1
  generalize l.length = n at *
  clear he h1 hf hbad
  have hmf : ∀ (fn : Fn) (first cap : Array Value) (w : World), (Instr.makeFunc fn first cap).run Tryz.prog w = .ok (.func fn first cap) w := fun _ _ _ _ => rfl
  go_enter_defers Tryz.func23, Tryz.ntmps23
  go_wp2_with fail
  refine (HV.out _ (HE.out.below (((Below.refl _ _).alloc (Nat.le_refl _) _).alloc (by simp) _)) ((H1.out.below ((((Below.refl _ _).alloc (Nat.le_refl _) _).alloc (by simp) _))).more (by simp; omega))).mono ?_; rintro e w1 ⟨rfl, hb⟩
  have B1 := Lib.hid ((((Below.refl w.heap.size w).alloc (Nat.le_refl _) (.cells #[.slice none 0 0, .slice none 0 0, .int .i64 0, .string ⟨#[]⟩, .int .i64 0, .int .i64 0, .int .i64 0, .int .i64 0, .int .i64 0, .map none, .slice none 0 0, .bool false, .slice none 0 0] 48)).alloc (by simp) (.cells #[.int .i64 0, .string ⟨#[]⟩, .int .i64 0, .int .i64 0] 27)).trans (hb.mono (by simp; omega)))
  have KB := Lib.hid ((hb.block w.heap.size (by simp; omega)).trans (blk_alloc (heap_alloc_new w (.cells #[.slice none 0 0, .slice none 0 0, .int .i64 0, .string ⟨#[]⟩, .int .i64 0, .int .i64 0, .int .i64 0, .int .i64 0, .int .i64 0, .map none, .slice none 0 0, .bool false, .slice none 0 0] 48)) (.cells #[.int .i64 0, .string ⟨#[]⟩, .int .i64 0, .int .i64 0] 27)))
  have KC := Lib.hid ((hb.block (w.heap.size + 1) (by simp)).trans (blk_new2 w (.cells #[.slice none 0 0, .slice none 0 0, .int .i64 0, .string ⟨#[]⟩, .int .i64 0, .int .i64 0, .int .i64 0, .int .i64 0, .int .i64 0, .map none, .slice none 0 0, .bool false, .slice none 0 0] 48) (.cells #[.int .i64 0, .string ⟨#[]⟩, .int .i64 0, .int .i64 0] 27)))
  obtain ⟨⟨b0, b1, b2, b3, b4, b5, b6, b7, b8, b9, b10, b11, b12⟩, ⟨g0, g1, g2, g3, g4, g5, g6, g7, g8, g9, g10, g11, g12⟩, bl⟩ := blk13 KB.out
  obtain ⟨⟨d0, d1, d2, d3⟩, ⟨f0, f1, f2, f3⟩, cl⟩ := blk4 KC.out
  clear hb
  go_wp2_with fail
  have hne : w.heap.size ≠ w.heap.size + 1 := by omega
  have T := (turns13 (fun k => k = w.heap.size ∨ k = w.heap.size + 1) w1 (Or.inl rfl) (.slice none 0 0) (.slice none 0 0) (.int .i64 0) (.string ⟨#[]⟩) (.int .i64 0) (.int .i64 0) (.int .i64 0) (.int .i64 0) (.int .i64 0) (.map none) (.slice none 0 0) (.bool false) (.slice none 0 0)).then (turns4 _ _ (Or.inr rfl) (.int .i64 2) (.string ⟨#[]⟩) (.int .i64 0) (.int .i64 0))
  have h4 := (far4e hne (.int .i64 2) (.string ⟨#[]⟩) (.int .i64 0) (.int .i64 0)).trans (set13 KB.out (.slice none 0 0) (.slice none 0 0) (.int .i64 0) (.string ⟨#[]⟩) (.int .i64 0) (.int .i64 0) (.int .i64 0) (.int .i64 0) (.int .i64 0) (.map none) (.slice none 0 0) (.bool false) (.slice none 0 0))
  have h5 := set4 ((far13 hne.symm (.slice none 0 0) (.slice none 0 0) (.int .i64 0) (.string ⟨#[]⟩) (.int .i64 0) (.int .i64 0) (.int .i64 0) (.int .i64 0) (.int .i64 0) (.map none) (.slice none 0 0) (.bool false) (.slice none 0 0)).trans KC.out) (.int .i64 2) (.string ⟨#[]⟩) (.int .i64 0) (.int .i64 0)
  have BB := B1.out.trans (T.below (fun k hk => by rcases hk with hk | hk <;> omega) B1.out.size)
  clear T KB KC B1 b0 b1 b2 b3 b4 b5 b6 b7 b8 b9 b10 b11 b12 g0 g1 g2 g3 g4 g5 g6 g7 g8 g9 g10 g11 g12 d0 d1 d2 d3 f0 f1 f2 f3 bl cl
  revert h4 h5 BB
  generalize ((((((((((((((((w1.setCell ⟨w.heap.size, 0, none⟩ (.slice none 0 0)).setCell ⟨w.heap.size, 1, none⟩ (.slice none 0 0)).setCell ⟨w.heap.size, 2, none⟩ (.int .i64 0)).setCell ⟨w.heap.size, 3, none⟩ (.string ⟨#[]⟩)).setCell ⟨w.heap.size, 4, none⟩ (.int .i64 0)).setCell ⟨w.heap.size, 5, none⟩ (.int .i64 0)).setCell ⟨w.heap.size, 6, none⟩ (.int .i64 0)).setCell ⟨w.heap.size, 7, none⟩ (.int .i64 0)).setCell ⟨w.heap.size, 8, none⟩ (.int .i64 0)).setCell ⟨w.heap.size, 9, none⟩ (.map none)).setCell ⟨w.heap.size, 10, none⟩ (.slice none 0 0)).setCell ⟨w.heap.size, 11, none⟩ (.bool false)).setCell ⟨w.heap.size, 12, none⟩ (.slice none 0 0)).setCell ⟨w.heap.size + 1, 0, none⟩ (.int .i64 2)).setCell ⟨w.heap.size + 1, 1, none⟩ (.string ⟨#[]⟩)).setCell ⟨w.heap.size + 1, 2, none⟩ (.int .i64 0)).setCell ⟨w.heap.size + 1, 3, none⟩ (.int .i64 0) = W
  intro h4 h5 BB
  obtain ⟨⟨b0, b1, b2, b3, b4, b5, b6, b7, b8, b9, b10, b11, b12⟩, ⟨g0, g1, g2, g3, g4, g5, g6, g7, g8, g9, g10, g11, g12⟩, bl⟩ := blk13 h4
  obtain ⟨⟨d0, d1, d2, d3⟩, -, -⟩ := blk4 h5
  refine ⟨.tuple #[.agg zeroE, .agg #[.int .i64 2, .string ⟨#[]⟩, .int .i64 0, .int .i64 0]], ?_, rfl, BB⟩
  simp [results, Tryz.results23, go_sem, b0, b1, b2, b3, b4, b5, b6, b7, b8, b9, b10, b11, b12, d0, d1, d2, d3, zeroE]
end Go.Proofs.YtnhcjgnohnedaaaGreatDoor
