/-
  The mathematics of macros: tokens without definitions are put out as they are, words as words.
-/
import Derived.Test.YtnhcjgnohnedaaaGreatDoorMxM
namespace Go.Proofs.YtnhcjgnohnedaaaGreatDoor
namespace Mx
namespace Z

/-- One token more of what is put out: how many groups are open, and what may come (0 all, 1 a name, 2 a sign that goes on with a save). -/
def pstep (st : Nat × Nat) (t : Tv) : Option (Nat × Nat) :=
  if st.2 = 1 then (if t.k = 0 then some (st.1, 2) else none)
  else if t.k = 1 then
    if t.t = sDef ∨ t.t = sLet ∨ t.t = sEnddef then none
    else if t.t = sBegin then some (st.1 + 1, 0)
    else if t.t = sEnd then (if st.1 = 0 then none else some (st.1 - 1, 0))
    else if t.t = sSave then some (st.1, 1)
    else some (st.1, 0)
  else if st.2 = 2 ∧ isSign t (str [44]) = true then some (st.1, 1)
  else some (st.1, 0)
def acc : Nat × Nat → List Tv → Option (Nat × Nat)
  | st, [] => some st
  | st, t :: l => match pstep st t with
    | some st' => acc st' l
    | none => none
theorem acc_append : ∀ (l m : List Tv) (st st' : Nat × Nat), acc st l = some st' → acc st (l ++ m) = acc st' m
  | [], m, st, st', h => by injection h with h; subst h; rfl
  | t :: l, m, st, st', h => by
    rw [acc] at h
    rw [List.cons_append, acc]
    cases hp : pstep st t with
    | none => rw [hp] at h; cases h
    | some x => rw [hp] at h; exact acc_append l m x st' h
theorem acc_snoc {l : List Tv} {t : Tv} {st st' st'' : Nat × Nat} (h : acc st l = some st') (ht : pstep st' t = some st'') : acc st (l ++ [t]) = some st'' := by
  rw [acc_append l [t] st st' h, acc, ht]; rfl
/-- A name that is spelled as a word is a word. -/
def norm (t : Tv) : Tv := if t.k = 0 ∧ t.t.data.toList ∈ Lx.wds then { t with k := 1 } else t
def m0 (x : ByteArray) : Mean := if x.data.toList ∈ Lx.wds then .word x else .var
theorem bind_ok {α β : Type} {m : M α} {f : α → M β} {s s' : St} {a : α} (h : m s = .ok a s') : (m >>= f) s = f a s' := by
  show M.bind m f s = _
  rw [M.bind, h]
theorem bind_bad {α β : Type} {m : M α} {f : α → M β} {s : St} {x : Flt} (h : m s = .bad x) : (m >>= f) s = .bad x := by
  show M.bind m f s = _
  rw [M.bind, h]
theorem pure_ok {α : Type} (a : α) (s : St) : (pure a : M α) s = .ok a s := rfl
theorem next_rest {s : St} {t : Tv} {r : List Tv} (hl : s.lists = []) (hr : s.rest = t :: r) (hs : s.steps < 200000) : next s = .ok (some t) { s with rest := r, steps := s.steps + 1 } := by
  have hp : pop s = some (t, { s with rest := r }) := by rw [pop, hl, hr]
  rw [next, hp]
  simp only [if_neg (show ¬ 200000 ≤ s.steps by omega)]
theorem next_none {s : St} (hl : s.lists = []) (hr : s.rest = []) : next s = .ok none s := by
  have hp : pop s = none := by rw [pop, hl, hr]
  rw [next, hp]
theorem read_rest {s : St} {t : Tv} {r : List Tv} (hl : s.lists = []) (hr : s.rest = t :: r) (hs : s.steps < 200000) : read s = .ok t { s with rest := r, steps := s.steps + 1 } := by
  rw [read, next_rest hl hr hs]
theorem setMean_same {s : St} {x : ByteArray} {m : Mean} (h : s.means x = m) : setMean x m s = s := by
  have : (fun y => if y = x then m else s.means y) = s.means := funext fun y => by
    by_cases e : y = x
    · rw [if_pos e, e, h]
    · rw [if_neg e]
  rw [setMean, this]
theorem put_ok {s : St} (t : Tv) (k : Int) (x : ByteArray) (h : s.out.length ≠ 20000) : put t k x s = .ok () { s with out := s.out ++ [{ t with k := k, t := x }] } := by rw [put, if_neg h]

structure PInv (l : List Tv) (s : St) (done : List Tv) : Prop where
  split : l = done ++ s.rest
  lists : s.lists = []
  steps : s.steps = done.length
  means : s.means = m0
  groups : ∀ g ∈ s.groups, ∀ p ∈ g, p.2 = m0 p.1
  out : s.out = done.map norm
  small : l.length ≤ 20000
theorem PInv.room {l done : List Tv} {s : St} {t : Tv} {r : List Tv} (h : PInv l s done) (hr : s.rest = t :: r) : done.length < 20000 := by
  have := congrArg List.length h.split
  rw [hr] at this
  simp at this
  have := h.small
  omega
theorem PInv.took {l done : List Tv} {s s' : St} {t : Tv} {r : List Tv} (h : PInv l s done) (hr : s.rest = t :: r) (h1 : s'.rest = r) (h2 : s'.lists = []) (h3 : s'.steps = s.steps + 1) (h4 : s'.means = m0) (h5 : ∀ g ∈ s'.groups, ∀ p ∈ g, p.2 = m0 p.1) (h6 : s'.out = s.out ++ [norm t]) : PInv l s' (done ++ [t]) :=
  ⟨by rw [h.split, hr, h1]; simp, h2, by rw [h3, h.steps]; simp, h4, h5, by rw [h6, h.out]; simp, h.small⟩
theorem endGroup_means (g : List (ByteArray × Mean)) (s : St) (hm : s.means = m0) (h : ∀ p ∈ g, p.2 = m0 p.1) : g.foldl (fun s p => setMean p.1 p.2 s) s = s := by
  induction g generalizing s with
  | nil => rfl
  | cons p g ih =>
    rw [List.foldl_cons, setMean_same (by rw [hm]; exact (h p (by simp)).symm)]
    exact ih s hm (fun q hq => h q (by simp [hq]))
theorem m0_word {x : ByteArray} (h : x.data.toList ∈ Lx.wds) : m0 x = .word x := by rw [m0, if_pos h]
theorem m0_var {x : ByteArray} (h : x.data.toList ∉ Lx.wds) : m0 x = .var := by rw [m0, if_neg h]
/-- A name that is saved. -/
theorem save_ok {l done : List Tv} {s : St} {t : Tv} {r : List Tv} (h : PInv l s done) (hr : s.rest = t :: r) (hk : t.k = 0) (hw : t.t.data.toList ∉ Lx.wds) : ∃ s', save s = .ok () s' ∧ PInv l s' (done ++ [t]) ∧ s'.rest = r ∧ s'.saving = true ∧ s'.groups.length = s.groups.length := by
  have hroom := h.room hr
  have hst := h.steps
  have hol : s.out.length = done.length := by rw [h.out]; simp
  have hn : readName s = .ok t { s with rest := r, steps := s.steps + 1 } := by
    rw [readName, bind_ok (read_rest h.lists hr (by omega)), isName, hk]; rfl
  rw [save, bind_ok hn, bind_ok (put_ok t 0 t.t (by show s.out.length ≠ _; omega))]
  have ht : norm t = { t with k := 0, t := t.t } := by
    rw [norm, if_neg (fun e => hw e.2), ← hk]
  have hmv : s.means t.t = .var := by rw [h.means, m0_var hw]
  show ∃ s', Res.ok () { setMean t.t .var (addSaved t.t { s with rest := r, steps := s.steps + 1, out := s.out ++ [{ t with k := 0, t := t.t }] }) with saving := true } = .ok () s' ∧ _
  obtain ⟨G, hG, hGl, hGm⟩ : ∃ G, addSaved t.t { s with rest := r, steps := s.steps + 1, out := s.out ++ [{ t with k := 0, t := t.t }] } = { s with rest := r, steps := s.steps + 1, out := s.out ++ [{ t with k := 0, t := t.t }], groups := G } ∧ G.length = s.groups.length ∧ ∀ g ∈ G, ∀ p ∈ g, p.2 = m0 p.1 := by
    cases hg : s.groups with
    | nil => exact ⟨[], by simp only [addSaved, hg], rfl, fun g hg => by simp at hg⟩
    | cons g gs =>
      refine ⟨((t.t, s.means t.t) :: g) :: gs, by simp only [addSaved, hg], rfl, ?_⟩
      intro g' hg' p hp
      rcases List.mem_cons.1 hg' with rfl | hg'
      · rcases List.mem_cons.1 hp with rfl | hp
        · show s.means t.t = m0 t.t; rw [h.means]
        · exact h.groups g (by rw [hg]; simp) p hp
      · exact h.groups g' (by rw [hg]; simp [hg']) p hp
  rw [hG]
  have hsm : setMean t.t .var { s with rest := r, steps := s.steps + 1, out := s.out ++ [{ t with k := 0, t := t.t }], groups := G } = { s with rest := r, steps := s.steps + 1, out := s.out ++ [{ t with k := 0, t := t.t }], groups := G } := setMean_same hmv
  simp only [hsm]
  exact ⟨_, rfl, h.took hr rfl h.lists rfl h.means hGm (by rw [ht]), rfl, rfl, hGl⟩
theorem isName_k (t : Tv) : isName t = true ↔ t.k = 0 ∨ t.k = 1 := by simp [isName]
theorem pstep_want {d : Nat} {t : Tv} {x : Nat × Nat} (h : pstep (d, 1) (norm t) = some x) : t.k = 0 ∧ t.t.data.toList ∉ Lx.wds ∧ x = (d, 2) := by
  unfold pstep at h
  simp only [if_true] at h
  by_cases hn : t.k = 0 ∧ t.t.data.toList ∈ Lx.wds
  · have : norm t = { t with k := 1 } := by rw [norm, if_pos hn]
    rw [this] at h
    simp at h
  · have : norm t = t := by rw [norm, if_neg hn]
    rw [this] at h
    by_cases hk : t.k = 0
    · rw [if_pos hk] at h
      exact ⟨hk, fun e => hn ⟨hk, e⟩, by injection h with h; exact h.symm⟩
    · rw [if_neg hk] at h; cases h
/-- Behind a word save, or a sign that goes on with one: what comes is a name, and is saved. -/
theorem save_go {l done : List Tv} {s : St} {d : Nat} {x : Nat × Nat} (h : PInv l s done) (ha : acc (d, 1) (s.rest.map norm) = some x) (hx : x.2 ≠ 1) : ∃ t r s', s.rest = t :: r ∧ save s = .ok () s' ∧ PInv l s' (done ++ [t]) ∧ s'.rest = r ∧ s'.saving = true ∧ s'.groups.length = s.groups.length ∧ acc (d, 2) (r.map norm) = some x := by
  cases hr : s.rest with
  | nil =>
    rw [hr] at ha
    injection ha with ha
    exact absurd (congrArg Prod.snd ha).symm hx
  | cons t r =>
    rw [hr, List.map_cons, acc] at ha
    cases hp : pstep (d, 1) (norm t) with
    | none => rw [hp] at ha; cases ha
    | some st' =>
      rw [hp] at ha
      obtain ⟨hk, hw, rfl⟩ := pstep_want hp
      obtain ⟨s', h1, h2, h3, h4, h5⟩ := save_ok h hr hk hw
      exact ⟨t, r, s', rfl, h1, h2, h3, h4, h5, ha⟩
/-- What a word does that is neither let nor def. -/
theorem takeWord_eq {fi : Nat} {t : Tv} {w : ByteArray} (c3 : ¬ w = sLet) (c2 : ¬ w = sDef) (s : St) : takeWord fi t w s = if w = sEnddef ∨ (w = sEnd ∧ s.groups = []) then .bad (failAt 11 t) else
    ((if w = sBegin then modify (fun s => { s with groups := [] :: s.groups }) else if w = sEnd then modify endGroup else pure ()) >>= fun _ => put t 1 w >>= fun _ => if w = sSave then save else pure ()) (unsave s) := by
  have e : takeWord fi t w = _ := Eq.trans (if_neg c3) (if_neg c2)
  refine (congrFun e s).trans ?_
  by_cases hc : w = sEnddef ∨ (w = sEnd ∧ s.groups = [])
  · exact (if_pos hc).trans (if_pos hc).symm
  · refine (if_neg hc).trans (Eq.trans ?_ (if_neg hc).symm)
    refine congrFun ?_ (unsave s)
    by_cases cb : w = sBegin
    · exact (if_pos cb).trans (by rw [if_pos cb])
    · by_cases ce : w = sEnd
      · exact (if_neg cb).trans ((if_pos ce).trans (by rw [if_neg cb, if_pos ce]))
      · exact (if_neg cb).trans ((if_neg ce).trans (by rw [if_neg cb, if_neg ce]; rfl))
/-- A word that is put out. -/
theorem word_ok {l done : List Tv} {s : St} {t : Tv} {w : ByteArray} {r : List Tv} {fi : Nat} {d : Nat} {md : Nat} {x : Nat × Nat} (h : PInv l s done) (hr : s.rest = t :: r) (hmd : md ≠ 1) (hgl : s.groups.length = d) (hn : norm t = { t with k := 1, t := w }) (hwk : (norm t).k = 1) (ha : acc (d, md) (s.rest.map norm) = some x) (hx : x.2 ≠ 1) :
    ∃ s' done' md', takeWord fi t w { s with rest := r, steps := s.steps + 1 } = .ok () s' ∧ PInv l s' done' ∧ done.length < done'.length ∧ md' ≠ 1 ∧ s'.saving = decide (md' = 2) ∧ acc (s'.groups.length, md') (s'.rest.map norm) = some x := by
  have hroom := h.room hr
  have hol : s.out.length = done.length := by rw [h.out]; simp
  rw [hr, List.map_cons, acc, hn] at ha
  unfold pstep at ha
  simp only [if_neg hmd, if_true] at ha
  by_cases c1 : w = sDef ∨ w = sLet ∨ w = sEnddef
  · rw [if_pos c1] at ha; cases ha
  rw [if_neg c1] at ha
  have c2 : ¬ w = sDef := fun e => c1 (Or.inl e)
  have c3 : ¬ w = sLet := fun e => c1 (Or.inr (Or.inl e))
  have c4 : ¬ w = sEnddef := fun e => c1 (Or.inr (Or.inr e))
  rw [takeWord_eq c3 c2]
  by_cases cb : w = sBegin
  · have n1 : ¬ w = sEnd := by rw [cb]; decide
    have n2 : ¬ w = sSave := by rw [cb]; decide
    rw [if_pos cb] at ha
    simp only [c4, n1, false_and, or_false, if_false, if_pos cb, n2]
    refine ⟨{ s with rest := r, steps := s.steps + 1, saving := false, groups := [] :: s.groups, out := s.out ++ [{ t with k := 1, t := w }] }, done ++ [t], 0, ?_, h.took hr rfl h.lists rfl h.means ?_ (by rw [hn]), by simp, by omega, rfl, by simpa [hgl] using ha⟩
    · rw [bind_ok (show modify _ _ = .ok () _ from rfl), bind_ok (put_ok t 1 w (by show s.out.length ≠ _; omega))]
      rfl
    · intro g hg p hp
      rcases List.mem_cons.1 hg with rfl | hg
      · simp at hp
      · exact h.groups g hg p hp
  rw [if_neg cb] at ha
  by_cases ce : w = sEnd
  · have n2 : ¬ w = sSave := by rw [ce]; decide
    rw [if_pos ce] at ha
    by_cases hd : d = 0
    · rw [if_pos hd] at ha; cases ha
    rw [if_neg hd] at ha
    obtain ⟨g, gs, hg⟩ : ∃ g gs, s.groups = g :: gs := by
      cases hg : s.groups with
      | nil => rw [hg] at hgl; exact absurd hgl.symm hd
      | cons g gs => exact ⟨g, gs, rfl⟩
    · have hgne : ¬ ({ s with rest := r, steps := s.steps + 1 } : St).groups = [] := by simp [hg]
      have hcond : ¬ (w = sEnddef ∨ (w = sEnd ∧ ({ s with rest := r, steps := s.steps + 1 } : St).groups = [])) := by
        rintro (e | ⟨-, e⟩)
        · exact c4 e
        · exact hgne e
      simp only [if_neg hcond, if_neg cb, if_pos ce, n2, if_false]
      refine ⟨{ s with rest := r, steps := s.steps + 1, saving := false, groups := gs, out := s.out ++ [{ t with k := 1, t := w }] }, done ++ [t], 0, ?_, h.took hr rfl h.lists rfl h.means ?_ (by rw [hn]), by simp, by omega, rfl, ?_⟩
      · have he : endGroup (unsave { s with rest := r, steps := s.steps + 1 }) = { s with rest := r, steps := s.steps + 1, saving := false, groups := gs } := by
          rw [endGroup]
          simp only [unsave, hg]
          rw [endGroup_means g _ (by exact h.means) (h.groups g (by rw [hg]; simp))]
        rw [bind_ok (show modify endGroup _ = .ok () _ from rfl), he, bind_ok (put_ok t 1 w (by show s.out.length ≠ _; omega))]
        rfl
      · exact fun g' hg' => h.groups g' (by rw [hg]; simp [hg'])
      · have : gs.length = d - 1 := by rw [← hgl, hg]; simp
        simpa [this] using ha
  rw [if_neg ce] at ha
  have hcond : ¬ (w = sEnddef ∨ (w = sEnd ∧ ({ s with rest := r, steps := s.steps + 1 } : St).groups = [])) := by
    rintro (e | ⟨e, -⟩)
    · exact c4 e
    · exact ce e
  have hput : PInv l { s with rest := r, steps := s.steps + 1, saving := false, out := s.out ++ [{ t with k := 1, t := w }] } (done ++ [t]) := h.took hr rfl h.lists rfl h.means h.groups (by rw [hn])
  have hp2 : put t 1 w (unsave { s with rest := r, steps := s.steps + 1 }) = .ok () { s with rest := r, steps := s.steps + 1, saving := false, out := s.out ++ [{ t with k := 1, t := w }] } := put_ok t 1 w (by show s.out.length ≠ _; omega)
  by_cases cs : w = sSave
  · rw [if_pos cs] at ha
    simp only [if_neg hcond, if_neg cb, if_neg ce, if_pos cs]
    obtain ⟨t', r', s', h1, h2, h3, h4, h5, h6, h7⟩ := save_go hput ha hx
    refine ⟨s', done ++ [t] ++ [t'], 2, ?_, h3, by simp, by omega, by rw [h5]; rfl, ?_⟩
    · rw [bind_ok (pure_ok () _), bind_ok hp2]; exact h2
    · rw [h6, h4]; show acc (s.groups.length, 2) _ = _; rw [hgl]; exact h7
  · rw [if_neg cs] at ha
    simp only [if_neg hcond, if_neg cb, if_neg ce, if_neg cs]
    refine ⟨_, done ++ [t], 0, ?_, hput, by simp, by omega, rfl, ?_⟩
    · rw [bind_ok (pure_ok () _), bind_ok hp2]; rfl
    · show acc (s.groups.length, 0) _ = _; rw [hgl]; exact ha
theorem acc_none {st : Nat × Nat} {t : Tv} {l : List Tv} {x : Nat × Nat} (h : acc st (t :: l) = some x) : ∃ st', pstep st t = some st' ∧ acc st' l = some x := by
  rw [acc] at h
  cases hp : pstep st t with
  | none => rw [hp] at h; cases h
  | some y => rw [hp] at h; exact ⟨y, rfl, h⟩
theorem tk_word {fi : Nat} {t : Tv} {s : St} {w : ByteArray} (h : isName t = true) (hm : meaningOf s t = .word w) : take fi t s = takeWord fi t w s := (congrFun (if_pos h) s).trans (by simp only [hm])
theorem tk_var {fi : Nat} {t : Tv} {s : St} (h : isName t = true) (hm : meaningOf s t = .var) : take fi t s = put t 0 t.t (unsave s) := (congrFun (if_pos h) s).trans (by simp only [hm])
theorem tk_mac {fi : Nat} {t : Tv} {s : St} {m : Mac} (h : isName t = true) (hm : meaningOf s t = .mac m) : take fi t s = replace fi t m s := (congrFun (if_pos h) s).trans (by simp only [hm])
theorem tk_other {fi : Nat} {t : Tv} (h : ¬ isName t = true) (s : St) : take fi t s = takeOther t s := congrFun (if_neg h) s
theorem plain_run {l : List Tv} {fi : Nat} {x : Nat × Nat} (hx : x.2 ≠ 1) : ∀ (n : Nat) (f : Nat) (s : St) (done : List Tv) (md : Nat), s.rest.length ≤ n → n < f → PInv l s done → md ≠ 1 → s.saving = decide (md = 2) → acc (s.groups.length, md) (s.rest.map norm) = some x →
    ∃ s', run fi f s = .ok () s' ∧ s'.out = l.map norm ∧ s'.groups.length = x.1 := by
  intro n
  induction n with
  | zero =>
    intro f s done md hn hf h hmd hsv ha
    cases f with
    | zero => omega
    | succ f =>
      have hr : s.rest = [] := List.eq_nil_of_length_eq_zero (by omega)
      refine ⟨s, ?_, by rw [h.out, h.split, hr]; simp, ?_⟩
      · rw [run, bind_ok (next_none h.lists hr)]; rfl
      · rw [hr] at ha; injection ha with ha; rw [← ha]
  | succ n ih =>
    intro f s done md hn hf h hmd hsv ha
    cases f with
    | zero => omega
    | succ f =>
      cases hr : s.rest with
      | nil =>
        refine ⟨s, ?_, by rw [h.out, h.split, hr]; simp, ?_⟩
        · rw [run, bind_ok (next_none h.lists hr)]; rfl
        · rw [hr] at ha; injection ha with ha; rw [← ha]
      | cons t r =>
        have hroom := h.room hr
        have hst := h.steps
        have hol : s.out.length = done.length := by rw [h.out]; simp
        rw [run, bind_ok (next_rest h.lists hr (by omega))]
        have hgo : ∀ (s' : St) (done' : List Tv) (md' : Nat), take fi t { s with rest := r, steps := s.steps + 1 } = .ok () s' → PInv l s' done' → done.length < done'.length → md' ≠ 1 → s'.saving = decide (md' = 2) → acc (s'.groups.length, md') (s'.rest.map norm) = some x →
            ∃ s'', (take fi t >>= fun _ => run fi f) { s with rest := r, steps := s.steps + 1 } = .ok () s'' ∧ s''.out = l.map norm ∧ s''.groups.length = x.1 := by
          intro s' done' md' h1 h2 h3 h4 h5 h6
          rw [bind_ok h1]
          refine ih f s' done' md' ?_ (by omega) h2 h4 h5 h6
          have e1 := congrArg List.length h.split
          have e2 := congrArg List.length h2.split
          simp at e1 e2
          omega
        show ∃ s', (take fi t >>= fun _ => run fi f) { s with rest := r, steps := s.steps + 1 } = .ok () s' ∧ _
        by_cases h1 : t.k = 1
        · obtain ⟨s', done', md', g1, g2, g3, g4, g5, g6⟩ := word_ok (fi := fi) (w := t.t) h hr hmd rfl (by rw [norm, if_neg (by rw [h1]; simp)]; rw [← h1]) (by rw [norm, if_neg (by rw [h1]; simp)]; exact h1) ha hx
          refine hgo s' done' md' ?_ g2 g3 g4 g5 g6
          rw [tk_word (by rw [isName_k]; exact Or.inr h1) (by rw [meaningOf, if_pos h1])]
          exact g1
        by_cases h0 : t.k = 0
        · by_cases hw : t.t.data.toList ∈ Lx.wds
          · have hnt : norm t = { t with k := 1 } := by rw [norm, if_pos ⟨h0, hw⟩]
            obtain ⟨s', done', md', g1, g2, g3, g4, g5, g6⟩ := word_ok (fi := fi) (w := t.t) h hr hmd rfl (by rw [hnt]) (by rw [hnt]) ha hx
            refine hgo s' done' md' ?_ g2 g3 g4 g5 g6
            rw [tk_word (by rw [isName_k]; exact Or.inl h0) (by rw [meaningOf, if_neg h1]; show s.means t.t = _; rw [h.means, m0_word hw])]
            exact g1
          · have hnt : norm t = t := by rw [norm, if_neg (fun e => hw e.2)]
            rw [hr, List.map_cons, hnt] at ha
            obtain ⟨st', hp, ha'⟩ := acc_none ha
            have hp' : st' = (s.groups.length, 0) := by
              unfold pstep at hp
              simp only [if_neg hmd, if_neg h1] at hp
              have : isSign t (str [44]) = false := by rw [isSign, h0]; rfl
              rw [this] at hp
              simp at hp
              exact hp.symm
            subst hp'
            refine hgo { s with rest := r, steps := s.steps + 1, saving := false, out := s.out ++ [t] } (done ++ [t]) 0 ?_ (h.took hr rfl h.lists rfl h.means h.groups (by rw [hnt])) (by simp) (by omega) rfl ha'
            rw [tk_var (by rw [isName_k]; exact Or.inl h0) (by rw [meaningOf, if_neg h1]; show s.means t.t = _; rw [h.means, m0_var hw])]
            rw [put_ok t 0 t.t (by show s.out.length ≠ _; omega), ← h0]
            rfl
        · have hnt : norm t = t := by rw [norm, if_neg (fun e => h0 e.1)]
          rw [hr, List.map_cons, hnt] at ha
          obtain ⟨st', hp, ha'⟩ := acc_none ha
          have hnn : isName t = false := by rw [isName]; simp [h0, h1]
          have hti : PInv l { s with rest := r, steps := s.steps + 1, saving := false, out := s.out ++ [t] } (done ++ [t]) := h.took hr rfl h.lists rfl h.means h.groups (by rw [hnt])
          have hput : put t t.k t.t (unsave { s with rest := r, steps := s.steps + 1 }) = .ok () { s with rest := r, steps := s.steps + 1, saving := false, out := s.out ++ [t] } := put_ok t t.k t.t (by show s.out.length ≠ _; omega)
          unfold pstep at hp
          simp only [if_neg hmd, if_neg h1] at hp
          by_cases hc : md = 2 ∧ isSign t (str [44]) = true
          · rw [if_pos hc] at hp
            injection hp with hp
            subst hp
            obtain ⟨t', r', s', g1, g2, g3, g4, g5, g6, g7⟩ := save_go hti ha' hx
            refine hgo s' (done ++ [t] ++ [t']) 2 ?_ g3 (by simp) (by omega) (by rw [g5]; rfl) (by rw [g6, g4]; exact g7)
            have hsv' : s.saving = true := by rw [hsv, hc.1]; rfl
            rw [tk_other (by rw [hnn]; simp), takeOther]
            simp only [hsv', hc.2, Bool.and_self, if_true]
            show (put t t.k t.t >>= fun _ => save) (unsave { s with rest := r, steps := s.steps + 1 }) = _
            rw [bind_ok hput]
            exact g2
          · rw [if_neg hc] at hp
            injection hp with hp
            subst hp
            refine hgo _ (done ++ [t]) 0 ?_ hti (by simp) (by omega) rfl ha'
            have hsv' : (({ s with rest := r, steps := s.steps + 1 } : St).saving && isSign t (str [44])) = false := by
              show (s.saving && isSign t (str [44])) = false
              rw [hsv]
              by_cases e : md = 2
              · cases he : isSign t (str [44]) with
                | false => simp
                | true => exact absurd ⟨e, he⟩ hc
              · simp [e]
            rw [tk_other (by rw [hnn]; simp), takeOther]
            simp only [hsv']
            rw [bind_ok hput]
            rfl
theorem start_inv (l : List Tv) (h : l.length ≤ 20000) : PInv l (start l) [] := ⟨rfl, rfl, rfl, rfl, fun g hg => by simp [start] at hg, rfl, h⟩
/-- Tokens without definitions, groups in order. -/
theorem plain_done {l : List Tv} {md : Nat} (hl : l.length ≤ 20000) (ha : acc (0, 0) (l.map norm) = some (0, md)) (hm : md ≠ 1) : ∃ s, expanded l = .ok () s ∧ s.out = l.map norm := by
  obtain ⟨s, h1, h2, h3⟩ := plain_run (fi := steps) (x := (0, md)) hm l.length steps (start l) [] 0 (Nat.le_refl _) (by rw [steps]; omega) (start_inv l hl) (by omega) rfl ha
  refine ⟨s, ?_, h2⟩
  rw [expanded, h1]
  have : s.groups = [] := List.eq_nil_of_length_eq_zero h3
  simp only [this, List.isEmpty_nil, if_true]
/-- Groups that have not ended. -/
theorem plain_open {l : List Tv} {d md : Nat} (hl : l.length ≤ 20000) (ha : acc (0, 0) (l.map norm) = some (d, md)) (hm : md ≠ 1) (hd : 0 < d) : ∃ f, expanded l = .bad f ∧ f.code = 12 ∧ f.name = str [] := by
  obtain ⟨s, h1, h2, h3⟩ := plain_run (fi := steps) (x := (d, md)) hm l.length steps (start l) [] 0 (Nat.le_refl _) (by rw [steps]; omega) (start_inv l hl) (by omega) rfl ha
  refine ⟨⟨12, str [], s.last.a, s.last.c⟩, ?_, rfl, rfl⟩
  rw [expanded, h1]
  have : s.groups.isEmpty = false := by
    cases hg : s.groups with
    | nil => rw [hg] at h3; simp at h3; omega
    | cons g gs => rfl
  simp only [this, Bool.false_eq_true, if_false]
  rfl
end Z
end Mx
end Go.Proofs.YtnhcjgnohnedaaaGreatDoor
