/-
  The mathematics of macros: what is expanded is expanded already.
-/
import Derived.Test.YtnhcjgnohnedaaaGreatDoorMxXf
namespace Go.Proofs.YtnhcjgnohnedaaaGreatDoor
namespace Mx
namespace Z

theorem wds_names : (Lx.wds.all fun w => !w.isEmpty && (decide (w.length ≤ 40) && Lx.allB Lx.letter w)) = true := by decide +kernel
theorem ok_zero {t : Tv} (h : t.ok = true) (hk : t.k ≠ 2) : t.p = 0 ∧ t.q = 0 := by
  rw [Tv.ok, Lx.vldT, if_neg hk] at h
  by_cases hp : ¬ (t.p = 0 ∧ t.q = 0)
  · rw [if_pos hp] at h; cases h
  · exact Classical.not_not.1 hp
/-- A name that is read may be put out as a name. -/
theorem ok_name {t : Tv} (h : t.ok = true) (hn : isName t = true) : ({ t with k := 0, t := t.t } : Tv).ok = true := by
  rcases (isName_k t).1 hn with hk | hk
  · rw [← hk]; exact h
  · have hw := ok_word h hk
    obtain ⟨h1, h2⟩ := ok_zero h (by rw [hk]; decide)
    have := List.all_eq_true.1 wds_names _ hw
    rw [Tv.ok, Lx.vldT]
    simp only [h1, h2, and_self, not_true, if_false, if_true, show ¬ (0 : Int) = 2 by decide]
    exact this
theorem ok_wordk {t : Tv} {w : ByteArray} (h : t.ok = true) (hn : isName t = true) (hw : w.data.toList ∈ Lx.wds) : ({ t with k := 1, t := w } : Tv).ok = true := by
  obtain ⟨h1, h2⟩ := ok_zero h (by rcases (isName_k t).1 hn with hk | hk <;> rw [hk] <;> decide)
  rw [Tv.ok, Lx.vldT]
  simp only [h1, h2, and_self, not_true, if_false, if_true, show ¬ (1 : Int) = 2 by decide, show ¬ (1 : Int) = 0 by decide]
  exact decide_eq_true hw
def Top (s : St) : Prop := Good s ∧ acc (0, 0) s.out = some (s.groups.length, if s.saving then 2 else 0)
section
variable {o : List Tv} {g : List (List (ByteArray × Mean))} {b : Bool}
theorem put_tri {t : Tv} {k : Int} {x : ByteArray} (h : ({ t with k := k, t := x } : Tv).ok = true) : Tri (Fr o g b) (put t k x) (fun _ s => Fr (o ++ [{ t with k := k, t := x }]) g b s) := by
  intro s a s' hP he
  rw [put] at he
  by_cases hl : s.out.length = 20000
  · rw [if_pos hl] at he; cases he
  rw [if_neg hl] at he
  injection he with _ e
  subst e
  obtain ⟨hG, h1, h2, h3⟩ := hP
  refine ⟨⟨hG.rest, hG.lists, hG.means, hG.groups, ?_⟩, by show s.out ++ _ = _; rw [h1], h2, h3⟩
  exact ⟨(show allOk s.out from hG.out.1).snoc h, by have := hG.out.2; show (s.out ++ _).length ≤ 20000; rw [List.length_append, List.length_singleton]; omega⟩
theorem save_top (h : acc (0, 0) o = some (g.length, 1)) : Tri (Fr o g b) save (fun _ s => Top s) := by
  unfold save
  refine readName_tri.bind fun t => Tri.pre fun ht => (put_tri (ok_name ht.1 ht.2)).bind fun _ => Tri.modify fun s hs => ?_
  obtain ⟨hG, h1, h2, h3⟩ := hs
  have ha : acc (0, 0) s.out = some (g.length, 2) := by rw [h1]; exact acc_snoc h (by simp [pstep])
  have hset : ∀ s1 : St, Good s1 → Good { setMean t.t .var s1 with saving := true } := fun s1 h1 => ⟨h1.rest, h1.lists, fun x => by
    show MeanOk (if x = t.t then .var else s1.means x)
    by_cases e : x = t.t
    · rw [if_pos e]; trivial
    · rw [if_neg e]; exact h1.means x, h1.groups, h1.out⟩
  have hadd : Good (addSaved t.t s) ∧ (addSaved t.t s).groups.length = s.groups.length ∧ (addSaved t.t s).out = s.out := by
    unfold addSaved
    cases hg : s.groups with
    | nil => exact ⟨by simpa only [hg] using hG, by simp [hg], rfl⟩
    | cons g1 gs =>
      refine ⟨⟨hG.rest, hG.lists, hG.means, ?_, hG.out⟩, by simp, rfl⟩
      intro g' hg' p hp
      rcases List.mem_cons.1 hg' with rfl | hg'
      · rcases List.mem_cons.1 hp with rfl | hp
        · exact hG.means _
        · exact hG.groups g1 (by rw [hg]; simp) p hp
      · exact hG.groups g' (by rw [hg]; simp [hg']) p hp
  refine ⟨hset _ hadd.1, ?_⟩
  show acc (0, 0) (addSaved t.t s).out = some ((addSaved t.t s).groups.length, 2)
  rw [hadd.2.2, hadd.2.1, h2, ha]
theorem takeOther_top {t : Tv} (h : acc (0, 0) o = some (g.length, if b then 2 else 0)) (ht : t.ok = true) (hn : ¬ isName t = true) : Tri (Fr o g b) (takeOther t) (fun _ s => Top s) := by
  intro s a s' hP he
  have hk1 : ¬ t.k = 1 := fun e => hn ((isName_k t).2 (Or.inr e))
  have hP' : Fr o g false (unsave s) := ⟨⟨hP.1.rest, hP.1.lists, hP.1.means, hP.1.groups, hP.1.out⟩, hP.2.1, hP.2.2.1, rfl⟩
  have hb := hP.2.2.2
  have hp : Tri (Fr o g false) (put t t.k t.t) (fun _ s => Fr (o ++ [t]) g false s) := put_tri (t := t) (k := t.k) (x := t.t) ht
  rw [takeOther] at he
  by_cases hc : (s.saving && isSign t (str [44])) = true
  · simp only [hc, if_true] at he
    simp only [Bool.and_eq_true] at hc
    refine (hp.bind fun _ => save_top ?_) (unsave s) a s' hP' he
    refine acc_snoc h ?_
    rw [← hb, hc.1]
    simp [pstep, hk1, hc.2]
  · simp only [hc] at he
    refine (hp.bind (R := fun _ s => Top s) fun _ => Tri.pure _ fun s hs => ?_) (unsave s) a s' hP' he
    refine ⟨hs.1, ?_⟩
    rw [hs.2.1, hs.2.2.1, hs.2.2.2]
    refine acc_snoc h ?_
    rw [hb] at hc
    cases b with
    | false => simp [pstep, hk1]
    | true =>
      simp only [Bool.true_and] at hc
      simp [pstep, hk1, hc]
theorem takeWord_top {fi : Nat} {t : Tv} {w : ByteArray} (h : acc (0, 0) o = some (g.length, if b then 2 else 0)) (ht : t.ok = true) (hn : isName t = true) (hw : w.data.toList ∈ Lx.wds) : Tri (Fr o g b) (takeWord fi t w) (fun _ s => Top s) := by
  have htop : ∀ s, Fr o g b s → Top s := fun s hs => ⟨hs.1, by rw [hs.2.1, hs.2.2.1, hs.2.2.2]; exact h⟩
  by_cases c3 : w = sLet
  · have e : takeWord fi t w = _ := if_pos c3
    rw [e]; exact doLet_tri.weak (fun _ h => h) (fun _ s hs => htop s hs)
  by_cases c2 : w = sDef
  · have e : takeWord fi t w = _ := Eq.trans (if_neg c3) (if_pos c2)
    rw [e]; exact (define_tri fi).weak (fun _ h => h) (fun _ s hs => htop s hs)
  intro s a s' hP he
  rw [takeWord_eq c3 c2] at he
  by_cases hc : w = sEnddef ∨ (w = sEnd ∧ s.groups = [])
  · rw [if_pos hc] at he; cases he
  rw [if_neg hc] at he
  have c4 : ¬ w = sEnddef := fun e => hc (Or.inl e)
  have hP' : Fr o g false (unsave s) := ⟨⟨hP.1.rest, hP.1.lists, hP.1.means, hP.1.groups, hP.1.out⟩, hP.2.1, hP.2.2.1, rfl⟩
  have hm : ∀ {md : Nat}, md = (if b then 2 else 0) → md ≠ 1 := fun e => by rw [e]; cases b <;> simp
  obtain ⟨md, hmd⟩ : ∃ md, md = (if b then 2 else 0) := ⟨_, rfl⟩
  rw [← hmd] at h
  have hmd := hm hmd
  have hfin : ∀ g' : List (List (ByteArray × Mean)), ∀ s, Fr (o ++ [{ t with k := 1, t := w }]) g' false s → pstep (g.length, md) { t with k := 1, t := w } = some (g'.length, 0) → Top s := fun g' s hs hp => ⟨hs.1, by rw [hs.2.1, hs.2.2.1, hs.2.2.2]; exact acc_snoc h hp⟩
  by_cases cb : w = sBegin
  · have n2 : ¬ w = sSave := by rw [cb]; decide
    simp only [if_pos cb, if_neg n2] at he
    refine ((Tri.modify (P := Fr o g false) (Q := fun _ s => Fr o ([] :: g) false s) ?_).bind fun _ => (put_tri (ok_wordk ht hn hw)).bind (R := fun _ s => Top s) fun _ => Tri.pure _ fun s hs => hfin ([] :: g) s hs ?_) (unsave s) a s' hP' he
    · rintro s ⟨hG, h1, h2, h3⟩
      refine ⟨⟨hG.rest, hG.lists, hG.means, ?_, hG.out⟩, h1, by rw [h2], h3⟩
      intro g' hg' p hp
      rcases List.mem_cons.1 hg' with rfl | hg'
      · simp at hp
      · exact hG.groups g' hg' p hp
    · have k1 : ¬ (w = sDef ∨ w = sLet ∨ w = sEnddef) := by rintro (e | e | e) <;> contradiction
      unfold pstep
      simp only [hmd, if_false, if_true]
      rw [if_neg k1, if_pos cb]; rfl
  by_cases ce : w = sEnd
  · have n2 : ¬ w = sSave := by rw [ce]; decide
    simp only [if_neg cb, if_pos ce, if_neg n2] at he
    cases hg : g with
    | nil => exact absurd (Or.inr ⟨ce, by rw [hP.2.2.1, hg]⟩) hc
    | cons g1 gs =>
      refine ((Tri.modify (P := Fr o g false) (Q := fun _ s => Fr o gs false s) ?_).bind fun _ => (put_tri (ok_wordk ht hn hw)).bind (R := fun _ s => Top s) fun _ => Tri.pure _ fun s hs => hfin gs s hs ?_) (unsave s) a s' hP' he
      · rintro s ⟨hG, h1, h2, h3⟩
        rw [endGroup]
        rw [hg] at h2
        simp only [h2]
        have key : ∀ (l : List (ByteArray × Mean)) (s : St), (∀ p ∈ l, MeanOk p.2) → Good s → Good (l.foldl (fun s p => setMean p.1 p.2 s) s) ∧ (l.foldl (fun s p => setMean p.1 p.2 s) s).out = s.out ∧ (l.foldl (fun s p => setMean p.1 p.2 s) s).saving = s.saving ∧ (l.foldl (fun s p => setMean p.1 p.2 s) s).groups = s.groups := by
          intro l
          induction l with
          | nil => intro s _ hs; exact ⟨hs, rfl, rfl, rfl⟩
          | cons p l ih =>
            intro s hl hs
            rw [List.foldl_cons]
            have hs' : Good (setMean p.1 p.2 s) := ⟨hs.rest, hs.lists, fun x => by
              show MeanOk (if x = p.1 then p.2 else s.means x)
              by_cases e : x = p.1
              · rw [if_pos e]; exact hl p (by simp)
              · rw [if_neg e]; exact hs.means x, hs.groups, hs.out⟩
            exact ih _ (fun q hq => hl q (by simp [hq])) hs'
        obtain ⟨k1, k2, k3, k4⟩ := key g1 s (hG.groups g1 (by rw [h2]; simp)) hG
        refine ⟨⟨k1.rest, k1.lists, k1.means, fun g' hg' => k1.groups g' (by rw [k4, h2]; simp [hg']), k1.out⟩, by rw [← h1]; exact k2, rfl, by rw [← h3]; exact k3⟩
      · have k1 : ¬ (w = sDef ∨ w = sLet ∨ w = sEnddef) := by rintro (e | e | e) <;> contradiction
        have hgl : g.length = gs.length + 1 := by rw [hg]; rfl
        unfold pstep
        simp only [hmd, if_false, if_true, hgl]
        rw [if_neg k1, if_neg cb, if_pos ce, if_neg (by omega)]; rfl
  simp only [if_neg cb, if_neg ce] at he
  have k1 : ¬ (w = sDef ∨ w = sLet ∨ w = sEnddef) := by rintro (e | e | e) <;> contradiction
  by_cases cs : w = sSave
  · simp only [if_pos cs] at he
    refine ((Tri.pure (P := Fr o g false) (Q := fun _ s => Fr o g false s) () fun _ h => h).bind fun _ => (put_tri (ok_wordk ht hn hw)).bind fun _ => save_top (acc_snoc h ?_)) (unsave s) a s' hP' he
    unfold pstep
    simp only [hmd, if_false, if_true]
    rw [if_neg k1, if_neg cb, if_neg ce, if_pos cs]
  · simp only [if_neg cs] at he
    refine ((Tri.pure (P := Fr o g false) (Q := fun _ s => Fr o g false s) () fun _ h => h).bind fun _ => (put_tri (ok_wordk ht hn hw)).bind (R := fun _ s => Top s) fun _ => Tri.pure _ fun s hs => hfin g s hs ?_) (unsave s) a s' hP' he
    unfold pstep
    simp only [hmd, if_false, if_true]
    rw [if_neg k1, if_neg cb, if_neg ce, if_neg cs]
theorem take_top {fi : Nat} {t : Tv} (h : acc (0, 0) o = some (g.length, if b then 2 else 0)) (ht : t.ok = true) : Tri (Fr o g b) (take fi t) (fun _ s => Top s) := by
  intro s a s' hP he
  by_cases hn : isName t = true
  · have hmo := meaningOf_ok hP.1 ht
    cases hm : meaningOf s t with
    | mac m =>
      rw [tk_mac hn hm] at he
      rw [hm] at hmo
      have hs := replace_tri fi t m hmo s a s' hP he
      exact ⟨hs.1, by rw [hs.2.1, hs.2.2.1, hs.2.2.2]; exact h⟩
    | word w =>
      rw [tk_word hn hm] at he
      rw [hm] at hmo
      exact takeWord_top h ht hn hmo s a s' hP he
    | var =>
      rw [tk_var hn hm] at he
      have hk : t.k = 0 := by
        rcases (isName_k t).1 hn with hk | hk
        · exact hk
        · rw [meaningOf, if_pos hk] at hm; cases hm
      have hP' : Fr o g false (unsave s) := ⟨⟨hP.1.rest, hP.1.lists, hP.1.means, hP.1.groups, hP.1.out⟩, hP.2.1, hP.2.2.1, rfl⟩
      have hs := put_tri (ok_name ht hn) (unsave s) a s' hP' he
      refine ⟨hs.1, ?_⟩
      rw [hs.2.1, hs.2.2.1, hs.2.2.2]
      refine acc_snoc h ?_
      have : isSign { t with k := 0, t := t.t } (str [44]) = false := rfl
      cases b <;> simp [pstep, this]
  · rw [tk_other hn] at he
    exact takeOther_top h ht hn s a s' hP he
theorem run_top {fi : Nat} : ∀ (f : Nat) (s s' : St) (a : Unit), Top s → run fi f s = .ok a s' → Top s'
  | 0, s, s', a, _, he => by rw [run] at he; cases he
  | f + 1, s, s', a, hP, he => by
    rw [run] at he
    cases hq : next s with
    | bad x => rw [bind_bad hq] at he; cases he
    | ok u s1 =>
      rw [bind_ok hq] at he
      cases u with
      | none =>
        have hs1 : s1 = s := by
          rw [next] at hq
          cases hp : pop s with
          | none => rw [hp] at hq; injection hq with _ e; exact e.symm
          | some x =>
            rw [hp] at hq
            simp only at hq
            by_cases hst : 200000 ≤ s.steps
            · simp only [if_pos hst] at hq; cases hq
            · simp only [if_neg hst] at hq; injection hq with e _; cases e
        injection he with _ e
        rw [← e, hs1]; exact hP
      | some t =>
        have hrd : read s = .ok t s1 := by rw [read, hq]
        obtain ⟨hF, ht⟩ := read_tri (o := s.out) (g := s.groups) (b := s.saving) s t s1 ⟨hP.1, rfl, rfl, rfl⟩ hrd
        cases hk : take fi t s1 with
        | bad x => exact absurd (he.symm.trans (bind_bad hk)) (by simp)
        | ok v s2 =>
          have he2 : run fi f s2 = .ok a s' := (bind_ok hk).symm.trans he
          exact run_top f s2 s' a (take_top (by rw [hP.2]) ht s1 v s2 hF hk) he2
end
theorem start_good {l : List Tv} (h : ∀ t ∈ l, t.ok = true) : Top (start l) := by
  refine ⟨⟨h, fun x hx => by simp [start] at hx, fun x => ?_, fun x hx => by simp [start] at hx, fun x hx => by simp [start] at hx, by simp [start]⟩, rfl⟩
  show MeanOk (if x.data.toList ∈ Lx.wds then .word x else .var)
  by_cases e : x.data.toList ∈ Lx.wds
  · rw [if_pos e]; exact e
  · rw [if_neg e]; trivial
theorem done_top {l : List Tv} {s : St} (h : ∀ t ∈ l, t.ok = true) (he : expanded l = .ok () s) : Good s ∧ ∃ md, md ≠ 1 ∧ acc (0, 0) s.out = some (0, md) := by
  rw [expanded] at he
  cases hr : run steps steps (start l) with
  | bad x => rw [hr] at he; cases he
  | ok u s1 =>
    rw [hr] at he
    simp only at he
    by_cases hg : s1.groups.isEmpty = true
    · rw [if_pos hg] at he
      injection he with _ e
      subst e
      have := run_top steps (start l) s1 u (start_good h) hr
      refine ⟨this.1, (if s1.saving then 2 else 0), ?_, ?_⟩
      · cases s1.saving <;> simp
      · rw [this.2, List.isEmpty_iff.1 hg]; rfl
    · rw [if_neg hg] at he; cases he
/-- What is expanded stays, if no name that is put out is spelled as a word. -/
theorem again {l : List Tv} {s : St} (h : ∀ t ∈ l, t.ok = true) (he : expanded l = .ok () s) (hl : s.out.length ≤ 20000) (hn : ∀ t ∈ s.out, t.k = 0 → t.t.data.toList ∉ Lx.wds) : ∃ s2, expanded s.out = .ok () s2 ∧ s2.out = s.out := by
  obtain ⟨hG, md, hmd, ha⟩ := done_top h he
  have hno : s.out.map norm = s.out := by
    have : ∀ t ∈ s.out, norm t = id t := fun t ht => by
      rw [norm, if_neg (fun e => hn t ht e.1 e.2)]; rfl
    rw [List.map_congr_left this, List.map_id]
  obtain ⟨s2, h1, h2⟩ := plain_done hl (by rw [hno]; exact ha) hmd
  exact ⟨s2, h1, by rw [h2, hno]⟩
end Z
end Mx
end Go.Proofs.YtnhcjgnohnedaaaGreatDoor
