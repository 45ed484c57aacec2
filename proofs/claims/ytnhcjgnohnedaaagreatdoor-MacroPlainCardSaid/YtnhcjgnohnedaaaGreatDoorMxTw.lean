/-
  Contracts of package macro: the word of a name.
-/
import Derived.Test.YtnhcjgnohnedaaaGreatDoorMxQ
import Derived.Test.YtnhcjgnohnedaaaGreatDoorMxZb
import Derived.Test.YtnhcjgnohnedaaaGreatDoorMxG2
namespace Go.Proofs.YtnhcjgnohnedaaaGreatDoor
open Go.RowKit

namespace Mx
theorem tw_let {f : Nat} {t : Tv} {s : St} {z : ByteArray} (h : z = sLet) : takeWord f t z s = doLet s := by unfold takeWord; exact (ite_app _ _ s).trans (if_pos h)
theorem tw_def {f : Nat} {t : Tv} {s : St} {z : ByteArray} (h1 : ¬ z = sLet) (h : z = sDef) : takeWord f t z s = define f s := by unfold takeWord; exact (ite_app _ _ s).trans ((if_neg h1).trans ((ite_app _ _ s).trans (if_pos h)))
theorem tw_bad {f : Nat} {t : Tv} {s : St} {z : ByteArray} (h1 : ¬ z = sLet) (h2 : ¬ z = sDef) (h : z = sEnddef ∨ (z = sEnd ∧ s.groups = [])) : takeWord f t z s = .bad (failAt 11 t) := by
  unfold takeWord; exact (ite_app _ _ s).trans ((if_neg h1).trans ((ite_app _ _ s).trans ((if_neg h2).trans (if_pos h))))
theorem tw_begin {f : Nat} {t : Tv} {s : St} {z : ByteArray} (hz : z = sBegin) : takeWord f t z s = match put t 1 z { unsave s with groups := [] :: s.groups } with | .bad e => .bad e | .ok _ s1 => .ok () s1 := by
  subst hz
  simp [takeWord, bind, M.bind, modify, pure, show ¬ sBegin = sLet by decide, show ¬ sBegin = sDef by decide, show ¬ sBegin = sEnddef by decide, show ¬ sBegin = sEnd by decide, show ¬ sBegin = sSave by decide, unsave]
  cases put t 1 sBegin { s with groups := [] :: s.groups, saving := false } <;> rfl
theorem tw_end {f : Nat} {t : Tv} {s : St} {z : ByteArray} (hz : z = sEnd) (hg : ¬ s.groups = []) : takeWord f t z s = match put t 1 z (endGroup (unsave s)) with | .bad e => .bad e | .ok _ s1 => .ok () s1 := by
  subst hz
  simp [takeWord, bind, M.bind, modify, pure, show ¬ sEnd = sLet by decide, show ¬ sEnd = sDef by decide, show ¬ sEnd = sEnddef by decide, show ¬ sEnd = sBegin by decide, show ¬ sEnd = sSave by decide, hg]
  cases put t 1 sEnd (endGroup (unsave s)) <;> rfl
theorem tw_save {f : Nat} {t : Tv} {s : St} {z : ByteArray} (hz : z = sSave) : takeWord f t z s = match put t 1 z (unsave s) with | .bad e => .bad e | .ok _ s1 => save s1 := by
  subst hz
  simp [takeWord, bind, M.bind, modify, pure, show ¬ sSave = sLet by decide, show ¬ sSave = sDef by decide, show ¬ sSave = sEnddef by decide, show ¬ sSave = sBegin by decide, show ¬ sSave = sEnd by decide]
  cases put t 1 sSave (unsave s) <;> rfl
theorem tw_other {f : Nat} {t : Tv} {s : St} {z : ByteArray} (n0 : ¬ z = sLet) (n1 : ¬ z = sDef) (n2 : ¬ z = sEnddef) (n3 : ¬ z = sEnd) (n4 : ¬ z = sBegin) (n5 : ¬ z = sSave) : takeWord f t z s = match put t 1 z (unsave s) with | .bad e => .bad e | .ok _ s1 => .ok () s1 := by
  simp [takeWord, bind, M.bind, modify, pure, n0, n1, n2, n3, n4, n5]
  cases put t 1 z (unsave s) <;> rfl
theorem vg_sl {w : World} {B b σ : Nat} {M X : Nat → Prop} {y : Lay} {s : St} (h : Parts w B b σ M X y s) : ∃ A c, y.vg = .slice A s.groups.length c := by
  obtain ⟨xs, h1, -, -⟩ := h.groups
  rcases h1.2 with ⟨e, h0⟩ | ⟨g, cap, cur, e, -⟩
  · exact ⟨none, 0, by rw [e, h0]⟩
  · exact ⟨_, _, e⟩
set_option maxRecDepth 100000 in
set_option maxHeartbeats 16000000 in
theorem takeWord_any {w : World} {B b σ : Nat} {M P : Nat → Prop} {s : St} (x : Tv) (z : ByteArray) (f : Nat) (hx : x.fit) (hf : 200001 ≤ f + s.steps) (H : Holds w B b (σ + 1) M P s) :
    Calls Tryz.prog 55 #[.pointer (some ⟨b, 0, none⟩), x.val, .string z] w (Ends B b σ M P w (takeWord f x z s) vUnit) := by
  have HA := Lib.hid (H.own (.cells #[.int .i64 x.k, .string x.t, .int .i64 x.p, .int .i64 x.q, .int .i64 x.a, .int .i64 x.c] 41))
  have TA := Lib.hid (Turns.alloc M w (.cells #[.int .i64 x.k, .string x.t, .int .i64 x.p, .int .i64 x.q, .int .i64 x.a, .int .i64 x.c] 41))
  have HX := Lib.hid hx
  have HFU := Lib.hid hf
  have H0 := Lib.hid H
  unfold Tv.val
  clear H hx hf
  go_enter Tryz.func55, Tryz.ntmps55
  by_cases hz : z = sLet
  · have HE := Lib.hid (tw_let (f := f) (t := x) (s := s) hz)
    have a0 := lit_tt (t := z) (l := [108, 101, 116]) hz
    have a1 := lit_ff (t := z) (l := [100, 101, 102]) (by rw [hz]; decide)
    have a2 := lit_ff (t := z) (l := [101, 110, 100, 100, 101, 102]) (by rw [hz]; decide)
    have a3 := lit_ff (t := z) (l := [101, 110, 100, 103, 114, 111, 117, 112]) (by rw [hz]; decide)
    have a4 := lit_ff (t := z) (l := [98, 101, 103, 105, 110, 103, 114, 111, 117, 112]) (by rw [hz]; decide)
    have a5 := lit_ff (t := z) (l := [115, 97, 118, 101]) (by rw [hz]; decide)
    have CL := Lib.hid (let_any (HA.out.slack (show σ ≤ σ + 1 by omega)))
    clear hz
    go_wp2_with fail
    refine CL.out.mono ?_; rintro e w2 ⟨M2, hG, ht, h⟩
    have T2 := Lib.hid (TA.out.then ht)
    cases hq : doLet s with
    | bad g =>
      rw [hq] at h
      obtain rfl := h
      exact ⟨rfl, ends_bad (HE.out.trans hq) T2.out rfl⟩
    | ok u s2 =>
      rw [hq] at h
      obtain ⟨v, rfl, rfl, hh⟩ := h
      have HE2 := Lib.hid (HE.out.trans hq)
      have G2 : Hid (Grows w M M2) := Lib.hid (hG.of_size (by simp))
      have H2 := Lib.hid (hh.less (P' := P) (fun k hk => Or.inl hk))
      clear hq hG ht hh
      go_wp2_with fail
      go_end0
      exact ends_ok HE2.out G2.out T2.out rfl H2.out
  by_cases hzd : z = sDef
  · have HE := Lib.hid (tw_def (f := f) (t := x) (s := s) hz hzd)
    have hz := hzd
    have a0 := lit_ff (t := z) (l := [108, 101, 116]) (by rw [hz]; decide)
    have a1 := lit_tt (t := z) (l := [100, 101, 102]) hz
    have a2 := lit_ff (t := z) (l := [101, 110, 100, 100, 101, 102]) (by rw [hz]; decide)
    have a3 := lit_ff (t := z) (l := [101, 110, 100, 103, 114, 111, 117, 112]) (by rw [hz]; decide)
    have a4 := lit_ff (t := z) (l := [98, 101, 103, 105, 110, 103, 114, 111, 117, 112]) (by rw [hz]; decide)
    have a5 := lit_ff (t := z) (l := [115, 97, 118, 101]) (by rw [hz]; decide)
    have CL := Lib.hid (define_any f HFU.out (HA.out.slack (show σ ≤ σ + 1 by omega)))
    clear hz hzd
    go_wp2_with fail
    refine CL.out.mono ?_; rintro e w2 ⟨M2, hG, ht, h⟩
    have T2 := Lib.hid (TA.out.then ht)
    cases hq : define f s with
    | bad g =>
      rw [hq] at h
      obtain rfl := h
      exact ⟨rfl, ends_bad (HE.out.trans hq) T2.out rfl⟩
    | ok u s2 =>
      rw [hq] at h
      obtain ⟨v, rfl, rfl, hh⟩ := h
      have HE2 := Lib.hid (HE.out.trans hq)
      have G2 : Hid (Grows w M M2) := Lib.hid (hG.of_size (by simp))
      have H2 := Lib.hid (hh.less (P' := P) (fun k hk => Or.inl hk))
      clear hq hG ht hh
      go_wp2_with fail
      go_end0
      exact ends_ok HE2.out G2.out T2.out rfl H2.out
  have n0 := hz
  have n1 := hzd
  clear hz hzd
  by_cases hz : z = sEnddef
  · have HE := Lib.hid (tw_bad (f := f) (t := x) (s := s) n0 n1 (Or.inl hz))
    clear n0 n1
    (
      have a0 := lit_ff (t := z) (l := [108, 101, 116]) (by rw [hz]; decide)
      have a1 := lit_ff (t := z) (l := [100, 101, 102]) (by rw [hz]; decide)
      have a2 := lit_tt (t := z) (l := [101, 110, 100, 100, 101, 102]) hz
      have a3 := lit_ff (t := z) (l := [101, 110, 100, 103, 114, 111, 117, 112]) (by rw [hz]; decide)
      have a4 := lit_ff (t := z) (l := [98, 101, 103, 105, 110, 103, 114, 111, 117, 112]) (by rw [hz]; decide)
      have a5 := lit_ff (t := z) (l := [115, 97, 118, 101]) (by rw [hz]; decide)
      obtain ⟨y, Pt⟩ := H0.out.parts
      have c10 := (ecells Pt.cells).c10
      have c11 := (ecells Pt.cells).c11
      have f11 := (ecells Pt.cells).fr 11
      have hltw : b < w.heap.size := (ecells Pt.cells).lt
      have hs : (w.setCell ⟨b, 11, none⟩ (.bool false)).heap.size = w.heap.size := by simp [World.setCell]
      have HG0 := H0.out.flag false
      have HFo := HG0.1.own (.cells #[.int .i64 x.k, .string x.t, .int .i64 x.p, .int .i64 x.q, .int .i64 x.a, .int .i64 x.c] 41)
      rw [hs] at HFo
      have HF := Lib.hid HFo
      have TF := Lib.hid (HG0.2.then (Turns.alloc M _ (.cells #[.int .i64 x.k, .string x.t, .int .i64 x.p, .int .i64 x.q, .int .i64 x.a, .int .i64 x.c] 41)))
      have kf := heap_alloc_new (w.setCell ⟨b, 11, none⟩ (.bool false)) (.cells #[.int .i64 x.k, .string x.t, .int .i64 x.p, .int .i64 x.q, .int .i64 x.a, .int .i64 x.c] 41)
      rw [hs] at kf
      have KF := Lib.hid kf
      have hbx : ¬ w.heap.size = b := fun e => by omega
      clear HG0 HFo kf hs
      obtain ⟨⟨x0, x1, x2, x3, x4, x5⟩, -, xl⟩ := blk6 KF.out
      have CF := Lib.hid (fail_any 11 x _ _ HF.out.env' HX.out rfl)
      unfold Tv.val at CF
      clear H0 Pt hz c10
      go_wp2_with fail
      refine CF.out.mono ?_; rintro e w2 ⟨rfl, hb⟩
      exact ⟨rfl, ends_bad HE.out (TF.out.then (Turns.of_below hb _)) rfl⟩)
  have n2 := hz
  clear hz
  by_cases hz : z = sEnd
  · clear n0 n1 n2
    cases hgs : s.groups with
    | nil =>
      have HE := Lib.hid (tw_bad (f := f) (t := x) (s := s) (by rw [hz]; decide) (by rw [hz]; decide) (Or.inr ⟨hz, hgs⟩))
      have a0 := lit_ff (t := z) (l := [108, 101, 116]) (by rw [hz]; decide)
      have a1 := lit_ff (t := z) (l := [100, 101, 102]) (by rw [hz]; decide)
      have a2 := lit_ff (t := z) (l := [101, 110, 100, 100, 101, 102]) (by rw [hz]; decide)
      have a3 := lit_tt (t := z) (l := [101, 110, 100, 103, 114, 111, 117, 112]) hz
      have a4 := lit_ff (t := z) (l := [98, 101, 103, 105, 110, 103, 114, 111, 117, 112]) (by rw [hz]; decide)
      have a5 := lit_ff (t := z) (l := [115, 97, 118, 101]) (by rw [hz]; decide)
      obtain ⟨y, Pt⟩ := H0.out.parts
      have c10 := (ecells Pt.cells).c10
      have c11 := (ecells Pt.cells).c11
      have f11 := (ecells Pt.cells).fr 11
      have hltw : b < w.heap.size := (ecells Pt.cells).lt
      have hs : (w.setCell ⟨b, 11, none⟩ (.bool false)).heap.size = w.heap.size := by simp [World.setCell]
      have HG0 := H0.out.flag false
      have HFo := HG0.1.own (.cells #[.int .i64 x.k, .string x.t, .int .i64 x.p, .int .i64 x.q, .int .i64 x.a, .int .i64 x.c] 41)
      rw [hs] at HFo
      have HF := Lib.hid HFo
      have TF := Lib.hid (HG0.2.then (Turns.alloc M _ (.cells #[.int .i64 x.k, .string x.t, .int .i64 x.p, .int .i64 x.q, .int .i64 x.a, .int .i64 x.c] 41)))
      have kf := heap_alloc_new (w.setCell ⟨b, 11, none⟩ (.bool false)) (.cells #[.int .i64 x.k, .string x.t, .int .i64 x.p, .int .i64 x.q, .int .i64 x.a, .int .i64 x.c] 41)
      rw [hs] at kf
      have KF := Lib.hid kf
      have hbx : ¬ w.heap.size = b := fun e => by omega
      clear HG0 HFo kf hs
      obtain ⟨⟨x0, x1, x2, x3, x4, x5⟩, -, xl⟩ := blk6 KF.out
      have CF := Lib.hid (fail_any 11 x _ _ HF.out.env' HX.out rfl)
      obtain ⟨A10, d10, hvg⟩ := vg_sl Pt
      rw [hvg, hgs] at c10
      unfold Tv.val at CF
      clear H0 Pt hz hvg hgs
      go_wp2_with fail
      refine CF.out.mono ?_; rintro e w2 ⟨rfl, hb⟩
      exact ⟨rfl, ends_bad HE.out (TF.out.then (Turns.of_below hb _)) rfl⟩
    | cons g gs =>
      have a0 := lit_ff (t := z) (l := [108, 101, 116]) (by rw [hz]; decide)
      have a1 := lit_ff (t := z) (l := [100, 101, 102]) (by rw [hz]; decide)
      have a2 := lit_ff (t := z) (l := [101, 110, 100, 100, 101, 102]) (by rw [hz]; decide)
      have a3 := lit_tt (t := z) (l := [101, 110, 100, 103, 114, 111, 117, 112]) hz
      have a4 := lit_ff (t := z) (l := [98, 101, 103, 105, 110, 103, 114, 111, 117, 112]) (by rw [hz]; decide)
      have a5 := lit_ff (t := z) (l := [115, 97, 118, 101]) (by rw [hz]; decide)
      obtain ⟨y, Pt⟩ := H0.out.parts
      have c10 := (ecells Pt.cells).c10
      have c11 := (ecells Pt.cells).c11
      have f11 := (ecells Pt.cells).fr 11
      have hltw : b < w.heap.size := (ecells Pt.cells).lt
      have hs : (w.setCell ⟨b, 11, none⟩ (.bool false)).heap.size = w.heap.size := by simp [World.setCell]
      have HG0 := H0.out.flag false
      have HFo := HG0.1.own (.cells #[.int .i64 x.k, .string x.t, .int .i64 x.p, .int .i64 x.q, .int .i64 x.a, .int .i64 x.c] 41)
      rw [hs] at HFo
      have HF := Lib.hid HFo
      have TF := Lib.hid (HG0.2.then (Turns.alloc M _ (.cells #[.int .i64 x.k, .string x.t, .int .i64 x.p, .int .i64 x.q, .int .i64 x.a, .int .i64 x.c] 41)))
      have kf := heap_alloc_new (w.setCell ⟨b, 11, none⟩ (.bool false)) (.cells #[.int .i64 x.k, .string x.t, .int .i64 x.p, .int .i64 x.q, .int .i64 x.a, .int .i64 x.c] 41)
      rw [hs] at kf
      have KF := Lib.hid kf
      have hbx : ¬ w.heap.size = b := fun e => by omega
      clear HG0 HFo kf hs
      obtain ⟨⟨x0, x1, x2, x3, x4, x5⟩, -, xl⟩ := blk6 KF.out
      have HR : Hid (takeWord f x z s = match put x 1 z (endGroup (unsave s)) with | .bad e => .bad e | .ok _ s1 => .ok () s1) := Lib.hid (tw_end hz (by rw [hgs]; exact fun h => by cases h))
      have CG := Lib.hid (endGroup_any (s := unsave s) hgs HF.out)
      obtain ⟨A10, d10, hvg⟩ := vg_sl Pt
      rw [hvg, hgs] at c10
      have gne : (((gs.length : Int) + 1) == 0) = false := by rw [beq_eq_false_iff_ne]; omega
      clear H0 Pt hz hvg hgs
      go_wp2_with fail
      refine CG.out.mono ?_; rintro e w8 ⟨M8, hG, ht, v, rfl, rfl, hh⟩
      have T1 := Lib.hid (TF.out.then ht)
      have G1 : Hid (Grows w M M8) := Lib.hid (hG.of_size (by simp [World.setCell]))
      have hpx := HF.out.lowP w.heap.size (Or.inr rfl)
      have K8 := Lib.hid ((ht.block w.heap.size hpx.2.1 hpx.2.2).trans KF.out)
      obtain ⟨⟨q0, q1, q2, q3, q4, q5⟩, -, ql⟩ := blk6 K8.out
      have CP : Hid (Calls Tryz.prog 56 #[.pointer (some ⟨b, 0, none⟩), x.val, .int .i64 1, .string z] _ (Ends B b σ M8 (also P w.heap.size) w8 (put x 1 z (endGroup (unsave s))) vUnit)) := Lib.hid (put_any (s := endGroup (unsave s)) x 1 z HX.out (hh.slack (show σ ≤ σ + 1 by omega)))
      unfold Tv.val at CP
      clear hG ht hh hpx x0 x1 x2 x3 x4 x5
      go_wp2_with fail
      refine CP.out.mono ?_; rintro e w2 ⟨M2, hG, ht, h⟩
      have T2 := Lib.hid (T1.out.trans G1.out ht)
      cases hq : put x 1 z (endGroup (unsave s)) with
      | bad g =>
        rw [hq] at h
        obtain rfl := h
        exact ⟨rfl, ends_bad (HR.out.trans (by rw [hq])) T2.out rfl⟩
      | ok u s2 =>
        rw [hq] at h
        obtain ⟨v, rfl, rfl, hh⟩ := h
        have G2 := Lib.hid (G1.out.trans hG T1.out.size)
        have HE : Hid (takeWord f x z s = .ok () s2) := Lib.hid (HR.out.trans (by rw [hq]))
        have H2 := Lib.hid (hh.less (P' := P) (fun k hk => Or.inl hk))
        clear hq hG ht hh
        go_wp2_with fail
        go_end0
        exact ends_ok HE.out G2.out T2.out rfl H2.out
  have n3 := hz
  clear hz
  by_cases hz : z = sBegin
  · clear n0 n1 n2 n3
    (
      have a0 := lit_ff (t := z) (l := [108, 101, 116]) (by rw [hz]; decide)
      have a1 := lit_ff (t := z) (l := [100, 101, 102]) (by rw [hz]; decide)
      have a2 := lit_ff (t := z) (l := [101, 110, 100, 100, 101, 102]) (by rw [hz]; decide)
      have a3 := lit_ff (t := z) (l := [101, 110, 100, 103, 114, 111, 117, 112]) (by rw [hz]; decide)
      have a4 := lit_tt (t := z) (l := [98, 101, 103, 105, 110, 103, 114, 111, 117, 112]) hz
      have a5 := lit_ff (t := z) (l := [115, 97, 118, 101]) (by rw [hz]; decide)
      obtain ⟨y, Pt⟩ := H0.out.parts
      have c10 := (ecells Pt.cells).c10
      have c11 := (ecells Pt.cells).c11
      have f11 := (ecells Pt.cells).fr 11
      have hltw : b < w.heap.size := (ecells Pt.cells).lt
      have hs : (w.setCell ⟨b, 11, none⟩ (.bool false)).heap.size = w.heap.size := by simp [World.setCell]
      have HG0 := H0.out.flag false
      have HFo := HG0.1.own (.cells #[.int .i64 x.k, .string x.t, .int .i64 x.p, .int .i64 x.q, .int .i64 x.a, .int .i64 x.c] 41)
      rw [hs] at HFo
      have HF := Lib.hid HFo
      have TF := Lib.hid (HG0.2.then (Turns.alloc M _ (.cells #[.int .i64 x.k, .string x.t, .int .i64 x.p, .int .i64 x.q, .int .i64 x.a, .int .i64 x.c] 41)))
      have kf := heap_alloc_new (w.setCell ⟨b, 11, none⟩ (.bool false)) (.cells #[.int .i64 x.k, .string x.t, .int .i64 x.p, .int .i64 x.q, .int .i64 x.a, .int .i64 x.c] 41)
      rw [hs] at kf
      have KF := Lib.hid kf
      have hbx : ¬ w.heap.size = b := fun e => by omega
      clear HG0 HFo kf hs
      obtain ⟨⟨x0, x1, x2, x3, x4, x5⟩, -, xl⟩ := blk6 KF.out
      have HR : Hid (takeWord f x z s = match put x 1 z { unsave s with groups := [] :: s.groups } with | .bad e => .bad e | .ok _ s1 => .ok () s1) := Lib.hid (tw_begin (f := f) (t := x) (s := s) hz)
      obtain ⟨yF, PtF⟩ := HF.out.parts
      obtain ⟨xs, hx10, hx10M, hgr⟩ := PtF.groups
      obtain ⟨A10, d10, hvg⟩ := vg_sl PtF
      have c10' := (ecells PtF.cells).c10
      have f10' := (ecells PtF.cells).fr 10
      obtain ⟨ng, hng⟩ : ∃ n, n = s.groups.length := ⟨_, rfl⟩
      have hng' : ng ≤ 1000000 := by have h1 := HF.out.b4; have h2 := HF.out.b1; have h3 : ({ s with saving := false } : St).groups.length = s.groups.length := rfl; simp only [h3] at h1; have h4 : ({ s with saving := false } : St).steps = s.steps := rfl; simp only [h4] at h1 h2; omega
      have hvg2 : yF.vg = .slice A10 ng d10 := by rw [hvg, hng]
      rw [hvg2] at c10'
      have c10w : w.cell? ⟨b, 10, none⟩ = some (.slice A10 ng d10) := by
        have e1 : ((w.setCell ⟨b, 11, none⟩ (.bool false)).alloc (.cells #[.int .i64 x.k, .string x.t, .int .i64 x.p, .int .i64 x.q, .int .i64 x.a, .int .i64 x.c] 41)).cell? ⟨b, 10, none⟩ = (w.setCell ⟨b, 11, none⟩ (.bool false)).cell? ⟨b, 10, none⟩ := World.cell?_alloc_lt _ _ _ (by show b < (w.setCell ⟨b, 11, none⟩ (.bool false)).heap.size; simp [World.setCell]; exact hltw)
        have e2 : (w.setCell ⟨b, 11, none⟩ (.bool false)).cell? ⟨b, 10, none⟩ = w.cell? ⟨b, 10, none⟩ := World.cell?_setCell_other w _ _ _ (fun e => by simp at e)
        rw [← e2, ← e1]; exact c10'
      have HVG := Lib.hid hvg2
      have HGR := Lib.hid hgr
      have HPF := Lib.hid PtF
      have HNG := Lib.hid hng
      have HOW : Hid ((((w.setCell ⟨b, 11, none⟩ (.bool false)).alloc (.cells #[.int .i64 x.k, .string x.t, .int .i64 x.p, .int .i64 x.q, .int .i64 x.a, .int .i64 x.c] 41)).alloc (.cells #[.slice none 0 0] 160)).ownsRow B 160 1 (.slice A10 ng d10) ng xs) := Lib.hid (by
        have h : ((w.setCell ⟨b, 11, none⟩ (.bool false)).alloc (.cells #[.int .i64 x.k, .string x.t, .int .i64 x.p, .int .i64 x.q, .int .i64 x.a, .int .i64 x.c] 41)).ownsRow B 160 1 yF.vg s.groups.length xs := hx10
        rw [hvg2, ← hng] at h
        exact World.ownsRow.alloc h _)
      have hW1 : ((w.setCell ⟨b, 11, none⟩ (.bool false)).alloc (.cells #[.int .i64 x.k, .string x.t, .int .i64 x.p, .int .i64 x.q, .int .i64 x.a, .int .i64 x.c] 41)).heap.size = w.heap.size + 1 := by simp [World.setCell]
      have HKX : Hid (∀ {w9 : World}, (((w.setCell ⟨b, 11, none⟩ (.bool false)).alloc (.cells #[.int .i64 x.k, .string x.t, .int .i64 x.p, .int .i64 x.q, .int .i64 x.a, .int .i64 x.c] 41)).alloc (.cells #[.slice none 0 0] 160)).grownBy w9 (Value.slice A10 ng d10).ownBlock → w9.heap[b]? = ((w.setCell ⟨b, 11, none⟩ (.bool false)).alloc (.cells #[.int .i64 x.k, .string x.t, .int .i64 x.p, .int .i64 x.q, .int .i64 x.a, .int .i64 x.c] 41)).heap[b]? ∧ w9.heap[w.heap.size]? = some (.cells #[.int .i64 x.k, .string x.t, .int .i64 x.p, .int .i64 x.q, .int .i64 x.a, .int .i64 x.c] 41)) := Lib.hid (fun g => by
        have hvo : (Value.slice A10 ng d10).ownBlock = yF.vg.ownBlock := by rw [hvg2]
        rw [hvo] at g
        exact ⟨(g.block b (by rw [World.size_alloc, hW1]; exact Nat.lt_succ_of_lt (Nat.lt_succ_of_lt hltw)) (fun e => row_ne hx10 PtF.cells (by decide) b e.symm rfl)).trans (Below.heap_alloc _ _ b (by rw [hW1]; exact Nat.lt_succ_of_lt hltw)), (g.block w.heap.size (by rw [World.size_alloc, hW1]; exact Nat.lt_succ_of_lt (Nat.lt_succ_self _)) (fun e => row_ne hx10 KF.out (by decide) _ e.symm rfl)).trans (blk_alloc KF.out _)⟩)
      have Q3 : Hid (ng + 1 ≤ maxLen) := Lib.hid (by unfold maxLen; omega)
      have Q4 : Hid ((ng + 1) * 24 ≤ 140737488355328) := Lib.hid (by omega)
      have C5 : Hid (B ≤ (((w.setCell ⟨b, 11, none⟩ (.bool false)).alloc (.cells #[.int .i64 x.k, .string x.t, .int .i64 x.p, .int .i64 x.q, .int .i64 x.a, .int .i64 x.c] 41)).alloc (.cells #[.slice none 0 0] 160)).heap.size) := Lib.hid (by have := HF.out.Bs; simp only [World.size_alloc] at this ⊢; omega)
      have KC : Hid (∀ i' u, ([.slice none 0 0] : List Value)[i']? = some u → (((w.setCell ⟨b, 11, none⟩ (.bool false)).alloc (.cells #[.int .i64 x.k, .string x.t, .int .i64 x.p, .int .i64 x.q, .int .i64 x.a, .int .i64 x.c] 41)).alloc (.cells #[.slice none 0 0] 160)).cell? ((⟨w.heap.size + 1, 0, none⟩ : Addr).add i') = some u) := Lib.hid (new_cells (by have := heap_alloc_new ((w.setCell ⟨b, 11, none⟩ (.bool false)).alloc (.cells #[.int .i64 x.k, .string x.t, .int .i64 x.p, .int .i64 x.q, .int .i64 x.a, .int .i64 x.c] 41)) (.cells #[.slice none 0 0] 160); rw [hW1] at this; exact this))
      have ONE : Hid (∀ u ∈ ([.slice none 0 0] : List Value), u.oneCell' = true) := Lib.hid (fun u hu => by rw [List.mem_singleton] at hu; subst hu; rfl)
      obtain ⟨i0, hi0, hz0, hz1, hz2⟩ := info_parts info_group
      have HCB := Lib.hid (fun (w9 : World) (h : w9.heap[b]? = ((w.setCell ⟨b, 11, none⟩ (.bool false)).alloc (.cells #[.int .i64 x.k, .string x.t, .int .i64 x.p, .int .i64 x.q, .int .i64 x.a, .int .i64 x.c] 41)).heap[b]?) => And.intro ((World.cell?_of_block (a := ⟨b, 10, none⟩) h).trans c10') ((World.frozen?_of_block (a := ⟨b, 10, none⟩) h).trans f10'))
      have HSUM : Hid (∀ {w9 : World} {g1 cap1 : Nat}, w9.ownsRow B 160 1 (.slice (some ⟨g1, 0, none⟩) (ng + 1) cap1) (ng + 1) (xs ++ [.slice none 0 0]) → (((w.setCell ⟨b, 11, none⟩ (.bool false)).alloc (.cells #[.int .i64 x.k, .string x.t, .int .i64 x.p, .int .i64 x.q, .int .i64 x.a, .int .i64 x.c] 41)).alloc (.cells #[.slice none 0 0] 160)).grownBy w9 (Value.slice A10 ng d10).ownBlock → (some g1 = (Value.slice A10 ng d10).ownBlock ∨ some g1 = some (((w.setCell ⟨b, 11, none⟩ (.bool false)).alloc (.cells #[.int .i64 x.k, .string x.t, .int .i64 x.p, .int .i64 x.q, .int .i64 x.a, .int .i64 x.c] 41)).alloc (.cells #[.slice none 0 0] 160)).heap.size) →
          ∃ M', Grows ((w.setCell ⟨b, 11, none⟩ (.bool false)).alloc (.cells #[.int .i64 x.k, .string x.t, .int .i64 x.p, .int .i64 x.q, .int .i64 x.a, .int .i64 x.c] 41)) M M' ∧ Turns M ((w.setCell ⟨b, 11, none⟩ (.bool false)).alloc (.cells #[.int .i64 x.k, .string x.t, .int .i64 x.p, .int .i64 x.q, .int .i64 x.a, .int .i64 x.c] 41)) (w9.setCell ⟨b, 10, none⟩ (.slice (some ⟨g1, 0, none⟩) (ng + 1) cap1)) ∧ Holds (w9.setCell ⟨b, 10, none⟩ (.slice (some ⟨g1, 0, none⟩) (ng + 1) cap1)) B b σ M' (also P w.heap.size) { unsave s with groups := [] :: s.groups }) := Lib.hid (fun o1 g1 l1 => by
        have hvo : (Value.slice A10 ng d10).ownBlock = yF.vg.ownBlock := by rw [hvg2]
        rw [hvo] at g1 l1
        exact HF.out.begun PtF (Below.alloc (Below.refl _ _) (Nat.le_refl _) _) hng hgr o1 g1 l1)
      have hbx2 : ¬ b = w.heap.size := fun e => by omega
      clear Pt PtF hz hx10 hx10M hgr hvg hvg2 hng hng' c10 hW1
      go_wp2_with (at_builtin; refine wpList_append_own_at _ rfl _ _ 46 rfl B 160 i0 (.slice none 0 0) 1 24 Tryz.underlying46 hi0 hz0 hz1 hz2 rfl (by decide) _ _ _ rfl HOW.out ⟨w.heap.size + 1, 0, none⟩ 1 1 [.slice none 0 0] rfl rfl KC.out ONE.out Q3.out Q4.out C5.out ?_; intro v1 w9 own9 gr9 _ loc9; obtain ⟨g1, cap1, rfl, -, -, -⟩ := row_some own9; obtain ⟨kb1, kb2⟩ := HCB.out w9 (HKX.out gr9).1; have HG10 := Lib.hid (HSUM.out own9 gr9 loc9); have K9 := Lib.hid (HKX.out gr9).2; obtain ⟨⟨t0, t1, t2, t3, t4, t5⟩, -, tl⟩ := blk6 (HKX.out gr9).2; clear own9 gr9 loc9)
      obtain ⟨M9, G9, T9, H9⟩ := HG10.out
      have CP : Hid (Calls Tryz.prog 56 #[.pointer (some ⟨b, 0, none⟩), x.val, .int .i64 1, .string z] _ (Ends B b σ M9 (also P w.heap.size) _ (put x 1 z { unsave s with groups := [] :: s.groups }) vUnit)) := Lib.hid (put_any (s := { unsave s with groups := [] :: s.groups }) x 1 z HX.out H9)
      unfold Tv.val at CP
      have T1 := Lib.hid (TF.out.then T9)
      have G1 : Hid (Grows w M M9) := Lib.hid (G9.of_size (by simp [World.setCell]))
      clear G9 T9 H9
      refine CP.out.mono ?_; rintro e w2 ⟨M2, hG, ht, h⟩
      have T2 := Lib.hid (T1.out.trans G1.out ht)
      cases hq : put x 1 z { unsave s with groups := [] :: s.groups } with
      | bad g =>
        rw [hq] at h
        obtain rfl := h
        exact ⟨rfl, ends_bad (HR.out.trans (by rw [hq])) T2.out rfl⟩
      | ok u s2 =>
        rw [hq] at h
        obtain ⟨v, rfl, rfl, hh⟩ := h
        have G2 := Lib.hid (G1.out.trans hG T1.out.size)
        have HE : Hid (takeWord f x z s = .ok () s2) := Lib.hid (HR.out.trans (by rw [hq]))
        have H2 := Lib.hid (hh.less (P' := P) (fun k hk => Or.inl hk))
        clear hq hG ht hh
        go_wp2_with fail
        go_end0
        exact ends_ok HE.out G2.out T2.out rfl H2.out)
  have n4 := hz
  clear hz
  by_cases hz : z = sSave
  · clear n0 n1 n2 n3 n4
    (
      have a0 := lit_ff (t := z) (l := [108, 101, 116]) (by rw [hz]; decide)
      have a1 := lit_ff (t := z) (l := [100, 101, 102]) (by rw [hz]; decide)
      have a2 := lit_ff (t := z) (l := [101, 110, 100, 100, 101, 102]) (by rw [hz]; decide)
      have a3 := lit_ff (t := z) (l := [101, 110, 100, 103, 114, 111, 117, 112]) (by rw [hz]; decide)
      have a4 := lit_ff (t := z) (l := [98, 101, 103, 105, 110, 103, 114, 111, 117, 112]) (by rw [hz]; decide)
      have a5 := lit_tt (t := z) (l := [115, 97, 118, 101]) hz
      obtain ⟨y, Pt⟩ := H0.out.parts
      have c10 := (ecells Pt.cells).c10
      have c11 := (ecells Pt.cells).c11
      have f11 := (ecells Pt.cells).fr 11
      have hltw : b < w.heap.size := (ecells Pt.cells).lt
      have hs : (w.setCell ⟨b, 11, none⟩ (.bool false)).heap.size = w.heap.size := by simp [World.setCell]
      have HG0 := H0.out.flag false
      have HFo := HG0.1.own (.cells #[.int .i64 x.k, .string x.t, .int .i64 x.p, .int .i64 x.q, .int .i64 x.a, .int .i64 x.c] 41)
      rw [hs] at HFo
      have HF := Lib.hid HFo
      have TF := Lib.hid (HG0.2.then (Turns.alloc M _ (.cells #[.int .i64 x.k, .string x.t, .int .i64 x.p, .int .i64 x.q, .int .i64 x.a, .int .i64 x.c] 41)))
      have kf := heap_alloc_new (w.setCell ⟨b, 11, none⟩ (.bool false)) (.cells #[.int .i64 x.k, .string x.t, .int .i64 x.p, .int .i64 x.q, .int .i64 x.a, .int .i64 x.c] 41)
      rw [hs] at kf
      have KF := Lib.hid kf
      have hbx : ¬ w.heap.size = b := fun e => by omega
      clear HG0 HFo kf hs
      obtain ⟨⟨x0, x1, x2, x3, x4, x5⟩, -, xl⟩ := blk6 KF.out
      have HR : Hid (takeWord f x z s = match put x 1 z (unsave s) with | .bad e => .bad e | .ok _ s1 => save s1) := Lib.hid (tw_save hz)
      have CP : Hid (Calls Tryz.prog 56 #[.pointer (some ⟨b, 0, none⟩), x.val, .int .i64 1, .string z] _ (Ends B b σ M (also P w.heap.size) _ (put x 1 z (unsave s)) vUnit)) := Lib.hid (put_any (s := unsave s) x 1 z HX.out (HF.out.slack (show σ ≤ σ + 1 by omega)))
      have T1 := TF
      have G1 := Lib.hid (Grows.refl w M)
      obtain ⟨A10, d10, hvg⟩ := vg_sl Pt
      rw [hvg] at c10
      unfold Tv.val at CP
      clear H0 Pt hvg hz
      go_wp2_with fail
      refine CP.out.mono ?_; rintro e w2 ⟨M2, hG, ht, h⟩
      have T2 := Lib.hid (T1.out.trans G1.out ht)
      cases hq : put x 1 z (unsave s) with
      | bad g =>
        rw [hq] at h
        obtain rfl := h
        exact ⟨rfl, ends_bad (HR.out.trans (by rw [hq])) T2.out rfl⟩
      | ok u s2 =>
        rw [hq] at h
        obtain ⟨v, rfl, rfl, hh⟩ := h
        have G2 := Lib.hid (G1.out.trans hG T1.out.size)
        have CS := Lib.hid (save_any hh)
        have HE : Hid (takeWord f x z s = save s2) := Lib.hid (HR.out.trans (by rw [hq]))
        clear hq hG ht hh
        go_wp2_with fail
        refine CS.out.mono ?_; rintro e w3 ⟨M3, hG, ht, h⟩
        have T3 := Lib.hid (T2.out.trans G2.out ht)
        cases hq : save s2 with
        | bad g =>
          rw [hq] at h
          obtain rfl := h
          exact ⟨rfl, ends_bad (HE.out.trans hq) T3.out rfl⟩
        | ok u s3 =>
          rw [hq] at h
          obtain ⟨v, rfl, rfl, hh⟩ := h
          have HE3 := Lib.hid (HE.out.trans hq)
          have G3 := Lib.hid (G2.out.trans hG T2.out.size)
          have H3 := Lib.hid (hh.less (P' := P) (fun k hk => Or.inl hk))
          clear hq hG ht hh
          go_wp2_with fail
          go_end0
          exact ends_ok HE3.out G3.out T3.out rfl H3.out)
  have n5 := hz
  clear hz
  (
      have a0 := lit_ff (t := z) (l := [108, 101, 116]) n0
      have a1 := lit_ff (t := z) (l := [100, 101, 102]) n1
      have a2 := lit_ff (t := z) (l := [101, 110, 100, 100, 101, 102]) n2
      have a3 := lit_ff (t := z) (l := [101, 110, 100, 103, 114, 111, 117, 112]) n3
      have a4 := lit_ff (t := z) (l := [98, 101, 103, 105, 110, 103, 114, 111, 117, 112]) n4
      have a5 := lit_ff (t := z) (l := [115, 97, 118, 101]) n5
      obtain ⟨y, Pt⟩ := H0.out.parts
      have c10 := (ecells Pt.cells).c10
      have c11 := (ecells Pt.cells).c11
      have f11 := (ecells Pt.cells).fr 11
      have hltw : b < w.heap.size := (ecells Pt.cells).lt
      have hs : (w.setCell ⟨b, 11, none⟩ (.bool false)).heap.size = w.heap.size := by simp [World.setCell]
      have HG0 := H0.out.flag false
      have HFo := HG0.1.own (.cells #[.int .i64 x.k, .string x.t, .int .i64 x.p, .int .i64 x.q, .int .i64 x.a, .int .i64 x.c] 41)
      rw [hs] at HFo
      have HF := Lib.hid HFo
      have TF := Lib.hid (HG0.2.then (Turns.alloc M _ (.cells #[.int .i64 x.k, .string x.t, .int .i64 x.p, .int .i64 x.q, .int .i64 x.a, .int .i64 x.c] 41)))
      have kf := heap_alloc_new (w.setCell ⟨b, 11, none⟩ (.bool false)) (.cells #[.int .i64 x.k, .string x.t, .int .i64 x.p, .int .i64 x.q, .int .i64 x.a, .int .i64 x.c] 41)
      rw [hs] at kf
      have KF := Lib.hid kf
      have hbx : ¬ w.heap.size = b := fun e => by omega
      clear HG0 HFo kf hs
      obtain ⟨⟨x0, x1, x2, x3, x4, x5⟩, -, xl⟩ := blk6 KF.out
      have HR : Hid (takeWord f x z s = match put x 1 z (unsave s) with | .bad e => .bad e | .ok _ s1 => .ok () s1) := Lib.hid (tw_other n0 n1 n2 n3 n4 n5)
      have CP : Hid (Calls Tryz.prog 56 #[.pointer (some ⟨b, 0, none⟩), x.val, .int .i64 1, .string z] _ (Ends B b σ M (also P w.heap.size) _ (put x 1 z (unsave s)) vUnit)) := Lib.hid (put_any (s := unsave s) x 1 z HX.out (HF.out.slack (show σ ≤ σ + 1 by omega)))
      have T1 := TF
      have G1 := Lib.hid (Grows.refl w M)
      obtain ⟨A10, d10, hvg⟩ := vg_sl Pt
      rw [hvg] at c10
      unfold Tv.val at CP
      clear H0 Pt hvg n0 n1 n2 n3 n4 n5
      go_wp2_with fail
      refine CP.out.mono ?_; rintro e w2 ⟨M2, hG, ht, h⟩
      have T2 := Lib.hid (T1.out.trans G1.out ht)
      cases hq : put x 1 z (unsave s) with
      | bad g =>
        rw [hq] at h
        obtain rfl := h
        exact ⟨rfl, ends_bad (HR.out.trans (by rw [hq])) T2.out rfl⟩
      | ok u s2 =>
        rw [hq] at h
        obtain ⟨v, rfl, rfl, hh⟩ := h
        have G2 := Lib.hid (G1.out.trans hG T1.out.size)
        have HE : Hid (takeWord f x z s = .ok () s2) := Lib.hid (HR.out.trans (by rw [hq]))
        have H2 := Lib.hid (hh.less (P' := P) (fun k hk => Or.inl hk))
        clear hq hG ht hh
        go_wp2_with fail
        go_end0
        exact ends_ok HE.out G2.out T2.out rfl H2.out)
end Mx
end Go.Proofs.YtnhcjgnohnedaaaGreatDoor
