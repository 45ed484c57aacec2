/-
  Contracts: Power of package num and of the reference.
-/
-- LAW 01
import Derived.Test.YtmcpbnkmccngpaaDoorAwake
namespace Go.Proofs.YtmcpbnkmccngpaaDoor
open Go.RowKit

/-- A number that lies in a block that can be written. -/
structure NumFr (w : World) (b : Nat) (x y : Int) : Prop extends NumAt w b x y where
  f0 : w.frozen? ⟨b, 0, none⟩ = false
  f1 : w.frozen? ⟨b, 1, none⟩ = false
theorem NumFr.below {w w' : World} {b : Nat} {x y : Int} (h : NumFr w b x y) (hb : Below w.heap.size w w') : NumFr w' b x y :=
  ⟨h.toNumAt.below hb, by rw [(bcell hb).2 _ _ h.lt]; exact h.f0, by rw [(bcell hb).2 _ _ h.lt]; exact h.f1⟩
theorem NumFr.alloc {w : World} {b : Nat} {x y : Int} (h : NumFr w b x y) (o : Obj) : NumFr (w.alloc o) b x y :=
  h.below ((Below.refl _ _).alloc (Nat.le_refl _) o)
theorem numFr_new (w : World) (x y : Int) (t : TypeId) : NumFr (w.alloc (.cells #[.int .i64 x, .int .i64 y] t)) w.heap.size x y :=
  ⟨numAt_new w x y t, by simp [go_sem], by simp [go_sem]⟩
theorem NumFr.setSame {w : World} {b : Nat} {x y : Int} (h : NumFr w b x y) (x' y' : Int) : NumFr ((w.setCell ⟨b, 0, none⟩ (.int .i64 x')).setCell ⟨b, 1, none⟩ (.int .i64 y')) b x' y' := by
  have e01 : (⟨b, 1, none⟩ : Addr) ≠ ⟨b, 0, none⟩ := by simp
  have e10 : (⟨b, 0, none⟩ : Addr) ≠ ⟨b, 1, none⟩ := by simp
  refine ⟨⟨?_, ?_, ?_⟩, ?_, ?_⟩
  · rw [World.cell?_setCell_other _ _ _ _ e01]; exact World.cell?_setCell_same _ _ _ h.c0
  · exact World.cell?_setCell_same _ _ _ ((World.cell?_setCell_other _ _ _ _ e10).trans h.c1)
  · simpa using h.lt
  · simpa [go_sem] using h.f0
  · simpa [go_sem] using h.f1
theorem NumFr.setOther {w : World} {b c : Nat} {x y : Int} (h : NumFr w b x y) (hbc : c ≠ b) (u v : Value) : NumFr ((w.setCell ⟨c, 0, none⟩ u).setCell ⟨c, 1, none⟩ v) b x y := by
  refine ⟨⟨?_, ?_, ?_⟩, ?_, ?_⟩
  · rw [World.cell?_setCell_other _ _ _ _ (by simp <;> omega), World.cell?_setCell_other _ _ _ _ (by simp <;> omega)]; exact h.c0
  · rw [World.cell?_setCell_other _ _ _ _ (by simp <;> omega), World.cell?_setCell_other _ _ _ _ (by simp <;> omega)]; exact h.c1
  · simpa using h.lt
  · simpa [go_sem] using h.f0
  · simpa [go_sem] using h.f1

theorem belP {w a b : World} (h : Hid (Below w.heap.size w a)) (hb : Below a.heap.size a b) : Hid (Below w.heap.size w b) := h.out.trans (hb.mono h.out.size)
/-- A power, multiplied one by one: what stands after k products, or the first error. -/
def pwS (aP aQ : Int) : Nat → Int × Int × Int
  | 0 => (1, 1, 0)
  | k + 1 =>
    let s := pwS aP aQ k
    if s.2.2 = 0 then (Nm.resP (Nm.vld s.1 s.2.1 && Nm.vld aP aQ) (s.1 * aP) (s.2.1 * aQ), Nm.resQ (Nm.vld s.1 s.2.1 && Nm.vld aP aQ) (s.1 * aP) (s.2.1 * aQ), Nm.resE (Nm.vld s.1 s.2.1 && Nm.vld aP aQ) (s.1 * aP) (s.2.1 * aQ)) else s
theorem pwS_succ {aP aQ P Q : Int} {k : Nat} (h : pwS aP aQ k = (P, Q, 0)) : pwS aP aQ (k + 1) = (Nm.resP (Nm.vld P Q && Nm.vld aP aQ) (P * aP) (Q * aQ), Nm.resQ (Nm.vld P Q && Nm.vld aP aQ) (P * aP) (Q * aQ), Nm.resE (Nm.vld P Q && Nm.vld aP aQ) (P * aP) (Q * aQ)) := by
  simp [pwS, h]
theorem pwS_stay {aP aQ P Q E : Int} {k : Nat} (h : pwS aP aQ k = (P, Q, E)) (hE : E ≠ 0) : ∀ j, pwS aP aQ (k + j) = (P, Q, E)
  | 0 => h
  | j + 1 => by
    have := pwS_stay h hE j
    show pwS aP aQ ((k + j) + 1) = _
    rw [pwS]
    simp [this, hE]
theorem res_bd (v : Bool) (p q : Int) : -2147483647 ≤ Nm.resP v p q ∧ Nm.resP v p q ≤ 2147483647 ∧ -2147483647 ≤ Nm.resQ v p q ∧ Nm.resQ v p q ≤ 2147483647 := by
  unfold Nm.resP Nm.resQ Nm.mkP Nm.mkQ
  by_cases hv : v = true
  · by_cases hE : Nm.mkE p q = 0
    · have : ¬ (2147483647 < Nm.top p q ∨ 2147483647 < Nm.bot p q) := by
        intro h; unfold Nm.mkE at hE
        by_cases hq : q = 0
        · rw [if_pos hq] at hE; omega
        · rw [if_neg hq, if_pos h] at hE; omega
      simp only [hv, hE, if_true]
      split <;> omega
    · simp [hv, hE]
  · simp [hv]
theorem res_zero (v : Bool) (p q : Int) (h : Nm.resE v p q ≠ 0) : Nm.resP v p q = 0 ∧ Nm.resQ v p q = 0 := by
  unfold Nm.resP Nm.resQ Nm.mkP Nm.mkQ
  unfold Nm.resE at h
  by_cases hv : v = true
  · simp only [hv, if_true] at h ⊢
    simp [h]
  · simp [hv]

set_option maxHeartbeats 400000 in
theorem power_inv (aP aQ n : Int) (w : World) (h1 : -9223372036854775808 ≤ aP) (h2 : aP ≤ 9223372036854775807) (h3 : -9223372036854775808 ≤ aQ) (h4 : aQ ≤ 9223372036854775807) (hv : Nm.vld aP aQ = false) :
    Calls Tryd.prog 30 #[.agg #[.int .i64 aP, .int .i64 aQ], .int .i64 n] w fun e w' => e = .returned (numV 0 0 2) ∧ Below w.heap.size w w' := by
  have HV := Lib.hid hv
  clear hv
  go_enter Tryd.func30, Tryd.ntmps30
  go_wp2_with fail
  refine (valid_any _ _ _ h1 h2 h3 h4).mono ?_; rintro e w' ⟨rfl, hb⟩; obtain ⟨hc, hf⟩ := bcell hb; have hsz := hb.size; simp at hsz
  rw [HV.out]
  go_wp2_with fail
  exact bodyPost_ret (v := numV 0 0 2) (by simp [results, Tryd.results30, go_sem, numV, hc, hsz]) rfl ⟨rfl, (by repeat (first | exact Below.refl _ _ | refine Below.setCell ?_ (by first | (simp; done) | (simp; omega) | omega) _ | refine below_drewN ?_ _ | refine Below.alloc ?_ (by first | (simp; done) | (simp; omega) | omega) _ | refine Below.trans ?_ (hb.mono (by first | (simp; done) | (simp; omega) | omega))))⟩

set_option maxHeartbeats 400000 in
theorem power_far (aP aQ n : Int) (w : World) (hv : Nm.vld aP aQ = true) (hn : n < -64 ∨ 64 < n) :
    Calls Tryd.prog 30 #[.agg #[.int .i64 aP, .int .i64 aQ], .int .i64 n] w fun e w' => e = .returned (numV 0 0 2) ∧ Below w.heap.size w w' := by
  obtain ⟨x1, x2, x3, x4⟩ := vld_bd hv
  have HV := Lib.hid hv
  clear hv
  by_cases h5 : n < -64
  · go_enter Tryd.func30, Tryd.ntmps30
    go_wp2_with fail
    refine (valid_any _ _ _ (by omega) (by omega) (by omega) (by omega)).mono ?_; rintro e w' ⟨rfl, hb⟩; obtain ⟨hc, hf⟩ := bcell hb; have hsz := hb.size; simp at hsz
    rw [HV.out]
    go_wp2_with fail
    exact bodyPost_ret (v := numV 0 0 2) (by simp [results, Tryd.results30, go_sem, numV, hc, hsz]) rfl ⟨rfl, (by repeat (first | exact Below.refl _ _ | refine Below.setCell ?_ (by first | (simp; done) | (simp; omega) | omega) _ | refine below_drewN ?_ _ | refine Below.alloc ?_ (by first | (simp; done) | (simp; omega) | omega) _ | refine Below.trans ?_ (hb.mono (by first | (simp; done) | (simp; omega) | omega))))⟩
  · have h6 : 64 < n := by omega
    go_enter Tryd.func30, Tryd.ntmps30
    go_wp2_with fail
    refine (valid_any _ _ _ (by omega) (by omega) (by omega) (by omega)).mono ?_; rintro e w' ⟨rfl, hb⟩; obtain ⟨hc, hf⟩ := bcell hb; have hsz := hb.size; simp at hsz
    rw [HV.out]
    go_wp2_with fail
    exact bodyPost_ret (v := numV 0 0 2) (by simp [results, Tryd.results30, go_sem, numV, hc, hsz]) rfl ⟨rfl, (by repeat (first | exact Below.refl _ _ | refine Below.setCell ?_ (by first | (simp; done) | (simp; omega) | omega) _ | refine below_drewN ?_ _ | refine Below.alloc ?_ (by first | (simp; done) | (simp; omega) | omega) _ | refine Below.trans ?_ (hb.mono (by first | (simp; done) | (simp; omega) | omega))))⟩

/-- The loop's relation: k products are made. -/
def PowRel (w : World) (aP aQ : Int) (ba br bp n : Nat) (vi : Value) (wr : World) : Prop :=
  ∃ (k : Nat) (P Q : Int), vi = .int .i64 k ∧ k ≤ n ∧ Hid (pwS aP aQ k = (P, Q, 0)) ∧ (-2147483647 ≤ P ∧ P ≤ 2147483647 ∧ -2147483647 ≤ Q ∧ Q ≤ 2147483647) ∧ NumFr wr bp P Q ∧ NumFr wr ba aP aQ ∧ NumFr wr br 0 0 ∧ Hid (Below w.heap.size w wr)

set_option maxRecDepth 100000 in
set_option maxHeartbeats 2000000 in
theorem power_pos (aP aQ P Q E : Int) (n : Nat) (w : World) (hv : Nm.vld aP aQ = true) (hn : n ≤ 64) (hr : pwS aP aQ n = (P, Q, E)) :
    Calls Tryd.prog 30 #[.agg #[.int .i64 aP, .int .i64 aQ], .int .i64 n] w fun e w' => e = .returned (numV P Q E) ∧ Below w.heap.size w w' := by
  obtain ⟨x1, x2, x3, x4⟩ := vld_bd hv
  have HV := Lib.hid hv
  have HR := Lib.hid hr
  clear hv hr
  go_enter Tryd.func30, Tryd.ntmps30
  go_wp2_with fail
  refine (valid_any _ _ _ (by omega) (by omega) (by omega) (by omega)).mono ?_; rintro e w' ⟨rfl, hb⟩
  have fa := ((numFr_new w aP aQ 23).alloc (.cells #[.int .i64 0, .int .i64 0] 23)).below hb
  have fr := (numFr_new (w.alloc (.cells #[.int .i64 aP, .int .i64 aQ] 23)) 0 0 23).below hb
  rw [show (w.alloc (.cells #[.int .i64 aP, .int .i64 aQ] 23)).heap.size = w.heap.size + 1 by simp] at fr
  have hB := (((Below.refl w.heap.size w).alloc (Nat.le_refl _) (.cells #[.int .i64 aP, .int .i64 aQ] 23)).alloc (by simp) (.cells #[.int .i64 0, .int .i64 0] 23)).trans (hb.mono (by simp; omega))
  have hsz := hb.size
  simp at hsz
  clear hb
  rw [HV.out]
  go_wp2_with fail
  have fp := numFr_new w' 1 1 23
  replace fa := fa.alloc (.cells #[.int .i64 1, .int .i64 1] 23)
  replace fr := fr.alloc (.cells #[.int .i64 1, .int .i64 1] 23)
  replace hB := hB.alloc hB.size (.cells #[.int .i64 1, .int .i64 1] 23)
  generalize w'.alloc (.cells #[.int .i64 1, .int .i64 1] 23) = W at fp fa fr hB ⊢
  obtain ⟨bp, hbp⟩ : ∃ bp, bp = w'.heap.size := ⟨_, rfl⟩
  rw [← hbp] at fp hsz ⊢
  clear hbp w'
  go_loopw [42] (fun vi wr => PowRel w aP aQ w.heap.size (w.heap.size + 1) bp n vi wr) (fun vi _ => n - (intOf vi).toNat)
  case atStart => exact ⟨0, 1, 1, rfl, by omega, rfl, by omega, fp, fa, fr, hB⟩
  case round =>
    clear fp fa fr hB
    obtain ⟨k, p, q, rfl, hk, hp, ⟨p0, p1, q0, q1⟩, fp, fa, fr, hB⟩ := hrel
    by_cases hkn : k < n
    · obtain ⟨⟨P', Q', E'⟩, hnx⟩ : ∃ x, pwS aP aQ (k + 1) = x := ⟨_, rfl⟩
      have hs := pwS_succ hp.out
      rw [hnx] at hs
      simp only [Prod.mk.injEq] at hs
      obtain ⟨e1, e2, e3⟩ := hs
      have hbd := res_bd (Nm.vld p q && Nm.vld aP aQ) (p * aP) (q * aQ)
      have hz := res_zero (Nm.vld p q && Nm.vld aP aQ) (p * aP) (q * aQ)
      rw [← e1, ← e2] at hbd
      rw [← e1, ← e2, ← e3] at hz
      have HC : Hid (∀ w, Calls Tryd.prog 22 #[.agg #[.int .i64 p, .int .i64 q], .agg #[.int .i64 aP, .int .i64 aQ]] w fun e w' => e = .returned (numV P' Q' E') ∧ Below w.heap.size w w') := fun w => by
        rw [e1, e2, e3]; exact mul_any p q aP aQ w (by omega) (by omega) (by omega) (by omega) (by omega) (by omega) (by omega) (by omega)
      clear e1 e2 e3
      have HN := Lib.hid hnx
      have HZ := Lib.hid hz
      clear hnx hz
      have c0 := fp.c0
      have c1 := fp.c1
      have a0 := fa.c0
      have a1 := fa.c1
      go_wp2_with fail
      clear c0 c1 a0 a1
      refine (HC.out _).mono ?_; rintro e w1 ⟨rfl, hb1⟩
      replace fp := fp.below hb1
      replace fa := fa.below hb1
      replace fr := fr.below hb1
      replace hB := belP hB hb1
      clear hb1
      have hsb := hB.out.size
      simp only [numV]
      by_cases hE : E' = 0
      · subst hE
        obtain ⟨⟨c0, c1, cl⟩, c2, c3⟩ := id fp
        go_wp2_with fail
        clear c0 c1 cl c2 c3
        refine ⟨⟨k + 1, P', Q', by go_num, by omega, HN, hbd, ?_, ?_, ?_, ?_⟩, by simp [intOf]; omega⟩
        · exact (fp.setSame P' Q').alloc _
        · exact (fa.setOther (by omega) _ _).alloc _
        · exact (fr.setOther (by omega) _ _).alloc _
        · exact ((hB.out.setCell (p := ⟨bp, 0, none⟩) (by show w.heap.size ≤ bp; omega) _).setCell (p := ⟨bp, 1, none⟩) (by show w.heap.size ≤ bp; omega) _).alloc (by simpa using hsb) _
      · have hEb : (E' == 0) = false := by simpa using hE
        have hEc : (E' != 0) = true := by simpa using hE
        obtain ⟨z1, z2⟩ := HZ.out hE
        subst z1 z2
        have hfin := pwS_stay HN.out hE (n - (k + 1))
        rw [show k + 1 + (n - (k + 1)) = n by omega, HR.out] at hfin
        simp only [Prod.mk.injEq] at hfin
        obtain ⟨g1, g2, g3⟩ := hfin
        have HG : Hid (P = 0 ∧ Q = 0 ∧ E = E') := ⟨g1, g2, g3⟩
        clear g1 g2 g3 hE
        obtain ⟨⟨c0, c1, cl⟩, c2, c3⟩ := id fr
        go_wp2_with fail
        exact bodyPost_ret (v := numV 0 0 E') (by simp [results, Tryd.results30, go_sem, numV, c0, c1, cl, c2, c3]) rfl ⟨by rw [HG.out.1, HG.out.2.1, HG.out.2.2], ((hB.out.setCell (p := ⟨w.heap.size + 1, 0, none⟩) (by show w.heap.size ≤ w.heap.size + 1; omega) _).setCell (p := ⟨w.heap.size + 1, 1, none⟩) (by show w.heap.size ≤ w.heap.size + 1; omega) _).alloc (by simpa using hsb) _⟩
    · have hfin := hp.out
      rw [show k = n by omega, HR.out] at hfin
      simp only [Prod.mk.injEq] at hfin
      obtain ⟨g1, g2, g3⟩ := hfin
      have HG : Hid (P = p ∧ Q = q ∧ E = 0) := ⟨g1, g2, g3⟩
      clear g1 g2 g3
      have hsb := hB.out.size
      obtain ⟨⟨c0, c1, cl⟩, c2, c3⟩ := id fr
      obtain ⟨⟨k0, k1, kl⟩, k2, k3⟩ := id fp
      go_wp2_with fail
      exact bodyPost_ret (v := numV p q 0) (by simp [results, Tryd.results30, go_sem, numV, c0, c1, cl, c2, c3]) rfl ⟨by rw [HG.out.1, HG.out.2.1, HG.out.2.2], (hB.out.setCell (p := ⟨w.heap.size + 1, 0, none⟩) (by show w.heap.size ≤ w.heap.size + 1; omega) _).setCell (p := ⟨w.heap.size + 1, 1, none⟩) (by show w.heap.size ≤ w.heap.size + 1; omega) _⟩
end Go.Proofs.YtmcpbnkmccngpaaDoor
