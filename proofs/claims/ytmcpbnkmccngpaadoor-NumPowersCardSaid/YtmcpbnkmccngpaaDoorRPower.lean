/-
  Contracts: Power of the reference.
-/
-- LAW 01
import Derived.Test.YtmcpbnkmccngpaaDoorPower2
import Derived.Test.YtmcpbnkmccngpaaDoorMod2
namespace Go.Proofs.YtmcpbnkmccngpaaDoor
open Go.RowKit

set_option maxHeartbeats 400000 in
theorem rpower_inv (aP aQ n : Int) (w : World) (h1 : -9223372036854775808 ≤ aP) (h2 : aP ≤ 9223372036854775807) (h3 : -9223372036854775808 ≤ aQ) (h4 : aQ ≤ 9223372036854775807) (hv : Nm.vld aP aQ = false) :
    Calls Tryd.prog 31 #[.agg #[.int .i64 aP, .int .i64 aQ], .int .i64 n] w fun e w' => e = .returned (numV 0 0 2) ∧ Below w.heap.size w w' := by
  have HV := Lib.hid hv
  clear hv
  go_enter Tryd.func31, Tryd.ntmps31
  go_wp2_with fail
  refine (rvalid_any _ _ _ h1 h2 h3 h4).mono ?_; rintro e w' ⟨rfl, hb⟩; obtain ⟨hc, hf⟩ := bcell hb; have hsz := hb.size; simp at hsz
  rw [HV.out]
  go_wp2_with fail
  exact bodyPost_ret (v := numV 0 0 2) (by simp [results, Tryd.results31, go_sem, numV, hc, hsz]) rfl ⟨rfl, (by repeat (first | exact Below.refl _ _ | refine Below.setCell ?_ (by first | (simp; done) | (simp; omega) | omega) _ | refine below_drewN ?_ _ | refine Below.alloc ?_ (by first | (simp; done) | (simp; omega) | omega) _ | refine Below.trans ?_ (hb.mono (by first | (simp; done) | (simp; omega) | omega))))⟩

set_option maxHeartbeats 400000 in
theorem rpower_far (aP aQ n : Int) (w : World) (hv : Nm.vld aP aQ = true) (hn : n < -64 ∨ 64 < n) :
    Calls Tryd.prog 31 #[.agg #[.int .i64 aP, .int .i64 aQ], .int .i64 n] w fun e w' => e = .returned (numV 0 0 2) ∧ Below w.heap.size w w' := by
  obtain ⟨x1, x2, x3, x4⟩ := vld_bd hv
  have HV := Lib.hid hv
  clear hv
  by_cases h5 : n < -64
  · go_enter Tryd.func31, Tryd.ntmps31
    go_wp2_with fail
    refine (rvalid_any _ _ _ (by omega) (by omega) (by omega) (by omega)).mono ?_; rintro e w' ⟨rfl, hb⟩; obtain ⟨hc, hf⟩ := bcell hb; have hsz := hb.size; simp at hsz
    rw [HV.out]
    go_wp2_with fail
    exact bodyPost_ret (v := numV 0 0 2) (by simp [results, Tryd.results31, go_sem, numV, hc, hsz]) rfl ⟨rfl, (by repeat (first | exact Below.refl _ _ | refine Below.setCell ?_ (by first | (simp; done) | (simp; omega) | omega) _ | refine below_drewN ?_ _ | refine Below.alloc ?_ (by first | (simp; done) | (simp; omega) | omega) _ | refine Below.trans ?_ (hb.mono (by first | (simp; done) | (simp; omega) | omega))))⟩
  · have h6 : 64 < n := by omega
    go_enter Tryd.func31, Tryd.ntmps31
    go_wp2_with fail
    refine (rvalid_any _ _ _ (by omega) (by omega) (by omega) (by omega)).mono ?_; rintro e w' ⟨rfl, hb⟩; obtain ⟨hc, hf⟩ := bcell hb; have hsz := hb.size; simp at hsz
    rw [HV.out]
    go_wp2_with fail
    exact bodyPost_ret (v := numV 0 0 2) (by simp [results, Tryd.results31, go_sem, numV, hc, hsz]) rfl ⟨rfl, (by repeat (first | exact Below.refl _ _ | refine Below.setCell ?_ (by first | (simp; done) | (simp; omega) | omega) _ | refine below_drewN ?_ _ | refine Below.alloc ?_ (by first | (simp; done) | (simp; omega) | omega) _ | refine Below.trans ?_ (hb.mono (by first | (simp; done) | (simp; omega) | omega))))⟩

set_option maxRecDepth 100000 in
set_option maxHeartbeats 2000000 in
theorem rpower_pos (aP aQ P Q E : Int) (n : Nat) (w : World) (hv : Nm.vld aP aQ = true) (hn : n ≤ 64) (hr : pwS aP aQ n = (P, Q, E)) :
    Calls Tryd.prog 31 #[.agg #[.int .i64 aP, .int .i64 aQ], .int .i64 n] w fun e w' => e = .returned (numV P Q E) ∧ Below w.heap.size w w' := by
  obtain ⟨x1, x2, x3, x4⟩ := vld_bd hv
  have HV := Lib.hid hv
  have HR := Lib.hid hr
  clear hv hr
  obtain ⟨zb, hz0⟩ : ∃ b, (aP == 0) = b := ⟨_, rfl⟩
  cases zb
  all_goals
    go_enter Tryd.func31, Tryd.ntmps31
    go_wp2_with fail
    refine (rvalid_any _ _ _ (by omega) (by omega) (by omega) (by omega)).mono ?_; rintro e w' ⟨rfl, hb⟩
    have fa := ((numFr_new w aP aQ 23).alloc (.cells #[.int .i64 0, .int .i64 0] 23)).below hb
    have fr := (numFr_new (w.alloc (.cells #[.int .i64 aP, .int .i64 aQ] 23)) 0 0 23).below hb
    rw [show (w.alloc (.cells #[.int .i64 aP, .int .i64 aQ] 23)).heap.size = w.heap.size + 1 by simp] at fr
    have hB := (((Below.refl w.heap.size w).alloc (Nat.le_refl _) (.cells #[.int .i64 aP, .int .i64 aQ] 23)).alloc (by simp) (.cells #[.int .i64 0, .int .i64 0] 23)).trans (hb.mono (by simp; omega))
    have hsz := hb.size
    simp at hsz
    clear hb
    rw [HV.out]
    have a0 := fa.c0
    have a1 := fa.c1
    go_wp2_with fail
    clear a0 a1
    have fp := numFr_new w' 1 1 23
    replace fa := fa.alloc (.cells #[.int .i64 1, .int .i64 1] 23)
    replace fr := fr.alloc (.cells #[.int .i64 1, .int .i64 1] 23)
    replace hB := hB.alloc hB.size (.cells #[.int .i64 1, .int .i64 1] 23)
    generalize w'.alloc (.cells #[.int .i64 1, .int .i64 1] 23) = W at fp fa fr hB ⊢
    obtain ⟨bp, hbp⟩ : ∃ bp, bp = w'.heap.size := ⟨_, rfl⟩
    rw [← hbp] at fp hsz ⊢
    clear hbp w'
    go_loopw [7] (fun vi wr => PowRel w aP aQ w.heap.size (w.heap.size + 1) bp n vi wr) (fun vi _ => n - (intOf vi).toNat)
    case atStart => exact ⟨0, 1, 1, rfl, by omega, rfl, by omega, fp, fa, fr, hB⟩
    case round =>
      clear fp fa fr hB
      obtain ⟨k, p, q, rfl, hk, hp, ⟨p0, p1, q0, q1⟩, fp, fa, fr, hB⟩ := hrel
      by_cases hkn : k < n
      · obtain ⟨⟨P', Q', E'⟩, hnx⟩ : ∃ x, pwS aP aQ (k + 1) = x := ⟨_, rfl⟩
        have hs := pwS_succ hp.out
        rw [hnx] at hs
        simp only [Prod.mk.injEq] at hs
        obtain ⟨e1, e2, e3⟩ := hs
        have hbd := res_bd (Nm.vld p q && Nm.vld aP aQ) (p * aP) (q * aQ)
        have hz := res_zero (Nm.vld p q && Nm.vld aP aQ) (p * aP) (q * aQ)
        rw [← e1, ← e2] at hbd
        rw [← e1, ← e2, ← e3] at hz
        have HC : Hid (∀ w, Calls Tryd.prog 23 #[.agg #[.int .i64 p, .int .i64 q], .agg #[.int .i64 aP, .int .i64 aQ]] w fun e w' => e = .returned (numV P' Q' E') ∧ Below w.heap.size w w') := fun w => by
          rw [e1, e2, e3]; exact rmul_any p q aP aQ w (by omega) (by omega) (by omega) (by omega) (by omega) (by omega) (by omega) (by omega)
        clear e1 e2 e3
        have HN := Lib.hid hnx
        have HZ := Lib.hid hz
        clear hnx hz
        have c0 := fp.c0
        have c1 := fp.c1
        have a0 := fa.c0
        have a1 := fa.c1
        go_wp2_with fail
        clear c0 c1 a0 a1
        refine (HC.out _).mono ?_; rintro e w1 ⟨rfl, hb1⟩
        replace fp := fp.below hb1
        replace fa := fa.below hb1
        replace fr := fr.below hb1
        replace hB := belP hB hb1
        clear hb1
        have hsb := hB.out.size
        simp only [numV]
        by_cases hE : E' = 0
        · subst hE
          obtain ⟨⟨c0, c1, cl⟩, c2, c3⟩ := id fp
          go_wp2_with fail
          clear c0 c1 cl c2 c3
          refine ⟨⟨k + 1, P', Q', by go_num, by omega, HN, hbd, ?_, ?_, ?_, ?_⟩, by simp [intOf]; omega⟩
          · exact (fp.setSame P' Q').alloc _
          · exact (fa.setOther (by omega) _ _).alloc _
          · exact (fr.setOther (by omega) _ _).alloc _
          · exact ((hB.out.setCell (p := ⟨bp, 0, none⟩) (by show w.heap.size ≤ bp; omega) _).setCell (p := ⟨bp, 1, none⟩) (by show w.heap.size ≤ bp; omega) _).alloc (by simpa using hsb) _
        · have hEb : (E' == 0) = false := by simpa using hE
          have hEc : (E' != 0) = true := by simpa using hE
          obtain ⟨z1, z2⟩ := HZ.out hE
          subst z1 z2
          have hfin := pwS_stay HN.out hE (n - (k + 1))
          rw [show k + 1 + (n - (k + 1)) = n by omega, HR.out] at hfin
          simp only [Prod.mk.injEq] at hfin
          obtain ⟨g1, g2, g3⟩ := hfin
          have HG : Hid (P = 0 ∧ Q = 0 ∧ E = E') := ⟨g1, g2, g3⟩
          clear g1 g2 g3 hE
          obtain ⟨⟨c0, c1, cl⟩, c2, c3⟩ := id fr
          go_wp2_with fail
          exact bodyPost_ret (v := numV 0 0 E') (by simp [results, Tryd.results31, go_sem, numV, c0, c1, cl, c2, c3]) rfl ⟨by rw [HG.out.1, HG.out.2.1, HG.out.2.2], ((hB.out.setCell (p := ⟨w.heap.size + 1, 0, none⟩) (by show w.heap.size ≤ w.heap.size + 1; omega) _).setCell (p := ⟨w.heap.size + 1, 1, none⟩) (by show w.heap.size ≤ w.heap.size + 1; omega) _).alloc (by simpa using hsb) _⟩
      · have hfin := hp.out
        rw [show k = n by omega, HR.out] at hfin
        simp only [Prod.mk.injEq] at hfin
        obtain ⟨g1, g2, g3⟩ := hfin
        have HG : Hid (P = p ∧ Q = q ∧ E = 0) := ⟨g1, g2, g3⟩
        clear g1 g2 g3
        have hsb := hB.out.size
        obtain ⟨⟨c0, c1, cl⟩, c2, c3⟩ := id fr
        obtain ⟨⟨k0, k1, kl⟩, k2, k3⟩ := id fp
        go_wp2_with fail
        exact bodyPost_ret (v := numV p q 0) (by simp [results, Tryd.results31, go_sem, numV, c0, c1, cl, c2, c3]) rfl ⟨by rw [HG.out.1, HG.out.2.1, HG.out.2.2], (hB.out.setCell (p := ⟨w.heap.size + 1, 0, none⟩) (by show w.heap.size ≤ w.heap.size + 1; omega) _).setCell (p := ⟨w.heap.size + 1, 1, none⟩) (by show w.heap.size ≤ w.heap.size + 1; omega) _⟩

set_option maxHeartbeats 400000 in
theorem rpower_zero (aQ : Int) (m : Nat) (w : World) (hv : Nm.vld 0 aQ = true) (hm0 : 1 ≤ m) (hm : m ≤ 64) :
    Calls Tryd.prog 31 #[.agg #[.int .i64 0, .int .i64 aQ], .int .i64 (-(m : Int))] w fun e w' => e = .returned (numV 0 0 18) ∧ Below w.heap.size w w' := by
  obtain ⟨x1, x2, x3, x4⟩ := vld_bd hv
  have HV := Lib.hid hv
  clear hv
  go_enter Tryd.func31, Tryd.ntmps31
  go_wp2_with fail
  refine (rvalid_any _ _ _ (by omega) (by omega) (by omega) (by omega)).mono ?_; rintro e w' ⟨rfl, hb⟩; obtain ⟨hc, hf⟩ := bcell hb; have hsz := hb.size; simp at hsz
  rw [HV.out]
  go_wp2_with fail
  exact bodyPost_ret (v := numV 0 0 18) (by simp [results, Tryd.results31, go_sem, numV, hc, hsz]) rfl ⟨rfl, (by repeat (first | exact Below.refl _ _ | refine Below.setCell ?_ (by first | (simp; done) | (simp; omega) | omega) _ | refine below_drewN ?_ _ | refine Below.alloc ?_ (by first | (simp; done) | (simp; omega) | omega) _ | refine Below.trans ?_ (hb.mono (by first | (simp; done) | (simp; omega) | omega))))⟩

set_option maxRecDepth 100000 in
set_option maxHeartbeats 2000000 in
theorem rpower_neg (oP oQ aP aQ P Q E : Int) (n : Nat) (w : World) (hv : Nm.vld oP oQ = true) (hn0 : 1 ≤ n) (hn : n ≤ 64) (hi : Nm.mkE oQ oP = 0) (hi1 : Nm.mkP oQ oP = aP) (hi2 : Nm.mkQ oQ oP = aQ) (ha1 : -2147483647 ≤ aP) (ha2 : aP ≤ 2147483647) (ha3 : -2147483647 ≤ aQ) (ha4 : aQ ≤ 2147483647) (hoz : oP ≠ 0) (hr : pwS aP aQ n = (P, Q, E)) :
    Calls Tryd.prog 31 #[.agg #[.int .i64 oP, .int .i64 oQ], .int .i64 (-(n : Int))] w fun e w' => e = .returned (numV P Q E) ∧ Below w.heap.size w w' := by
  obtain ⟨x1, x2, x3, x4⟩ := vld_bd hv
  have hz0 : (oP == 0) = false := by simpa using hoz
  clear hoz
  have HV := Lib.hid hv
  have HR := Lib.hid hr
  have HI := Lib.hid (And.intro hi (And.intro hi1 hi2))
  clear hv hr hi hi1 hi2
  go_enter Tryd.func31, Tryd.ntmps31
  go_wp2_with fail
  refine (rvalid_any _ _ _ (by omega) (by omega) (by omega) (by omega)).mono ?_; rintro e w' ⟨rfl, hb⟩
  have fa := ((numFr_new w oP oQ 23).alloc (.cells #[.int .i64 0, .int .i64 0] 23)).below hb
  have fr := (numFr_new (w.alloc (.cells #[.int .i64 oP, .int .i64 oQ] 23)) 0 0 23).below hb
  rw [show (w.alloc (.cells #[.int .i64 oP, .int .i64 oQ] 23)).heap.size = w.heap.size + 1 by simp] at fr
  have hB := (((Below.refl w.heap.size w).alloc (Nat.le_refl _) (.cells #[.int .i64 oP, .int .i64 oQ] 23)).alloc (by simp) (.cells #[.int .i64 0, .int .i64 0] 23)).trans (hb.mono (by simp; omega))
  have hsz := hb.size
  simp at hsz
  clear hb
  rw [HV.out]
  have a0 := fa.c0
  have a1 := fa.c1
  go_wp2_with fail
  clear a0 a1
  refine (rmake_any oQ oP _ (by omega) (by omega) (by omega) (by omega)).mono ?_; rintro e w2 ⟨rfl, hb⟩
  replace fa := fa.below hb
  replace fr := fr.below hb
  replace hB := hB.trans (hb.mono hB.size)
  have hs2 := hb.size
  simp only [numV]
  rw [HI.out.1, HI.out.2.1, HI.out.2.2]
  clear hb
  obtain ⟨⟨a0, a1, al⟩, a2, a3⟩ := id fa
  have hz0 : w.heap.size < w2.heap.size := by omega
  go_wp2_with fail
  clear a0 a1 al a2 a3 hz0
  replace fa := (fa.setSame aP aQ).alloc (.cells #[.int .i64 1, .int .i64 1] 23)
  replace fr := (fr.setOther (by omega : w.heap.size ≠ w.heap.size + 1) (.int .i64 aP) (.int .i64 aQ)).alloc (.cells #[.int .i64 1, .int .i64 1] 23)
  have fp := numFr_new ((w2.setCell ⟨w.heap.size, 0, none⟩ (.int .i64 aP)).setCell ⟨w.heap.size, 1, none⟩ (.int .i64 aQ)) 1 1 23
  rw [show ((w2.setCell ⟨w.heap.size, 0, none⟩ (.int .i64 aP)).setCell ⟨w.heap.size, 1, none⟩ (.int .i64 aQ)).heap.size = w2.heap.size by simp] at fp
  replace hB := (((hB.setCell (p := ⟨w.heap.size, 0, none⟩) (Nat.le_refl _) (.int .i64 aP)).setCell (p := ⟨w.heap.size, 1, none⟩) (Nat.le_refl _) (.int .i64 aQ)).alloc (by simp; omega) (.cells #[.int .i64 1, .int .i64 1] 23))
  generalize (((w2.setCell ⟨w.heap.size, 0, none⟩ (.int .i64 aP)).setCell ⟨w.heap.size, 1, none⟩ (.int .i64 aQ)).alloc (.cells #[.int .i64 1, .int .i64 1] 23)) = W at fp fa fr hB ⊢
  obtain ⟨bp, hbp⟩ : ∃ bp, bp = w2.heap.size := ⟨_, rfl⟩
  have hsz3 : w.heap.size + 1 + 1 ≤ bp := by omega
  rw [← hbp] at fp ⊢
  clear hbp hsz hs2
  go_loopw [7] (fun vi wr => PowRel w aP aQ w.heap.size (w.heap.size + 1) bp n vi wr) (fun vi _ => n - (intOf vi).toNat)
  case atStart => exact ⟨0, 1, 1, rfl, by omega, rfl, by omega, fp, fa, fr, hB⟩
  case round =>
    clear fp fa fr hB
    obtain ⟨k, p, q, rfl, hk, hp, ⟨p0, p1, q0, q1⟩, fp, fa, fr, hB⟩ := hrel
    by_cases hkn : k < n
    · obtain ⟨⟨P', Q', E'⟩, hnx⟩ : ∃ x, pwS aP aQ (k + 1) = x := ⟨_, rfl⟩
      have hs := pwS_succ hp.out
      rw [hnx] at hs
      simp only [Prod.mk.injEq] at hs
      obtain ⟨e1, e2, e3⟩ := hs
      have hbd := res_bd (Nm.vld p q && Nm.vld aP aQ) (p * aP) (q * aQ)
      have hz := res_zero (Nm.vld p q && Nm.vld aP aQ) (p * aP) (q * aQ)
      rw [← e1, ← e2] at hbd
      rw [← e1, ← e2, ← e3] at hz
      have HC : Hid (∀ w, Calls Tryd.prog 23 #[.agg #[.int .i64 p, .int .i64 q], .agg #[.int .i64 aP, .int .i64 aQ]] w fun e w' => e = .returned (numV P' Q' E') ∧ Below w.heap.size w w') := fun w => by
        rw [e1, e2, e3]; exact rmul_any p q aP aQ w (by omega) (by omega) (by omega) (by omega) (by omega) (by omega) (by omega) (by omega)
      clear e1 e2 e3
      have HN := Lib.hid hnx
      have HZ := Lib.hid hz
      clear hnx hz
      have c0 := fp.c0
      have c1 := fp.c1
      have a0 := fa.c0
      have a1 := fa.c1
      go_wp2_with fail
      clear c0 c1 a0 a1
      refine (HC.out _).mono ?_; rintro e w1 ⟨rfl, hb1⟩
      replace fp := fp.below hb1
      replace fa := fa.below hb1
      replace fr := fr.below hb1
      replace hB := belP hB hb1
      clear hb1
      have hsb := hB.out.size
      simp only [numV]
      by_cases hE : E' = 0
      · subst hE
        obtain ⟨⟨c0, c1, cl⟩, c2, c3⟩ := id fp
        go_wp2_with fail
        clear c0 c1 cl c2 c3
        refine ⟨⟨k + 1, P', Q', by go_num, by omega, HN, hbd, ?_, ?_, ?_, ?_⟩, by simp [intOf]; omega⟩
        · exact (fp.setSame P' Q').alloc _
        · exact (fa.setOther (by omega) _ _).alloc _
        · exact (fr.setOther (by omega) _ _).alloc _
        · exact ((hB.out.setCell (p := ⟨bp, 0, none⟩) (by show w.heap.size ≤ bp; omega) _).setCell (p := ⟨bp, 1, none⟩) (by show w.heap.size ≤ bp; omega) _).alloc (by simpa using hsb) _
      · have hEb : (E' == 0) = false := by simpa using hE
        have hEc : (E' != 0) = true := by simpa using hE
        obtain ⟨z1, z2⟩ := HZ.out hE
        subst z1 z2
        have hfin := pwS_stay HN.out hE (n - (k + 1))
        rw [show k + 1 + (n - (k + 1)) = n by omega, HR.out] at hfin
        simp only [Prod.mk.injEq] at hfin
        obtain ⟨g1, g2, g3⟩ := hfin
        have HG : Hid (P = 0 ∧ Q = 0 ∧ E = E') := ⟨g1, g2, g3⟩
        clear g1 g2 g3 hE
        obtain ⟨⟨c0, c1, cl⟩, c2, c3⟩ := id fr
        go_wp2_with fail
        exact bodyPost_ret (v := numV 0 0 E') (by simp [results, Tryd.results31, go_sem, numV, c0, c1, cl, c2, c3]) rfl ⟨by rw [HG.out.1, HG.out.2.1, HG.out.2.2], ((hB.out.setCell (p := ⟨w.heap.size + 1, 0, none⟩) (by show w.heap.size ≤ w.heap.size + 1; omega) _).setCell (p := ⟨w.heap.size + 1, 1, none⟩) (by show w.heap.size ≤ w.heap.size + 1; omega) _).alloc (by simpa using hsb) _⟩
    · have hfin := hp.out
      rw [show k = n by omega, HR.out] at hfin
      simp only [Prod.mk.injEq] at hfin
      obtain ⟨g1, g2, g3⟩ := hfin
      have HG : Hid (P = p ∧ Q = q ∧ E = 0) := ⟨g1, g2, g3⟩
      clear g1 g2 g3
      have hsb := hB.out.size
      obtain ⟨⟨c0, c1, cl⟩, c2, c3⟩ := id fr
      obtain ⟨⟨k0, k1, kl⟩, k2, k3⟩ := id fp
      go_wp2_with fail
      exact bodyPost_ret (v := numV p q 0) (by simp [results, Tryd.results31, go_sem, numV, c0, c1, cl, c2, c3]) rfl ⟨by rw [HG.out.1, HG.out.2.1, HG.out.2.2], (hB.out.setCell (p := ⟨w.heap.size + 1, 0, none⟩) (by show w.heap.size ≤ w.heap.size + 1; omega) _).setCell (p := ⟨w.heap.size + 1, 1, none⟩) (by show w.heap.size ≤ w.heap.size + 1; omega) _⟩


theorem mk_inv {p q : Int} (h : Nm.vld p q = true) (hp : p ≠ 0) : Nm.mkE q p = 0 := by
  unfold Nm.vld at h
  rw [decide_eq_true_eq] at h
  obtain ⟨h1, h2, h3, h4, h5⟩ := h
  have hg : Nm.gcdn q p = 1 := by unfold Nm.gcdn at h5 ⊢; rw [Nat.gcd_comm]; exact h5
  unfold Nm.mkE Nm.top Nm.bot
  rw [if_neg hp, hg, Nat.div_one, Nat.div_one]
  exact if_neg (by omega)
theorem mk_bd (p q : Int) : -2147483647 ≤ Nm.mkP p q ∧ Nm.mkP p q ≤ 2147483647 ∧ -2147483647 ≤ Nm.mkQ p q ∧ Nm.mkQ p q ≤ 2147483647 := by
  have := res_bd true p q
  simpa [Nm.resP, Nm.resQ] using this
/-- What Power returns. -/
def powR (v : Bool) (aP aQ n : Int) : Int × Int × Int :=
  if v = true ∧ -64 ≤ n ∧ n ≤ 64 then (if n < 0 then (if aP = 0 then (0, 0, 18) else pwS (Nm.mkP aQ aP) (Nm.mkQ aQ aP) (-n).toNat) else pwS aP aQ n.toNat) else (0, 0, 2)
def powV (v : Bool) (aP aQ n : Int) : Value := numV (powR v aP aQ n).1 (powR v aP aQ n).2.1 (powR v aP aQ n).2.2
theorem powV_of {v : Bool} {aP aQ n P Q E : Int} (h : powR v aP aQ n = (P, Q, E)) : powV v aP aQ n = numV P Q E := by unfold powV; rw [h]
theorem power_any (aP aQ n : Int) (w : World) (h1 : -9223372036854775808 ≤ aP) (h2 : aP ≤ 9223372036854775807) (h3 : -9223372036854775808 ≤ aQ) (h4 : aQ ≤ 9223372036854775807) : Calls Tryd.prog 30 #[.agg #[.int .i64 aP, .int .i64 aQ], .int .i64 n] w fun e w' => e = .returned (powV (Nm.vld aP aQ) aP aQ n) ∧ Below w.heap.size w w' := by
  cases hv : Nm.vld aP aQ
  · rw [powV_of (P := 0) (Q := 0) (E := 2) (by simp [powR])]
    exact power_inv aP aQ n w h1 h2 h3 h4 hv
  · by_cases hn : -64 ≤ n ∧ n ≤ 64
    · by_cases hs : n < 0
      · obtain ⟨m, rfl⟩ : ∃ m : Nat, n = -(m : Int) := ⟨(-n).toNat, by omega⟩
        by_cases hz : aP = 0
        · subst hz
          rw [powV_of (P := 0) (Q := 0) (E := 18) (by unfold powR; rw [if_pos ⟨rfl, hn⟩, if_pos hs, if_pos rfl])]
          exact power_zero aQ m w hv (by omega) (by omega)
        · obtain ⟨⟨P, Q, E⟩, hr⟩ : ∃ x, pwS (Nm.mkP aQ aP) (Nm.mkQ aQ aP) m = x := ⟨_, rfl⟩
          obtain ⟨b1, b2, b3, b4⟩ := mk_bd aQ aP
          rw [powV_of (P := P) (Q := Q) (E := E) (by unfold powR; rw [if_pos ⟨rfl, hn⟩, if_pos hs, if_neg hz, show (-(-(m : Int))).toNat = m by omega]; exact hr)]
          exact power_neg aP aQ _ _ P Q E m w hv (by omega) (by omega) (mk_inv hv hz) rfl rfl b1 b2 b3 b4 hr
      · obtain ⟨m, rfl⟩ : ∃ m : Nat, n = (m : Int) := ⟨n.toNat, by omega⟩
        obtain ⟨⟨P, Q, E⟩, hr⟩ : ∃ x, pwS aP aQ m = x := ⟨_, rfl⟩
        rw [powV_of (P := P) (Q := Q) (E := E) (by unfold powR; rw [if_pos ⟨rfl, hn⟩, if_neg hs, Int.toNat_natCast]; exact hr)]
        exact power_pos aP aQ P Q E m w hv (by omega) hr
    · rw [powV_of (P := 0) (Q := 0) (E := 2) (by unfold powR; rw [if_neg (by rintro ⟨_, h, h'⟩; exact hn ⟨h, h'⟩)])]
      exact power_far aP aQ n w hv (by omega)
theorem rpower_any (aP aQ n : Int) (w : World) (h1 : -9223372036854775808 ≤ aP) (h2 : aP ≤ 9223372036854775807) (h3 : -9223372036854775808 ≤ aQ) (h4 : aQ ≤ 9223372036854775807) : Calls Tryd.prog 31 #[.agg #[.int .i64 aP, .int .i64 aQ], .int .i64 n] w fun e w' => e = .returned (powV (Nm.vld aP aQ) aP aQ n) ∧ Below w.heap.size w w' := by
  cases hv : Nm.vld aP aQ
  · rw [powV_of (P := 0) (Q := 0) (E := 2) (by simp [powR])]
    exact rpower_inv aP aQ n w h1 h2 h3 h4 hv
  · by_cases hn : -64 ≤ n ∧ n ≤ 64
    · by_cases hs : n < 0
      · obtain ⟨m, rfl⟩ : ∃ m : Nat, n = -(m : Int) := ⟨(-n).toNat, by omega⟩
        by_cases hz : aP = 0
        · subst hz
          rw [powV_of (P := 0) (Q := 0) (E := 18) (by unfold powR; rw [if_pos ⟨rfl, hn⟩, if_pos hs, if_pos rfl])]
          exact rpower_zero aQ m w hv (by omega) (by omega)
        · obtain ⟨⟨P, Q, E⟩, hr⟩ : ∃ x, pwS (Nm.mkP aQ aP) (Nm.mkQ aQ aP) m = x := ⟨_, rfl⟩
          obtain ⟨b1, b2, b3, b4⟩ := mk_bd aQ aP
          rw [powV_of (P := P) (Q := Q) (E := E) (by unfold powR; rw [if_pos ⟨rfl, hn⟩, if_pos hs, if_neg hz, show (-(-(m : Int))).toNat = m by omega]; exact hr)]
          exact rpower_neg aP aQ _ _ P Q E m w hv (by omega) (by omega) (mk_inv hv hz) rfl rfl b1 b2 b3 b4 hz hr
      · obtain ⟨m, rfl⟩ : ∃ m : Nat, n = (m : Int) := ⟨n.toNat, by omega⟩
        obtain ⟨⟨P, Q, E⟩, hr⟩ : ∃ x, pwS aP aQ m = x := ⟨_, rfl⟩
        rw [powV_of (P := P) (Q := Q) (E := E) (by unfold powR; rw [if_pos ⟨rfl, hn⟩, if_neg hs, Int.toNat_natCast]; exact hr)]
        exact rpower_pos aP aQ P Q E m w hv (by omega) hr
    · rw [powV_of (P := 0) (Q := 0) (E := 2) (by unfold powR; rw [if_neg (by rintro ⟨_, h, h'⟩; exact hn ⟨h, h'⟩)])]
      exact rpower_far aP aQ n w hv (by omega)

theorem mod2_any (aP aQ bP bQ : Int) (w : World) (h1 : -9223372036854775808 ≤ aP) (h2 : aP ≤ 9223372036854775807) (h3 : -9223372036854775808 ≤ aQ) (h4 : aQ ≤ 9223372036854775807) (k1 : -9223372036854775808 ≤ bP) (k2 : bP ≤ 9223372036854775807) (k3 : -9223372036854775808 ≤ bQ) (k4 : bQ ≤ 9223372036854775807) :
    Calls Tryd.prog 28 #[.agg #[.int .i64 aP, .int .i64 aQ], .agg #[.int .i64 bP, .int .i64 bQ]] w fun e w' => e = .returned (numV (modP (Nm.vld aP aQ && Nm.vld bP bQ) aP aQ bP bQ) (modQ (Nm.vld aP aQ && Nm.vld bP bQ) aP aQ bP bQ) (modE (Nm.vld aP aQ && Nm.vld bP bQ) aP aQ bP bQ)) ∧ Below w.heap.size w w' := by
  rw [← modV_eq]; exact mod_any aP aQ bP bQ w h1 h2 h3 h4 k1 k2 k3 k4
theorem rmod2_any (aP aQ bP bQ : Int) (w : World) (h1 : -9223372036854775808 ≤ aP) (h2 : aP ≤ 9223372036854775807) (h3 : -9223372036854775808 ≤ aQ) (h4 : aQ ≤ 9223372036854775807) (k1 : -9223372036854775808 ≤ bP) (k2 : bP ≤ 9223372036854775807) (k3 : -9223372036854775808 ≤ bQ) (k4 : bQ ≤ 9223372036854775807) :
    Calls Tryd.prog 29 #[.agg #[.int .i64 aP, .int .i64 aQ], .agg #[.int .i64 bP, .int .i64 bQ]] w fun e w' => e = .returned (numV (modP (Nm.vld aP aQ && Nm.vld bP bQ) aP aQ bP bQ) (modQ (Nm.vld aP aQ && Nm.vld bP bQ) aP aQ bP bQ) (modE (Nm.vld aP aQ && Nm.vld bP bQ) aP aQ bP bQ)) ∧ Below w.heap.size w w' := by
  rw [← modV_eq]; exact rmod_any aP aQ bP bQ w h1 h2 h3 h4 k1 k2 k3 k4
end Go.Proofs.YtmcpbnkmccngpaaDoor
