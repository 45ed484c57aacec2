/-
  Contracts of the reference: Parse.
-/
-- LAW 01
import Derived.Test.YtanhomngnickfaaDoorNRef2
namespace Go.Proofs.YtanhomngnickfaaDoor
open Go.RowKit

theorem NumFr.set0 {w : World} {b : Nat} {x y : Int} (h : NumFr w b x y) (x' : Int) : NumFr (w.setCell ⟨b, 0, none⟩ (.int .i64 x')) b x' y := by
  have e10 : (⟨b, 0, none⟩ : Addr) ≠ ⟨b, 1, none⟩ := by simp
  refine ⟨⟨World.cell?_setCell_same _ _ _ h.c0, ?_, by simpa using h.lt⟩, by simpa [go_sem] using h.f0, by simpa [go_sem] using h.f1⟩
  rw [World.cell?_setCell_other _ _ _ _ e10]; exact h.c1
theorem NumFr.set1 {w : World} {b : Nat} {x y : Int} (h : NumFr w b x y) (y' : Int) : NumFr (w.setCell ⟨b, 1, none⟩ (.int .i64 y')) b x y' := by
  have e01 : (⟨b, 1, none⟩ : Addr) ≠ ⟨b, 0, none⟩ := by simp
  refine ⟨⟨?_, World.cell?_setCell_same _ _ _ h.c1, by simpa using h.lt⟩, by simpa [go_sem] using h.f0, by simpa [go_sem] using h.f1⟩
  rw [World.cell?_setCell_other _ _ _ _ e01]; exact h.c0
theorem NumFr.setO {w : World} {b c o : Nat} {x y : Int} (h : NumFr w b x y) (hbc : c ≠ b) (v : Value) : NumFr (w.setCell ⟨c, o, none⟩ v) b x y := by
  refine ⟨⟨?_, ?_, by simpa using h.lt⟩, by simpa [go_sem] using h.f0, by simpa [go_sem] using h.f1⟩
  · rw [World.cell?_setCell_other _ _ _ _ (by simp <;> omega)]; exact h.c0
  · rw [World.cell?_setCell_other _ _ _ _ (by simp <;> omega)]; exact h.c1
theorem rwhole_10 (l : List UInt8) (w : World) (v : Int) (hl : l.length ≤ 10000) (hv : whM 10 l = v) :
    Calls Tryd.prog 79 #[.string ⟨l.toArray⟩, .int .i64 10] w fun e w' => e = .returned (.int .i64 v) ∧ w = w' := rwhole_of l 10 w v hl (by omega) hv
set_option maxRecDepth 100000 in
set_option maxHeartbeats 1600000 in
theorem rparse_neg_f_bad (s : ByteArray) (w : World) (hs : s.size ≤ 10000) (top bot : List UInt8) (hc : Lib.cut s.data.toList [47] = (top, bot, false)) (hl : top.length ≤ 10000 ∧ bot.length ≤ 10000) (tb : ByteArray) (htb : tb = ⟨top.toArray⟩) (hs0 : 1 ≤ tb.size) (hs1 : ∀ h : 0 < tb.size, tb[0] = 45) (r : List UInt8) (hx : tb.extract 1 tb.size = ⟨r.toArray⟩) (hr : r.length ≤ 10000) (n : Int) (hn : whM 10 r = n) (hneg : n < 0) :
    Calls Tryd.prog 40 #[.string s] w fun e w' => e = .returned (numV 0 0 30) ∧ Below w.heap.size w w' := by
  have nb := whM_bd 10 r (by omega)
  rw [hn] at nb
  obtain ⟨n0, n1⟩ := nb
  have h0 : 0 < tb.size := by omega
  have hs2 := hs1 h0
  have HTB := Lib.hid htb
  clear hs1 htb
  have HW := Lib.hid (fun w => rwhole_10 r w n hr hn)
  have HC := Lib.hid hc
  clear hc hl hn hr
  go_enter Tryd.func40, Tryd.ntmps40
  go_wp2_with fail
  have fr := numFr_new w 0 0 41
  have hB := (Below.refl w.heap.size w).alloc (Nat.le_refl _) (.cells #[.int .i64 0, .int .i64 0] 41)
  generalize w.alloc (.cells #[.int .i64 0, .int .i64 0] 41) = W0 at fr hB ⊢
  refine (rcut_47 s _ hs top bot false HC.out).mono ?_; rintro e w1 ⟨rfl, nd, rfl⟩
  replace fr := fr.below (below_drewN (Below.refl _ W0) nd)
  replace hB := below_drewN hB nd
  generalize W0.drewN nd = W1 at fr hB ⊢
  clear W0
  rw [← HTB.out]
  go_wp2_with fail
  have fa := numFr_new W1 0 1 41
  have hlt := fr.lt
  replace fr := fr.alloc (.cells #[.int .i64 0, .int .i64 1] 41)
  replace hB := hB.alloc hB.size (.cells #[.int .i64 0, .int .i64 1] 41)
  generalize W1.alloc (.cells #[.int .i64 0, .int .i64 1] 41) = W2 at fr fa hB ⊢
  obtain ⟨ba, hba⟩ : ∃ ba, ba = W1.heap.size := ⟨_, rfl⟩
  rw [← hba] at fa hlt ⊢
  clear hba
  refine (HW.out _).mono ?_; rintro e w1 ⟨rfl, rfl⟩
  obtain ⟨⟨a0, a1, al⟩, a2, a3⟩ := id fa
  obtain ⟨⟨c0, c1, cl⟩, c2, c3⟩ := id fr
  go_wp2_with fail
  exact bodyPost_ret (v := numV 0 0 30) (by simp [results, Tryd.results40, go_sem, numV, c0, c1, cl, c2, c3]) rfl ⟨rfl, ((hB.setCell (p := ⟨ba, 0, none⟩) (by show w.heap.size ≤ ba; omega) _).setCell (p := ⟨w.heap.size, 0, none⟩) (Nat.le_refl _) _).setCell (p := ⟨w.heap.size, 1, none⟩) (Nat.le_refl _) _⟩

set_option maxRecDepth 100000 in
set_option maxHeartbeats 1600000 in
theorem rparse_neg_f_inv (s : ByteArray) (w : World) (hs : s.size ≤ 10000) (top bot : List UInt8) (hc : Lib.cut s.data.toList [47] = (top, bot, false)) (hl : top.length ≤ 10000 ∧ bot.length ≤ 10000) (tb : ByteArray) (htb : tb = ⟨top.toArray⟩) (hs0 : 1 ≤ tb.size) (hs1 : ∀ h : 0 < tb.size, tb[0] = 45) (r : List UInt8) (hx : tb.extract 1 tb.size = ⟨r.toArray⟩) (hr : r.length ≤ 10000) (n : Int) (hn : whM 10 r = n) (hneg : ¬ n < 0) (hv : Nm.vld (-n) 1 = false) :
    Calls Tryd.prog 40 #[.string s] w fun e w' => e = .returned (numV 0 0 30) ∧ Below w.heap.size w w' := by
  have nb := whM_bd 10 r (by omega)
  rw [hn] at nb
  obtain ⟨n0, n1⟩ := nb
  have h0 : 0 < tb.size := by omega
  have hs2 := hs1 h0
  have HTB := Lib.hid htb
  clear hs1 htb
  have HW := Lib.hid (fun w => rwhole_10 r w n hr hn)
  have HC := Lib.hid hc
  have HV := Lib.hid hv
  clear hc hl hn hr hv
  go_enter Tryd.func40, Tryd.ntmps40
  go_wp2_with fail
  have fr := numFr_new w 0 0 41
  have hB := (Below.refl w.heap.size w).alloc (Nat.le_refl _) (.cells #[.int .i64 0, .int .i64 0] 41)
  generalize w.alloc (.cells #[.int .i64 0, .int .i64 0] 41) = W0 at fr hB ⊢
  refine (rcut_47 s _ hs top bot false HC.out).mono ?_; rintro e w1 ⟨rfl, nd, rfl⟩
  replace fr := fr.below (below_drewN (Below.refl _ W0) nd)
  replace hB := below_drewN hB nd
  generalize W0.drewN nd = W1 at fr hB ⊢
  clear W0
  rw [← HTB.out]
  go_wp2_with fail
  have fa := numFr_new W1 0 1 41
  have hlt := fr.lt
  replace fr := fr.alloc (.cells #[.int .i64 0, .int .i64 1] 41)
  replace hB := hB.alloc hB.size (.cells #[.int .i64 0, .int .i64 1] 41)
  generalize W1.alloc (.cells #[.int .i64 0, .int .i64 1] 41) = W2 at fr fa hB ⊢
  obtain ⟨ba, hba⟩ : ∃ ba, ba = W1.heap.size := ⟨_, rfl⟩
  rw [← hba] at fa hlt ⊢
  clear hba
  refine (HW.out _).mono ?_; rintro e w1 ⟨rfl, rfl⟩
  obtain ⟨⟨a0, a1, al⟩, a2, a3⟩ := id fa
  go_wp2_with fail
  clear a0 a1 al a2 a3
  replace fr := fr.setO (c := ba) (o := 0) (by omega) (.int .i64 n)
  replace fa := fa.set0 n
  replace hB := hB.setCell (p := ⟨ba, 0, none⟩) (by show w.heap.size ≤ ba; omega) (.int .i64 n)
  generalize W2.setCell ⟨ba, 0, none⟩ (.int .i64 n) = W3 at fr fa hB ⊢
  replace fr := fr.setO (c := ba) (o := 0) (by omega) (.int .i64 (-n))
  replace fa := fa.set0 (-n)
  replace hB := hB.setCell (p := ⟨ba, 0, none⟩) (by show w.heap.size ≤ ba; omega) (.int .i64 (-n))
  generalize W3.setCell ⟨ba, 0, none⟩ (.int .i64 (-n)) = W5 at fr fa hB ⊢
  refine (rtext_any (-n) 1 _ (by omega) (by omega) (by omega) (by omega)).mono ?_; rintro e w3 ⟨rfl, hb1⟩; replace fr := fr.below hb1; replace fa := fa.below hb1; replace hB := hB.trans (hb1.mono hB.size); clear hb1
  rw [HV.out, txtV, if_neg (by decide)]
  have hsb := hB.size
  obtain ⟨⟨c0, c1, cl⟩, c2, c3⟩ := id fr
  go_wp2_with fail
  exact bodyPost_ret (v := numV 0 0 30) (by simp [results, Tryd.results40, go_sem, numV, c0, c1, cl, c2, c3]) rfl ⟨rfl, (hB.setCell (p := ⟨w.heap.size, 0, none⟩) (Nat.le_refl _) _).setCell (p := ⟨w.heap.size, 1, none⟩) (Nat.le_refl _) _⟩

set_option maxRecDepth 100000 in
set_option maxHeartbeats 1600000 in
theorem rparse_neg_f_ne (s : ByteArray) (w : World) (hs : s.size ≤ 10000) (top bot : List UInt8) (hc : Lib.cut s.data.toList [47] = (top, bot, false)) (hl : top.length ≤ 10000 ∧ bot.length ≤ 10000) (tb : ByteArray) (htb : tb = ⟨top.toArray⟩) (hs0 : 1 ≤ tb.size) (hs1 : ∀ h : 0 < tb.size, tb[0] = 45) (r : List UInt8) (hx : tb.extract 1 tb.size = ⟨r.toArray⟩) (hr : r.length ≤ 10000) (n : Int) (hn : whM 10 r = n) (hneg : ¬ n < 0) (hv : Nm.vld (-n) 1 = true) (hne : txt (-n) 1 ≠ s.data.toList) :
    Calls Tryd.prog 40 #[.string s] w fun e w' => e = .returned (numV 0 0 30) ∧ Below w.heap.size w w' := by
  have nb := whM_bd 10 r (by omega)
  rw [hn] at nb
  obtain ⟨n0, n1⟩ := nb
  have h0 : 0 < tb.size := by omega
  have hs2 := hs1 h0
  have HTB := Lib.hid htb
  clear hs1 htb
  have HW := Lib.hid (fun w => rwhole_10 r w n hr hn)
  have HC := Lib.hid hc
  have HV := Lib.hid hv
  have HNE := Lib.hid hne
  clear hc hl hn hr hv hne
  go_enter Tryd.func40, Tryd.ntmps40
  go_wp2_with fail
  have fr := numFr_new w 0 0 41
  have hB := (Below.refl w.heap.size w).alloc (Nat.le_refl _) (.cells #[.int .i64 0, .int .i64 0] 41)
  generalize w.alloc (.cells #[.int .i64 0, .int .i64 0] 41) = W0 at fr hB ⊢
  refine (rcut_47 s _ hs top bot false HC.out).mono ?_; rintro e w1 ⟨rfl, nd, rfl⟩
  replace fr := fr.below (below_drewN (Below.refl _ W0) nd)
  replace hB := below_drewN hB nd
  generalize W0.drewN nd = W1 at fr hB ⊢
  clear W0
  rw [← HTB.out]
  go_wp2_with fail
  have fa := numFr_new W1 0 1 41
  have hlt := fr.lt
  replace fr := fr.alloc (.cells #[.int .i64 0, .int .i64 1] 41)
  replace hB := hB.alloc hB.size (.cells #[.int .i64 0, .int .i64 1] 41)
  generalize W1.alloc (.cells #[.int .i64 0, .int .i64 1] 41) = W2 at fr fa hB ⊢
  obtain ⟨ba, hba⟩ : ∃ ba, ba = W1.heap.size := ⟨_, rfl⟩
  rw [← hba] at fa hlt ⊢
  clear hba
  refine (HW.out _).mono ?_; rintro e w1 ⟨rfl, rfl⟩
  obtain ⟨⟨a0, a1, al⟩, a2, a3⟩ := id fa
  go_wp2_with fail
  clear a0 a1 al a2 a3
  replace fr := fr.setO (c := ba) (o := 0) (by omega) (.int .i64 n)
  replace fa := fa.set0 n
  replace hB := hB.setCell (p := ⟨ba, 0, none⟩) (by show w.heap.size ≤ ba; omega) (.int .i64 n)
  generalize W2.setCell ⟨ba, 0, none⟩ (.int .i64 n) = W3 at fr fa hB ⊢
  replace fr := fr.setO (c := ba) (o := 0) (by omega) (.int .i64 (-n))
  replace fa := fa.set0 (-n)
  replace hB := hB.setCell (p := ⟨ba, 0, none⟩) (by show w.heap.size ≤ ba; omega) (.int .i64 (-n))
  generalize W3.setCell ⟨ba, 0, none⟩ (.int .i64 (-n)) = W5 at fr fa hB ⊢
  refine (rtext_ok (-n) 1 _ HV.out).mono ?_; rintro e w3 ⟨rfl, hb1⟩; replace fr := fr.below hb1; replace fa := fa.below hb1; replace hB := hB.trans (hb1.mono hB.size); clear hb1
  obtain ⟨T, hT⟩ : ∃ T : ByteArray, T = ⟨(txt (-n) 1).toArray⟩ := ⟨_, rfl⟩
  have hTs : (T.toList == s.toList) = false := by
    rw [beq_eq_false_iff_ne, hT, Lib.toList_data, Lib.toList_data]
    exact HNE.out
  have hTn : (T.toList != s.toList) = true := by simp [bne, hTs]
  rw [← hT]
  clear hT
  have hsb := hB.size
  obtain ⟨⟨c0, c1, cl⟩, c2, c3⟩ := id fr
  go_wp2_with fail
  exact bodyPost_ret (v := numV 0 0 30) (by simp [results, Tryd.results40, go_sem, numV, c0, c1, cl, c2, c3]) rfl ⟨rfl, (hB.setCell (p := ⟨w.heap.size, 0, none⟩) (Nat.le_refl _) _).setCell (p := ⟨w.heap.size, 1, none⟩) (Nat.le_refl _) _⟩

set_option maxRecDepth 100000 in
set_option maxHeartbeats 1600000 in
theorem rparse_neg_f_eq (s : ByteArray) (w : World) (hs : s.size ≤ 10000) (top bot : List UInt8) (hc : Lib.cut s.data.toList [47] = (top, bot, false)) (hl : top.length ≤ 10000 ∧ bot.length ≤ 10000) (tb : ByteArray) (htb : tb = ⟨top.toArray⟩) (hs0 : 1 ≤ tb.size) (hs1 : ∀ h : 0 < tb.size, tb[0] = 45) (r : List UInt8) (hx : tb.extract 1 tb.size = ⟨r.toArray⟩) (hr : r.length ≤ 10000) (n : Int) (hn : whM 10 r = n) (hneg : ¬ n < 0) (hv : Nm.vld (-n) 1 = true) (hne : txt (-n) 1 = s.data.toList) :
    Calls Tryd.prog 40 #[.string s] w fun e w' => e = .returned (numV (-n) 1 0) ∧ Below w.heap.size w w' := by
  have nb := whM_bd 10 r (by omega)
  rw [hn] at nb
  obtain ⟨n0, n1⟩ := nb
  have h0 : 0 < tb.size := by omega
  have hs2 := hs1 h0
  have HTB := Lib.hid htb
  clear hs1 htb
  have HW := Lib.hid (fun w => rwhole_10 r w n hr hn)
  have HC := Lib.hid hc
  have HV := Lib.hid hv
  have HNE := Lib.hid hne
  clear hc hl hn hr hv hne
  go_enter Tryd.func40, Tryd.ntmps40
  go_wp2_with fail
  have fr := numFr_new w 0 0 41
  have hB := (Below.refl w.heap.size w).alloc (Nat.le_refl _) (.cells #[.int .i64 0, .int .i64 0] 41)
  generalize w.alloc (.cells #[.int .i64 0, .int .i64 0] 41) = W0 at fr hB ⊢
  refine (rcut_47 s _ hs top bot false HC.out).mono ?_; rintro e w1 ⟨rfl, nd, rfl⟩
  replace fr := fr.below (below_drewN (Below.refl _ W0) nd)
  replace hB := below_drewN hB nd
  generalize W0.drewN nd = W1 at fr hB ⊢
  clear W0
  rw [← HTB.out]
  go_wp2_with fail
  have fa := numFr_new W1 0 1 41
  have hlt := fr.lt
  replace fr := fr.alloc (.cells #[.int .i64 0, .int .i64 1] 41)
  replace hB := hB.alloc hB.size (.cells #[.int .i64 0, .int .i64 1] 41)
  generalize W1.alloc (.cells #[.int .i64 0, .int .i64 1] 41) = W2 at fr fa hB ⊢
  obtain ⟨ba, hba⟩ : ∃ ba, ba = W1.heap.size := ⟨_, rfl⟩
  rw [← hba] at fa hlt ⊢
  clear hba
  refine (HW.out _).mono ?_; rintro e w1 ⟨rfl, rfl⟩
  obtain ⟨⟨a0, a1, al⟩, a2, a3⟩ := id fa
  go_wp2_with fail
  clear a0 a1 al a2 a3
  replace fr := fr.setO (c := ba) (o := 0) (by omega) (.int .i64 n)
  replace fa := fa.set0 n
  replace hB := hB.setCell (p := ⟨ba, 0, none⟩) (by show w.heap.size ≤ ba; omega) (.int .i64 n)
  generalize W2.setCell ⟨ba, 0, none⟩ (.int .i64 n) = W3 at fr fa hB ⊢
  replace fr := fr.setO (c := ba) (o := 0) (by omega) (.int .i64 (-n))
  replace fa := fa.set0 (-n)
  replace hB := hB.setCell (p := ⟨ba, 0, none⟩) (by show w.heap.size ≤ ba; omega) (.int .i64 (-n))
  generalize W3.setCell ⟨ba, 0, none⟩ (.int .i64 (-n)) = W5 at fr fa hB ⊢
  refine (rtext_ok (-n) 1 _ HV.out).mono ?_; rintro e w3 ⟨rfl, hb1⟩; replace fr := fr.below hb1; replace fa := fa.below hb1; replace hB := hB.trans (hb1.mono hB.size); clear hb1
  rw [show (⟨(txt (-n) 1).toArray⟩ : ByteArray) = s by rw [HNE.out]]
  have hsb := hB.size
  obtain ⟨⟨c0, c1, cl⟩, c2, c3⟩ := id fr
  obtain ⟨⟨a0, a1, al⟩, a2, a3⟩ := id fa
  go_wp2_with fail
  exact bodyPost_ret (v := numV (-n) 1 0) (by simp [results, Tryd.results40, go_sem, numV, c0, c1, cl, c2, c3]) rfl ⟨rfl, (hB.setCell (p := ⟨w.heap.size, 0, none⟩) (Nat.le_refl _) _).setCell (p := ⟨w.heap.size, 1, none⟩) (Nat.le_refl _) _⟩

set_option maxRecDepth 100000 in
set_option maxHeartbeats 1600000 in
theorem rparse_neg_t_bad (s : ByteArray) (w : World) (hs : s.size ≤ 10000) (top bot : List UInt8) (hc : Lib.cut s.data.toList [47] = (top, bot, true)) (hl : top.length ≤ 10000 ∧ bot.length ≤ 10000) (tb : ByteArray) (htb : tb = ⟨top.toArray⟩) (hs0 : 1 ≤ tb.size) (hs1 : ∀ h : 0 < tb.size, tb[0] = 45) (r : List UInt8) (hx : tb.extract 1 tb.size = ⟨r.toArray⟩) (hr : r.length ≤ 10000) (n : Int) (hn : whM 10 r = n) (q : Int) (hq : whM 10 bot = q) (hneg : n < 0) :
    Calls Tryd.prog 40 #[.string s] w fun e w' => e = .returned (numV 0 0 30) ∧ Below w.heap.size w w' := by
  have nb := whM_bd 10 r (by omega)
  rw [hn] at nb
  obtain ⟨n0, n1⟩ := nb
  have qb := whM_bd 10 bot (by omega)
  rw [hq] at qb
  obtain ⟨q0, q1⟩ := qb
  have h0 : 0 < tb.size := by omega
  have hs2 := hs1 h0
  have HTB := Lib.hid htb
  clear hs1 htb
  have HW := Lib.hid (fun w => rwhole_10 r w n hr hn)
  have HWQ := Lib.hid (fun w => rwhole_10 bot w q hl.2 hq)
  have HC := Lib.hid hc
  clear hc hl hn hq hr
  go_enter Tryd.func40, Tryd.ntmps40
  go_wp2_with fail
  have fr := numFr_new w 0 0 41
  have hB := (Below.refl w.heap.size w).alloc (Nat.le_refl _) (.cells #[.int .i64 0, .int .i64 0] 41)
  generalize w.alloc (.cells #[.int .i64 0, .int .i64 0] 41) = W0 at fr hB ⊢
  refine (rcut_47 s _ hs top bot true HC.out).mono ?_; rintro e w1 ⟨rfl, nd, rfl⟩
  replace fr := fr.below (below_drewN (Below.refl _ W0) nd)
  replace hB := below_drewN hB nd
  generalize W0.drewN nd = W1 at fr hB ⊢
  clear W0
  rw [← HTB.out]
  go_wp2_with fail
  have fa := numFr_new W1 0 1 41
  have hlt := fr.lt
  replace fr := fr.alloc (.cells #[.int .i64 0, .int .i64 1] 41)
  replace hB := hB.alloc hB.size (.cells #[.int .i64 0, .int .i64 1] 41)
  generalize W1.alloc (.cells #[.int .i64 0, .int .i64 1] 41) = W2 at fr fa hB ⊢
  obtain ⟨ba, hba⟩ : ∃ ba, ba = W1.heap.size := ⟨_, rfl⟩
  rw [← hba] at fa hlt ⊢
  clear hba
  refine (HW.out _).mono ?_; rintro e w1 ⟨rfl, rfl⟩
  obtain ⟨⟨a0, a1, al⟩, a2, a3⟩ := id fa
  go_wp2_with fail
  clear a0 a1 al a2 a3
  replace fr := fr.setO (c := ba) (o := 0) (by omega) (.int .i64 n)
  replace fa := fa.set0 n
  replace hB := hB.setCell (p := ⟨ba, 0, none⟩) (by show w.heap.size ≤ ba; omega) (.int .i64 n)
  generalize W2.setCell ⟨ba, 0, none⟩ (.int .i64 n) = W3 at fr fa hB ⊢
  refine (HWQ.out _).mono ?_; rintro e w1 ⟨rfl, rfl⟩
  obtain ⟨⟨a0, a1, al⟩, a2, a3⟩ := id fa
  obtain ⟨⟨c0, c1, cl⟩, c2, c3⟩ := id fr
  go_wp2_with fail
  exact bodyPost_ret (v := numV 0 0 30) (by simp [results, Tryd.results40, go_sem, numV, c0, c1, cl, c2, c3]) rfl ⟨rfl, ((hB.setCell (p := ⟨ba, 1, none⟩) (by show w.heap.size ≤ ba; omega) _).setCell (p := ⟨w.heap.size, 0, none⟩) (Nat.le_refl _) _).setCell (p := ⟨w.heap.size, 1, none⟩) (Nat.le_refl _) _⟩

set_option maxRecDepth 100000 in
set_option maxHeartbeats 1600000 in
theorem rparse_neg_t_inv (s : ByteArray) (w : World) (hs : s.size ≤ 10000) (top bot : List UInt8) (hc : Lib.cut s.data.toList [47] = (top, bot, true)) (hl : top.length ≤ 10000 ∧ bot.length ≤ 10000) (tb : ByteArray) (htb : tb = ⟨top.toArray⟩) (hs0 : 1 ≤ tb.size) (hs1 : ∀ h : 0 < tb.size, tb[0] = 45) (r : List UInt8) (hx : tb.extract 1 tb.size = ⟨r.toArray⟩) (hr : r.length ≤ 10000) (n : Int) (hn : whM 10 r = n) (q : Int) (hq : whM 10 bot = q) (hneg : ¬ n < 0) (hv : Nm.vld (-n) q = false) :
    Calls Tryd.prog 40 #[.string s] w fun e w' => e = .returned (numV 0 0 30) ∧ Below w.heap.size w w' := by
  have nb := whM_bd 10 r (by omega)
  rw [hn] at nb
  obtain ⟨n0, n1⟩ := nb
  have qb := whM_bd 10 bot (by omega)
  rw [hq] at qb
  obtain ⟨q0, q1⟩ := qb
  have h0 : 0 < tb.size := by omega
  have hs2 := hs1 h0
  have HTB := Lib.hid htb
  clear hs1 htb
  have HW := Lib.hid (fun w => rwhole_10 r w n hr hn)
  have HWQ := Lib.hid (fun w => rwhole_10 bot w q hl.2 hq)
  have HC := Lib.hid hc
  have HV := Lib.hid hv
  clear hc hl hn hq hr hv
  go_enter Tryd.func40, Tryd.ntmps40
  go_wp2_with fail
  have fr := numFr_new w 0 0 41
  have hB := (Below.refl w.heap.size w).alloc (Nat.le_refl _) (.cells #[.int .i64 0, .int .i64 0] 41)
  generalize w.alloc (.cells #[.int .i64 0, .int .i64 0] 41) = W0 at fr hB ⊢
  refine (rcut_47 s _ hs top bot true HC.out).mono ?_; rintro e w1 ⟨rfl, nd, rfl⟩
  replace fr := fr.below (below_drewN (Below.refl _ W0) nd)
  replace hB := below_drewN hB nd
  generalize W0.drewN nd = W1 at fr hB ⊢
  clear W0
  rw [← HTB.out]
  go_wp2_with fail
  have fa := numFr_new W1 0 1 41
  have hlt := fr.lt
  replace fr := fr.alloc (.cells #[.int .i64 0, .int .i64 1] 41)
  replace hB := hB.alloc hB.size (.cells #[.int .i64 0, .int .i64 1] 41)
  generalize W1.alloc (.cells #[.int .i64 0, .int .i64 1] 41) = W2 at fr fa hB ⊢
  obtain ⟨ba, hba⟩ : ∃ ba, ba = W1.heap.size := ⟨_, rfl⟩
  rw [← hba] at fa hlt ⊢
  clear hba
  refine (HW.out _).mono ?_; rintro e w1 ⟨rfl, rfl⟩
  obtain ⟨⟨a0, a1, al⟩, a2, a3⟩ := id fa
  go_wp2_with fail
  clear a0 a1 al a2 a3
  replace fr := fr.setO (c := ba) (o := 0) (by omega) (.int .i64 n)
  replace fa := fa.set0 n
  replace hB := hB.setCell (p := ⟨ba, 0, none⟩) (by show w.heap.size ≤ ba; omega) (.int .i64 n)
  generalize W2.setCell ⟨ba, 0, none⟩ (.int .i64 n) = W3 at fr fa hB ⊢
  refine (HWQ.out _).mono ?_; rintro e w1 ⟨rfl, rfl⟩
  obtain ⟨⟨a0, a1, al⟩, a2, a3⟩ := id fa
  go_wp2_with fail
  clear a0 a1 al a2 a3
  replace fr := fr.setO (c := ba) (o := 1) (by omega) (.int .i64 q)
  replace fa := fa.set1 q
  replace hB := hB.setCell (p := ⟨ba, 1, none⟩) (by show w.heap.size ≤ ba; omega) (.int .i64 q)
  generalize W3.setCell ⟨ba, 1, none⟩ (.int .i64 q) = W4 at fr fa hB ⊢
  replace fr := fr.setO (c := ba) (o := 0) (by omega) (.int .i64 (-n))
  replace fa := fa.set0 (-n)
  replace hB := hB.setCell (p := ⟨ba, 0, none⟩) (by show w.heap.size ≤ ba; omega) (.int .i64 (-n))
  generalize W4.setCell ⟨ba, 0, none⟩ (.int .i64 (-n)) = W5 at fr fa hB ⊢
  refine (rtext_any (-n) q _ (by omega) (by omega) (by omega) (by omega)).mono ?_; rintro e w3 ⟨rfl, hb1⟩; replace fr := fr.below hb1; replace fa := fa.below hb1; replace hB := hB.trans (hb1.mono hB.size); clear hb1
  rw [HV.out, txtV, if_neg (by decide)]
  have hsb := hB.size
  obtain ⟨⟨c0, c1, cl⟩, c2, c3⟩ := id fr
  go_wp2_with fail
  exact bodyPost_ret (v := numV 0 0 30) (by simp [results, Tryd.results40, go_sem, numV, c0, c1, cl, c2, c3]) rfl ⟨rfl, (hB.setCell (p := ⟨w.heap.size, 0, none⟩) (Nat.le_refl _) _).setCell (p := ⟨w.heap.size, 1, none⟩) (Nat.le_refl _) _⟩

set_option maxRecDepth 100000 in
set_option maxHeartbeats 1600000 in
theorem rparse_neg_t_ne (s : ByteArray) (w : World) (hs : s.size ≤ 10000) (top bot : List UInt8) (hc : Lib.cut s.data.toList [47] = (top, bot, true)) (hl : top.length ≤ 10000 ∧ bot.length ≤ 10000) (tb : ByteArray) (htb : tb = ⟨top.toArray⟩) (hs0 : 1 ≤ tb.size) (hs1 : ∀ h : 0 < tb.size, tb[0] = 45) (r : List UInt8) (hx : tb.extract 1 tb.size = ⟨r.toArray⟩) (hr : r.length ≤ 10000) (n : Int) (hn : whM 10 r = n) (q : Int) (hq : whM 10 bot = q) (hneg : ¬ n < 0) (hv : Nm.vld (-n) q = true) (hne : txt (-n) q ≠ s.data.toList) :
    Calls Tryd.prog 40 #[.string s] w fun e w' => e = .returned (numV 0 0 30) ∧ Below w.heap.size w w' := by
  have nb := whM_bd 10 r (by omega)
  rw [hn] at nb
  obtain ⟨n0, n1⟩ := nb
  have qb := whM_bd 10 bot (by omega)
  rw [hq] at qb
  obtain ⟨q0, q1⟩ := qb
  have h0 : 0 < tb.size := by omega
  have hs2 := hs1 h0
  have HTB := Lib.hid htb
  clear hs1 htb
  have HW := Lib.hid (fun w => rwhole_10 r w n hr hn)
  have HWQ := Lib.hid (fun w => rwhole_10 bot w q hl.2 hq)
  have HC := Lib.hid hc
  have HV := Lib.hid hv
  have HNE := Lib.hid hne
  clear hc hl hn hq hr hv hne
  go_enter Tryd.func40, Tryd.ntmps40
  go_wp2_with fail
  have fr := numFr_new w 0 0 41
  have hB := (Below.refl w.heap.size w).alloc (Nat.le_refl _) (.cells #[.int .i64 0, .int .i64 0] 41)
  generalize w.alloc (.cells #[.int .i64 0, .int .i64 0] 41) = W0 at fr hB ⊢
  refine (rcut_47 s _ hs top bot true HC.out).mono ?_; rintro e w1 ⟨rfl, nd, rfl⟩
  replace fr := fr.below (below_drewN (Below.refl _ W0) nd)
  replace hB := below_drewN hB nd
  generalize W0.drewN nd = W1 at fr hB ⊢
  clear W0
  rw [← HTB.out]
  go_wp2_with fail
  have fa := numFr_new W1 0 1 41
  have hlt := fr.lt
  replace fr := fr.alloc (.cells #[.int .i64 0, .int .i64 1] 41)
  replace hB := hB.alloc hB.size (.cells #[.int .i64 0, .int .i64 1] 41)
  generalize W1.alloc (.cells #[.int .i64 0, .int .i64 1] 41) = W2 at fr fa hB ⊢
  obtain ⟨ba, hba⟩ : ∃ ba, ba = W1.heap.size := ⟨_, rfl⟩
  rw [← hba] at fa hlt ⊢
  clear hba
  refine (HW.out _).mono ?_; rintro e w1 ⟨rfl, rfl⟩
  obtain ⟨⟨a0, a1, al⟩, a2, a3⟩ := id fa
  go_wp2_with fail
  clear a0 a1 al a2 a3
  replace fr := fr.setO (c := ba) (o := 0) (by omega) (.int .i64 n)
  replace fa := fa.set0 n
  replace hB := hB.setCell (p := ⟨ba, 0, none⟩) (by show w.heap.size ≤ ba; omega) (.int .i64 n)
  generalize W2.setCell ⟨ba, 0, none⟩ (.int .i64 n) = W3 at fr fa hB ⊢
  refine (HWQ.out _).mono ?_; rintro e w1 ⟨rfl, rfl⟩
  obtain ⟨⟨a0, a1, al⟩, a2, a3⟩ := id fa
  go_wp2_with fail
  clear a0 a1 al a2 a3
  replace fr := fr.setO (c := ba) (o := 1) (by omega) (.int .i64 q)
  replace fa := fa.set1 q
  replace hB := hB.setCell (p := ⟨ba, 1, none⟩) (by show w.heap.size ≤ ba; omega) (.int .i64 q)
  generalize W3.setCell ⟨ba, 1, none⟩ (.int .i64 q) = W4 at fr fa hB ⊢
  replace fr := fr.setO (c := ba) (o := 0) (by omega) (.int .i64 (-n))
  replace fa := fa.set0 (-n)
  replace hB := hB.setCell (p := ⟨ba, 0, none⟩) (by show w.heap.size ≤ ba; omega) (.int .i64 (-n))
  generalize W4.setCell ⟨ba, 0, none⟩ (.int .i64 (-n)) = W5 at fr fa hB ⊢
  refine (rtext_ok (-n) q _ HV.out).mono ?_; rintro e w3 ⟨rfl, hb1⟩; replace fr := fr.below hb1; replace fa := fa.below hb1; replace hB := hB.trans (hb1.mono hB.size); clear hb1
  obtain ⟨T, hT⟩ : ∃ T : ByteArray, T = ⟨(txt (-n) q).toArray⟩ := ⟨_, rfl⟩
  have hTs : (T.toList == s.toList) = false := by
    rw [beq_eq_false_iff_ne, hT, Lib.toList_data, Lib.toList_data]
    exact HNE.out
  have hTn : (T.toList != s.toList) = true := by simp [bne, hTs]
  rw [← hT]
  clear hT
  have hsb := hB.size
  obtain ⟨⟨c0, c1, cl⟩, c2, c3⟩ := id fr
  go_wp2_with fail
  exact bodyPost_ret (v := numV 0 0 30) (by simp [results, Tryd.results40, go_sem, numV, c0, c1, cl, c2, c3]) rfl ⟨rfl, (hB.setCell (p := ⟨w.heap.size, 0, none⟩) (Nat.le_refl _) _).setCell (p := ⟨w.heap.size, 1, none⟩) (Nat.le_refl _) _⟩

set_option maxRecDepth 100000 in
set_option maxHeartbeats 1600000 in
theorem rparse_neg_t_eq (s : ByteArray) (w : World) (hs : s.size ≤ 10000) (top bot : List UInt8) (hc : Lib.cut s.data.toList [47] = (top, bot, true)) (hl : top.length ≤ 10000 ∧ bot.length ≤ 10000) (tb : ByteArray) (htb : tb = ⟨top.toArray⟩) (hs0 : 1 ≤ tb.size) (hs1 : ∀ h : 0 < tb.size, tb[0] = 45) (r : List UInt8) (hx : tb.extract 1 tb.size = ⟨r.toArray⟩) (hr : r.length ≤ 10000) (n : Int) (hn : whM 10 r = n) (q : Int) (hq : whM 10 bot = q) (hneg : ¬ n < 0) (hv : Nm.vld (-n) q = true) (hne : txt (-n) q = s.data.toList) :
    Calls Tryd.prog 40 #[.string s] w fun e w' => e = .returned (numV (-n) q 0) ∧ Below w.heap.size w w' := by
  have nb := whM_bd 10 r (by omega)
  rw [hn] at nb
  obtain ⟨n0, n1⟩ := nb
  have qb := whM_bd 10 bot (by omega)
  rw [hq] at qb
  obtain ⟨q0, q1⟩ := qb
  have h0 : 0 < tb.size := by omega
  have hs2 := hs1 h0
  have HTB := Lib.hid htb
  clear hs1 htb
  have HW := Lib.hid (fun w => rwhole_10 r w n hr hn)
  have HWQ := Lib.hid (fun w => rwhole_10 bot w q hl.2 hq)
  have HC := Lib.hid hc
  have HV := Lib.hid hv
  have HNE := Lib.hid hne
  clear hc hl hn hq hr hv hne
  go_enter Tryd.func40, Tryd.ntmps40
  go_wp2_with fail
  have fr := numFr_new w 0 0 41
  have hB := (Below.refl w.heap.size w).alloc (Nat.le_refl _) (.cells #[.int .i64 0, .int .i64 0] 41)
  generalize w.alloc (.cells #[.int .i64 0, .int .i64 0] 41) = W0 at fr hB ⊢
  refine (rcut_47 s _ hs top bot true HC.out).mono ?_; rintro e w1 ⟨rfl, nd, rfl⟩
  replace fr := fr.below (below_drewN (Below.refl _ W0) nd)
  replace hB := below_drewN hB nd
  generalize W0.drewN nd = W1 at fr hB ⊢
  clear W0
  rw [← HTB.out]
  go_wp2_with fail
  have fa := numFr_new W1 0 1 41
  have hlt := fr.lt
  replace fr := fr.alloc (.cells #[.int .i64 0, .int .i64 1] 41)
  replace hB := hB.alloc hB.size (.cells #[.int .i64 0, .int .i64 1] 41)
  generalize W1.alloc (.cells #[.int .i64 0, .int .i64 1] 41) = W2 at fr fa hB ⊢
  obtain ⟨ba, hba⟩ : ∃ ba, ba = W1.heap.size := ⟨_, rfl⟩
  rw [← hba] at fa hlt ⊢
  clear hba
  refine (HW.out _).mono ?_; rintro e w1 ⟨rfl, rfl⟩
  obtain ⟨⟨a0, a1, al⟩, a2, a3⟩ := id fa
  go_wp2_with fail
  clear a0 a1 al a2 a3
  replace fr := fr.setO (c := ba) (o := 0) (by omega) (.int .i64 n)
  replace fa := fa.set0 n
  replace hB := hB.setCell (p := ⟨ba, 0, none⟩) (by show w.heap.size ≤ ba; omega) (.int .i64 n)
  generalize W2.setCell ⟨ba, 0, none⟩ (.int .i64 n) = W3 at fr fa hB ⊢
  refine (HWQ.out _).mono ?_; rintro e w1 ⟨rfl, rfl⟩
  obtain ⟨⟨a0, a1, al⟩, a2, a3⟩ := id fa
  go_wp2_with fail
  clear a0 a1 al a2 a3
  replace fr := fr.setO (c := ba) (o := 1) (by omega) (.int .i64 q)
  replace fa := fa.set1 q
  replace hB := hB.setCell (p := ⟨ba, 1, none⟩) (by show w.heap.size ≤ ba; omega) (.int .i64 q)
  generalize W3.setCell ⟨ba, 1, none⟩ (.int .i64 q) = W4 at fr fa hB ⊢
  replace fr := fr.setO (c := ba) (o := 0) (by omega) (.int .i64 (-n))
  replace fa := fa.set0 (-n)
  replace hB := hB.setCell (p := ⟨ba, 0, none⟩) (by show w.heap.size ≤ ba; omega) (.int .i64 (-n))
  generalize W4.setCell ⟨ba, 0, none⟩ (.int .i64 (-n)) = W5 at fr fa hB ⊢
  refine (rtext_ok (-n) q _ HV.out).mono ?_; rintro e w3 ⟨rfl, hb1⟩; replace fr := fr.below hb1; replace fa := fa.below hb1; replace hB := hB.trans (hb1.mono hB.size); clear hb1
  rw [show (⟨(txt (-n) q).toArray⟩ : ByteArray) = s by rw [HNE.out]]
  have hsb := hB.size
  obtain ⟨⟨c0, c1, cl⟩, c2, c3⟩ := id fr
  obtain ⟨⟨a0, a1, al⟩, a2, a3⟩ := id fa
  go_wp2_with fail
  exact bodyPost_ret (v := numV (-n) q 0) (by simp [results, Tryd.results40, go_sem, numV, c0, c1, cl, c2, c3]) rfl ⟨rfl, (hB.setCell (p := ⟨w.heap.size, 0, none⟩) (Nat.le_refl _) _).setCell (p := ⟨w.heap.size, 1, none⟩) (Nat.le_refl _) _⟩

set_option maxRecDepth 100000 in
set_option maxHeartbeats 1600000 in
theorem rparse_pos_f_bad (s : ByteArray) (w : World) (hs : s.size ≤ 10000) (top bot : List UInt8) (hc : Lib.cut s.data.toList [47] = (top, bot, false)) (hl : top.length ≤ 10000 ∧ bot.length ≤ 10000) (tb : ByteArray) (htb : tb = ⟨top.toArray⟩) (hs0 : 1 ≤ tb.size) (ch : UInt8) (hs1 : ∀ h : 0 < tb.size, tb[0] = ch) (hch : ch ≠ 45) (n : Int) (hn : whM 10 top = n) (hneg : n < 0) :
    Calls Tryd.prog 40 #[.string s] w fun e w' => e = .returned (numV 0 0 30) ∧ Below w.heap.size w w' := by
  have nb := whM_bd 10 top (by omega)
  rw [hn] at nb
  obtain ⟨n0, n1⟩ := nb
  have h0 : 0 < tb.size := by omega
  have hs2 := hs1 h0
  have hcn0 : ((ch.toNat : Int) == 45) = false := by
    simp
    intro e
    exact hch (UInt8.toNat_inj.1 (by have : (45 : UInt8).toNat = 45 := rfl; omega))
  have HTB := Lib.hid htb
  clear hs1 hch htb
  have HW := Lib.hid (fun w => rwhole_10 top w n hl.1 hn)
  have HC := Lib.hid hc
  clear hc hl hn
  go_enter Tryd.func40, Tryd.ntmps40
  go_wp2_with fail
  have fr := numFr_new w 0 0 41
  have hB := (Below.refl w.heap.size w).alloc (Nat.le_refl _) (.cells #[.int .i64 0, .int .i64 0] 41)
  generalize w.alloc (.cells #[.int .i64 0, .int .i64 0] 41) = W0 at fr hB ⊢
  refine (rcut_47 s _ hs top bot false HC.out).mono ?_; rintro e w1 ⟨rfl, nd, rfl⟩
  replace fr := fr.below (below_drewN (Below.refl _ W0) nd)
  replace hB := below_drewN hB nd
  generalize W0.drewN nd = W1 at fr hB ⊢
  clear W0
  rw [← HTB.out]
  go_wp2_with fail
  have fa := numFr_new W1 0 1 41
  have hlt := fr.lt
  replace fr := fr.alloc (.cells #[.int .i64 0, .int .i64 1] 41)
  replace hB := hB.alloc hB.size (.cells #[.int .i64 0, .int .i64 1] 41)
  generalize W1.alloc (.cells #[.int .i64 0, .int .i64 1] 41) = W2 at fr fa hB ⊢
  obtain ⟨ba, hba⟩ : ∃ ba, ba = W1.heap.size := ⟨_, rfl⟩
  rw [← hba] at fa hlt ⊢
  clear hba
  rw [HTB.out]
  refine (HW.out _).mono ?_; rintro e w1 ⟨rfl, rfl⟩
  obtain ⟨⟨a0, a1, al⟩, a2, a3⟩ := id fa
  obtain ⟨⟨c0, c1, cl⟩, c2, c3⟩ := id fr
  go_wp2_with fail
  exact bodyPost_ret (v := numV 0 0 30) (by simp [results, Tryd.results40, go_sem, numV, c0, c1, cl, c2, c3]) rfl ⟨rfl, ((hB.setCell (p := ⟨ba, 0, none⟩) (by show w.heap.size ≤ ba; omega) _).setCell (p := ⟨w.heap.size, 0, none⟩) (Nat.le_refl _) _).setCell (p := ⟨w.heap.size, 1, none⟩) (Nat.le_refl _) _⟩

set_option maxRecDepth 100000 in
set_option maxHeartbeats 1600000 in
theorem rparse_pos_f_inv (s : ByteArray) (w : World) (hs : s.size ≤ 10000) (top bot : List UInt8) (hc : Lib.cut s.data.toList [47] = (top, bot, false)) (hl : top.length ≤ 10000 ∧ bot.length ≤ 10000) (tb : ByteArray) (htb : tb = ⟨top.toArray⟩) (hs0 : 1 ≤ tb.size) (ch : UInt8) (hs1 : ∀ h : 0 < tb.size, tb[0] = ch) (hch : ch ≠ 45) (n : Int) (hn : whM 10 top = n) (hneg : ¬ n < 0) (hv : Nm.vld n 1 = false) :
    Calls Tryd.prog 40 #[.string s] w fun e w' => e = .returned (numV 0 0 30) ∧ Below w.heap.size w w' := by
  have nb := whM_bd 10 top (by omega)
  rw [hn] at nb
  obtain ⟨n0, n1⟩ := nb
  have h0 : 0 < tb.size := by omega
  have hs2 := hs1 h0
  have hcn0 : ((ch.toNat : Int) == 45) = false := by
    simp
    intro e
    exact hch (UInt8.toNat_inj.1 (by have : (45 : UInt8).toNat = 45 := rfl; omega))
  have HTB := Lib.hid htb
  clear hs1 hch htb
  have HW := Lib.hid (fun w => rwhole_10 top w n hl.1 hn)
  have HC := Lib.hid hc
  have HV := Lib.hid hv
  clear hc hl hn hv
  go_enter Tryd.func40, Tryd.ntmps40
  go_wp2_with fail
  have fr := numFr_new w 0 0 41
  have hB := (Below.refl w.heap.size w).alloc (Nat.le_refl _) (.cells #[.int .i64 0, .int .i64 0] 41)
  generalize w.alloc (.cells #[.int .i64 0, .int .i64 0] 41) = W0 at fr hB ⊢
  refine (rcut_47 s _ hs top bot false HC.out).mono ?_; rintro e w1 ⟨rfl, nd, rfl⟩
  replace fr := fr.below (below_drewN (Below.refl _ W0) nd)
  replace hB := below_drewN hB nd
  generalize W0.drewN nd = W1 at fr hB ⊢
  clear W0
  rw [← HTB.out]
  go_wp2_with fail
  have fa := numFr_new W1 0 1 41
  have hlt := fr.lt
  replace fr := fr.alloc (.cells #[.int .i64 0, .int .i64 1] 41)
  replace hB := hB.alloc hB.size (.cells #[.int .i64 0, .int .i64 1] 41)
  generalize W1.alloc (.cells #[.int .i64 0, .int .i64 1] 41) = W2 at fr fa hB ⊢
  obtain ⟨ba, hba⟩ : ∃ ba, ba = W1.heap.size := ⟨_, rfl⟩
  rw [← hba] at fa hlt ⊢
  clear hba
  rw [HTB.out]
  refine (HW.out _).mono ?_; rintro e w1 ⟨rfl, rfl⟩
  obtain ⟨⟨a0, a1, al⟩, a2, a3⟩ := id fa
  go_wp2_with fail
  clear a0 a1 al a2 a3
  replace fr := fr.setO (c := ba) (o := 0) (by omega) (.int .i64 n)
  replace fa := fa.set0 n
  replace hB := hB.setCell (p := ⟨ba, 0, none⟩) (by show w.heap.size ≤ ba; omega) (.int .i64 n)
  generalize W2.setCell ⟨ba, 0, none⟩ (.int .i64 n) = W3 at fr fa hB ⊢
  refine (rtext_any n 1 _ (by omega) (by omega) (by omega) (by omega)).mono ?_; rintro e w3 ⟨rfl, hb1⟩; replace fr := fr.below hb1; replace fa := fa.below hb1; replace hB := hB.trans (hb1.mono hB.size); clear hb1
  rw [HV.out, txtV, if_neg (by decide)]
  have hsb := hB.size
  obtain ⟨⟨c0, c1, cl⟩, c2, c3⟩ := id fr
  go_wp2_with fail
  exact bodyPost_ret (v := numV 0 0 30) (by simp [results, Tryd.results40, go_sem, numV, c0, c1, cl, c2, c3]) rfl ⟨rfl, (hB.setCell (p := ⟨w.heap.size, 0, none⟩) (Nat.le_refl _) _).setCell (p := ⟨w.heap.size, 1, none⟩) (Nat.le_refl _) _⟩

set_option maxRecDepth 100000 in
set_option maxHeartbeats 1600000 in
theorem rparse_pos_f_ne (s : ByteArray) (w : World) (hs : s.size ≤ 10000) (top bot : List UInt8) (hc : Lib.cut s.data.toList [47] = (top, bot, false)) (hl : top.length ≤ 10000 ∧ bot.length ≤ 10000) (tb : ByteArray) (htb : tb = ⟨top.toArray⟩) (hs0 : 1 ≤ tb.size) (ch : UInt8) (hs1 : ∀ h : 0 < tb.size, tb[0] = ch) (hch : ch ≠ 45) (n : Int) (hn : whM 10 top = n) (hneg : ¬ n < 0) (hv : Nm.vld n 1 = true) (hne : txt n 1 ≠ s.data.toList) :
    Calls Tryd.prog 40 #[.string s] w fun e w' => e = .returned (numV 0 0 30) ∧ Below w.heap.size w w' := by
  have nb := whM_bd 10 top (by omega)
  rw [hn] at nb
  obtain ⟨n0, n1⟩ := nb
  have h0 : 0 < tb.size := by omega
  have hs2 := hs1 h0
  have hcn0 : ((ch.toNat : Int) == 45) = false := by
    simp
    intro e
    exact hch (UInt8.toNat_inj.1 (by have : (45 : UInt8).toNat = 45 := rfl; omega))
  have HTB := Lib.hid htb
  clear hs1 hch htb
  have HW := Lib.hid (fun w => rwhole_10 top w n hl.1 hn)
  have HC := Lib.hid hc
  have HV := Lib.hid hv
  have HNE := Lib.hid hne
  clear hc hl hn hv hne
  go_enter Tryd.func40, Tryd.ntmps40
  go_wp2_with fail
  have fr := numFr_new w 0 0 41
  have hB := (Below.refl w.heap.size w).alloc (Nat.le_refl _) (.cells #[.int .i64 0, .int .i64 0] 41)
  generalize w.alloc (.cells #[.int .i64 0, .int .i64 0] 41) = W0 at fr hB ⊢
  refine (rcut_47 s _ hs top bot false HC.out).mono ?_; rintro e w1 ⟨rfl, nd, rfl⟩
  replace fr := fr.below (below_drewN (Below.refl _ W0) nd)
  replace hB := below_drewN hB nd
  generalize W0.drewN nd = W1 at fr hB ⊢
  clear W0
  rw [← HTB.out]
  go_wp2_with fail
  have fa := numFr_new W1 0 1 41
  have hlt := fr.lt
  replace fr := fr.alloc (.cells #[.int .i64 0, .int .i64 1] 41)
  replace hB := hB.alloc hB.size (.cells #[.int .i64 0, .int .i64 1] 41)
  generalize W1.alloc (.cells #[.int .i64 0, .int .i64 1] 41) = W2 at fr fa hB ⊢
  obtain ⟨ba, hba⟩ : ∃ ba, ba = W1.heap.size := ⟨_, rfl⟩
  rw [← hba] at fa hlt ⊢
  clear hba
  rw [HTB.out]
  refine (HW.out _).mono ?_; rintro e w1 ⟨rfl, rfl⟩
  obtain ⟨⟨a0, a1, al⟩, a2, a3⟩ := id fa
  go_wp2_with fail
  clear a0 a1 al a2 a3
  replace fr := fr.setO (c := ba) (o := 0) (by omega) (.int .i64 n)
  replace fa := fa.set0 n
  replace hB := hB.setCell (p := ⟨ba, 0, none⟩) (by show w.heap.size ≤ ba; omega) (.int .i64 n)
  generalize W2.setCell ⟨ba, 0, none⟩ (.int .i64 n) = W3 at fr fa hB ⊢
  refine (rtext_ok n 1 _ HV.out).mono ?_; rintro e w3 ⟨rfl, hb1⟩; replace fr := fr.below hb1; replace fa := fa.below hb1; replace hB := hB.trans (hb1.mono hB.size); clear hb1
  obtain ⟨T, hT⟩ : ∃ T : ByteArray, T = ⟨(txt n 1).toArray⟩ := ⟨_, rfl⟩
  have hTs : (T.toList == s.toList) = false := by
    rw [beq_eq_false_iff_ne, hT, Lib.toList_data, Lib.toList_data]
    exact HNE.out
  have hTn : (T.toList != s.toList) = true := by simp [bne, hTs]
  rw [← hT]
  clear hT
  have hsb := hB.size
  obtain ⟨⟨c0, c1, cl⟩, c2, c3⟩ := id fr
  go_wp2_with fail
  exact bodyPost_ret (v := numV 0 0 30) (by simp [results, Tryd.results40, go_sem, numV, c0, c1, cl, c2, c3]) rfl ⟨rfl, (hB.setCell (p := ⟨w.heap.size, 0, none⟩) (Nat.le_refl _) _).setCell (p := ⟨w.heap.size, 1, none⟩) (Nat.le_refl _) _⟩

set_option maxRecDepth 100000 in
set_option maxHeartbeats 1600000 in
theorem rparse_pos_f_eq (s : ByteArray) (w : World) (hs : s.size ≤ 10000) (top bot : List UInt8) (hc : Lib.cut s.data.toList [47] = (top, bot, false)) (hl : top.length ≤ 10000 ∧ bot.length ≤ 10000) (tb : ByteArray) (htb : tb = ⟨top.toArray⟩) (hs0 : 1 ≤ tb.size) (ch : UInt8) (hs1 : ∀ h : 0 < tb.size, tb[0] = ch) (hch : ch ≠ 45) (n : Int) (hn : whM 10 top = n) (hneg : ¬ n < 0) (hv : Nm.vld n 1 = true) (hne : txt n 1 = s.data.toList) :
    Calls Tryd.prog 40 #[.string s] w fun e w' => e = .returned (numV n 1 0) ∧ Below w.heap.size w w' := by
  have nb := whM_bd 10 top (by omega)
  rw [hn] at nb
  obtain ⟨n0, n1⟩ := nb
  have h0 : 0 < tb.size := by omega
  have hs2 := hs1 h0
  have hcn0 : ((ch.toNat : Int) == 45) = false := by
    simp
    intro e
    exact hch (UInt8.toNat_inj.1 (by have : (45 : UInt8).toNat = 45 := rfl; omega))
  have HTB := Lib.hid htb
  clear hs1 hch htb
  have HW := Lib.hid (fun w => rwhole_10 top w n hl.1 hn)
  have HC := Lib.hid hc
  have HV := Lib.hid hv
  have HNE := Lib.hid hne
  clear hc hl hn hv hne
  go_enter Tryd.func40, Tryd.ntmps40
  go_wp2_with fail
  have fr := numFr_new w 0 0 41
  have hB := (Below.refl w.heap.size w).alloc (Nat.le_refl _) (.cells #[.int .i64 0, .int .i64 0] 41)
  generalize w.alloc (.cells #[.int .i64 0, .int .i64 0] 41) = W0 at fr hB ⊢
  refine (rcut_47 s _ hs top bot false HC.out).mono ?_; rintro e w1 ⟨rfl, nd, rfl⟩
  replace fr := fr.below (below_drewN (Below.refl _ W0) nd)
  replace hB := below_drewN hB nd
  generalize W0.drewN nd = W1 at fr hB ⊢
  clear W0
  rw [← HTB.out]
  go_wp2_with fail
  have fa := numFr_new W1 0 1 41
  have hlt := fr.lt
  replace fr := fr.alloc (.cells #[.int .i64 0, .int .i64 1] 41)
  replace hB := hB.alloc hB.size (.cells #[.int .i64 0, .int .i64 1] 41)
  generalize W1.alloc (.cells #[.int .i64 0, .int .i64 1] 41) = W2 at fr fa hB ⊢
  obtain ⟨ba, hba⟩ : ∃ ba, ba = W1.heap.size := ⟨_, rfl⟩
  rw [← hba] at fa hlt ⊢
  clear hba
  rw [HTB.out]
  refine (HW.out _).mono ?_; rintro e w1 ⟨rfl, rfl⟩
  obtain ⟨⟨a0, a1, al⟩, a2, a3⟩ := id fa
  go_wp2_with fail
  clear a0 a1 al a2 a3
  replace fr := fr.setO (c := ba) (o := 0) (by omega) (.int .i64 n)
  replace fa := fa.set0 n
  replace hB := hB.setCell (p := ⟨ba, 0, none⟩) (by show w.heap.size ≤ ba; omega) (.int .i64 n)
  generalize W2.setCell ⟨ba, 0, none⟩ (.int .i64 n) = W3 at fr fa hB ⊢
  refine (rtext_ok n 1 _ HV.out).mono ?_; rintro e w3 ⟨rfl, hb1⟩; replace fr := fr.below hb1; replace fa := fa.below hb1; replace hB := hB.trans (hb1.mono hB.size); clear hb1
  rw [show (⟨(txt n 1).toArray⟩ : ByteArray) = s by rw [HNE.out]]
  have hsb := hB.size
  obtain ⟨⟨c0, c1, cl⟩, c2, c3⟩ := id fr
  obtain ⟨⟨a0, a1, al⟩, a2, a3⟩ := id fa
  go_wp2_with fail
  exact bodyPost_ret (v := numV n 1 0) (by simp [results, Tryd.results40, go_sem, numV, c0, c1, cl, c2, c3]) rfl ⟨rfl, (hB.setCell (p := ⟨w.heap.size, 0, none⟩) (Nat.le_refl _) _).setCell (p := ⟨w.heap.size, 1, none⟩) (Nat.le_refl _) _⟩

set_option maxRecDepth 100000 in
set_option maxHeartbeats 1600000 in
theorem rparse_pos_t_bad (s : ByteArray) (w : World) (hs : s.size ≤ 10000) (top bot : List UInt8) (hc : Lib.cut s.data.toList [47] = (top, bot, true)) (hl : top.length ≤ 10000 ∧ bot.length ≤ 10000) (tb : ByteArray) (htb : tb = ⟨top.toArray⟩) (hs0 : 1 ≤ tb.size) (ch : UInt8) (hs1 : ∀ h : 0 < tb.size, tb[0] = ch) (hch : ch ≠ 45) (n : Int) (hn : whM 10 top = n) (q : Int) (hq : whM 10 bot = q) (hneg : n < 0) :
    Calls Tryd.prog 40 #[.string s] w fun e w' => e = .returned (numV 0 0 30) ∧ Below w.heap.size w w' := by
  have nb := whM_bd 10 top (by omega)
  rw [hn] at nb
  obtain ⟨n0, n1⟩ := nb
  have qb := whM_bd 10 bot (by omega)
  rw [hq] at qb
  obtain ⟨q0, q1⟩ := qb
  have h0 : 0 < tb.size := by omega
  have hs2 := hs1 h0
  have hcn0 : ((ch.toNat : Int) == 45) = false := by
    simp
    intro e
    exact hch (UInt8.toNat_inj.1 (by have : (45 : UInt8).toNat = 45 := rfl; omega))
  have HTB := Lib.hid htb
  clear hs1 hch htb
  have HW := Lib.hid (fun w => rwhole_10 top w n hl.1 hn)
  have HWQ := Lib.hid (fun w => rwhole_10 bot w q hl.2 hq)
  have HC := Lib.hid hc
  clear hc hl hn hq
  go_enter Tryd.func40, Tryd.ntmps40
  go_wp2_with fail
  have fr := numFr_new w 0 0 41
  have hB := (Below.refl w.heap.size w).alloc (Nat.le_refl _) (.cells #[.int .i64 0, .int .i64 0] 41)
  generalize w.alloc (.cells #[.int .i64 0, .int .i64 0] 41) = W0 at fr hB ⊢
  refine (rcut_47 s _ hs top bot true HC.out).mono ?_; rintro e w1 ⟨rfl, nd, rfl⟩
  replace fr := fr.below (below_drewN (Below.refl _ W0) nd)
  replace hB := below_drewN hB nd
  generalize W0.drewN nd = W1 at fr hB ⊢
  clear W0
  rw [← HTB.out]
  go_wp2_with fail
  have fa := numFr_new W1 0 1 41
  have hlt := fr.lt
  replace fr := fr.alloc (.cells #[.int .i64 0, .int .i64 1] 41)
  replace hB := hB.alloc hB.size (.cells #[.int .i64 0, .int .i64 1] 41)
  generalize W1.alloc (.cells #[.int .i64 0, .int .i64 1] 41) = W2 at fr fa hB ⊢
  obtain ⟨ba, hba⟩ : ∃ ba, ba = W1.heap.size := ⟨_, rfl⟩
  rw [← hba] at fa hlt ⊢
  clear hba
  rw [HTB.out]
  refine (HW.out _).mono ?_; rintro e w1 ⟨rfl, rfl⟩
  obtain ⟨⟨a0, a1, al⟩, a2, a3⟩ := id fa
  go_wp2_with fail
  clear a0 a1 al a2 a3
  replace fr := fr.setO (c := ba) (o := 0) (by omega) (.int .i64 n)
  replace fa := fa.set0 n
  replace hB := hB.setCell (p := ⟨ba, 0, none⟩) (by show w.heap.size ≤ ba; omega) (.int .i64 n)
  generalize W2.setCell ⟨ba, 0, none⟩ (.int .i64 n) = W3 at fr fa hB ⊢
  refine (HWQ.out _).mono ?_; rintro e w1 ⟨rfl, rfl⟩
  obtain ⟨⟨a0, a1, al⟩, a2, a3⟩ := id fa
  obtain ⟨⟨c0, c1, cl⟩, c2, c3⟩ := id fr
  go_wp2_with fail
  exact bodyPost_ret (v := numV 0 0 30) (by simp [results, Tryd.results40, go_sem, numV, c0, c1, cl, c2, c3]) rfl ⟨rfl, ((hB.setCell (p := ⟨ba, 1, none⟩) (by show w.heap.size ≤ ba; omega) _).setCell (p := ⟨w.heap.size, 0, none⟩) (Nat.le_refl _) _).setCell (p := ⟨w.heap.size, 1, none⟩) (Nat.le_refl _) _⟩

set_option maxRecDepth 100000 in
set_option maxHeartbeats 1600000 in
theorem rparse_pos_t_inv (s : ByteArray) (w : World) (hs : s.size ≤ 10000) (top bot : List UInt8) (hc : Lib.cut s.data.toList [47] = (top, bot, true)) (hl : top.length ≤ 10000 ∧ bot.length ≤ 10000) (tb : ByteArray) (htb : tb = ⟨top.toArray⟩) (hs0 : 1 ≤ tb.size) (ch : UInt8) (hs1 : ∀ h : 0 < tb.size, tb[0] = ch) (hch : ch ≠ 45) (n : Int) (hn : whM 10 top = n) (q : Int) (hq : whM 10 bot = q) (hneg : ¬ n < 0) (hv : Nm.vld n q = false) :
    Calls Tryd.prog 40 #[.string s] w fun e w' => e = .returned (numV 0 0 30) ∧ Below w.heap.size w w' := by
  have nb := whM_bd 10 top (by omega)
  rw [hn] at nb
  obtain ⟨n0, n1⟩ := nb
  have qb := whM_bd 10 bot (by omega)
  rw [hq] at qb
  obtain ⟨q0, q1⟩ := qb
  have h0 : 0 < tb.size := by omega
  have hs2 := hs1 h0
  have hcn0 : ((ch.toNat : Int) == 45) = false := by
    simp
    intro e
    exact hch (UInt8.toNat_inj.1 (by have : (45 : UInt8).toNat = 45 := rfl; omega))
  have HTB := Lib.hid htb
  clear hs1 hch htb
  have HW := Lib.hid (fun w => rwhole_10 top w n hl.1 hn)
  have HWQ := Lib.hid (fun w => rwhole_10 bot w q hl.2 hq)
  have HC := Lib.hid hc
  have HV := Lib.hid hv
  clear hc hl hn hq hv
  go_enter Tryd.func40, Tryd.ntmps40
  go_wp2_with fail
  have fr := numFr_new w 0 0 41
  have hB := (Below.refl w.heap.size w).alloc (Nat.le_refl _) (.cells #[.int .i64 0, .int .i64 0] 41)
  generalize w.alloc (.cells #[.int .i64 0, .int .i64 0] 41) = W0 at fr hB ⊢
  refine (rcut_47 s _ hs top bot true HC.out).mono ?_; rintro e w1 ⟨rfl, nd, rfl⟩
  replace fr := fr.below (below_drewN (Below.refl _ W0) nd)
  replace hB := below_drewN hB nd
  generalize W0.drewN nd = W1 at fr hB ⊢
  clear W0
  rw [← HTB.out]
  go_wp2_with fail
  have fa := numFr_new W1 0 1 41
  have hlt := fr.lt
  replace fr := fr.alloc (.cells #[.int .i64 0, .int .i64 1] 41)
  replace hB := hB.alloc hB.size (.cells #[.int .i64 0, .int .i64 1] 41)
  generalize W1.alloc (.cells #[.int .i64 0, .int .i64 1] 41) = W2 at fr fa hB ⊢
  obtain ⟨ba, hba⟩ : ∃ ba, ba = W1.heap.size := ⟨_, rfl⟩
  rw [← hba] at fa hlt ⊢
  clear hba
  rw [HTB.out]
  refine (HW.out _).mono ?_; rintro e w1 ⟨rfl, rfl⟩
  obtain ⟨⟨a0, a1, al⟩, a2, a3⟩ := id fa
  go_wp2_with fail
  clear a0 a1 al a2 a3
  replace fr := fr.setO (c := ba) (o := 0) (by omega) (.int .i64 n)
  replace fa := fa.set0 n
  replace hB := hB.setCell (p := ⟨ba, 0, none⟩) (by show w.heap.size ≤ ba; omega) (.int .i64 n)
  generalize W2.setCell ⟨ba, 0, none⟩ (.int .i64 n) = W3 at fr fa hB ⊢
  refine (HWQ.out _).mono ?_; rintro e w1 ⟨rfl, rfl⟩
  obtain ⟨⟨a0, a1, al⟩, a2, a3⟩ := id fa
  go_wp2_with fail
  clear a0 a1 al a2 a3
  replace fr := fr.setO (c := ba) (o := 1) (by omega) (.int .i64 q)
  replace fa := fa.set1 q
  replace hB := hB.setCell (p := ⟨ba, 1, none⟩) (by show w.heap.size ≤ ba; omega) (.int .i64 q)
  generalize W3.setCell ⟨ba, 1, none⟩ (.int .i64 q) = W4 at fr fa hB ⊢
  refine (rtext_any n q _ (by omega) (by omega) (by omega) (by omega)).mono ?_; rintro e w3 ⟨rfl, hb1⟩; replace fr := fr.below hb1; replace fa := fa.below hb1; replace hB := hB.trans (hb1.mono hB.size); clear hb1
  rw [HV.out, txtV, if_neg (by decide)]
  have hsb := hB.size
  obtain ⟨⟨c0, c1, cl⟩, c2, c3⟩ := id fr
  go_wp2_with fail
  exact bodyPost_ret (v := numV 0 0 30) (by simp [results, Tryd.results40, go_sem, numV, c0, c1, cl, c2, c3]) rfl ⟨rfl, (hB.setCell (p := ⟨w.heap.size, 0, none⟩) (Nat.le_refl _) _).setCell (p := ⟨w.heap.size, 1, none⟩) (Nat.le_refl _) _⟩

set_option maxRecDepth 100000 in
set_option maxHeartbeats 1600000 in
theorem rparse_pos_t_ne (s : ByteArray) (w : World) (hs : s.size ≤ 10000) (top bot : List UInt8) (hc : Lib.cut s.data.toList [47] = (top, bot, true)) (hl : top.length ≤ 10000 ∧ bot.length ≤ 10000) (tb : ByteArray) (htb : tb = ⟨top.toArray⟩) (hs0 : 1 ≤ tb.size) (ch : UInt8) (hs1 : ∀ h : 0 < tb.size, tb[0] = ch) (hch : ch ≠ 45) (n : Int) (hn : whM 10 top = n) (q : Int) (hq : whM 10 bot = q) (hneg : ¬ n < 0) (hv : Nm.vld n q = true) (hne : txt n q ≠ s.data.toList) :
    Calls Tryd.prog 40 #[.string s] w fun e w' => e = .returned (numV 0 0 30) ∧ Below w.heap.size w w' := by
  have nb := whM_bd 10 top (by omega)
  rw [hn] at nb
  obtain ⟨n0, n1⟩ := nb
  have qb := whM_bd 10 bot (by omega)
  rw [hq] at qb
  obtain ⟨q0, q1⟩ := qb
  have h0 : 0 < tb.size := by omega
  have hs2 := hs1 h0
  have hcn0 : ((ch.toNat : Int) == 45) = false := by
    simp
    intro e
    exact hch (UInt8.toNat_inj.1 (by have : (45 : UInt8).toNat = 45 := rfl; omega))
  have HTB := Lib.hid htb
  clear hs1 hch htb
  have HW := Lib.hid (fun w => rwhole_10 top w n hl.1 hn)
  have HWQ := Lib.hid (fun w => rwhole_10 bot w q hl.2 hq)
  have HC := Lib.hid hc
  have HV := Lib.hid hv
  have HNE := Lib.hid hne
  clear hc hl hn hq hv hne
  go_enter Tryd.func40, Tryd.ntmps40
  go_wp2_with fail
  have fr := numFr_new w 0 0 41
  have hB := (Below.refl w.heap.size w).alloc (Nat.le_refl _) (.cells #[.int .i64 0, .int .i64 0] 41)
  generalize w.alloc (.cells #[.int .i64 0, .int .i64 0] 41) = W0 at fr hB ⊢
  refine (rcut_47 s _ hs top bot true HC.out).mono ?_; rintro e w1 ⟨rfl, nd, rfl⟩
  replace fr := fr.below (below_drewN (Below.refl _ W0) nd)
  replace hB := below_drewN hB nd
  generalize W0.drewN nd = W1 at fr hB ⊢
  clear W0
  rw [← HTB.out]
  go_wp2_with fail
  have fa := numFr_new W1 0 1 41
  have hlt := fr.lt
  replace fr := fr.alloc (.cells #[.int .i64 0, .int .i64 1] 41)
  replace hB := hB.alloc hB.size (.cells #[.int .i64 0, .int .i64 1] 41)
  generalize W1.alloc (.cells #[.int .i64 0, .int .i64 1] 41) = W2 at fr fa hB ⊢
  obtain ⟨ba, hba⟩ : ∃ ba, ba = W1.heap.size := ⟨_, rfl⟩
  rw [← hba] at fa hlt ⊢
  clear hba
  rw [HTB.out]
  refine (HW.out _).mono ?_; rintro e w1 ⟨rfl, rfl⟩
  obtain ⟨⟨a0, a1, al⟩, a2, a3⟩ := id fa
  go_wp2_with fail
  clear a0 a1 al a2 a3
  replace fr := fr.setO (c := ba) (o := 0) (by omega) (.int .i64 n)
  replace fa := fa.set0 n
  replace hB := hB.setCell (p := ⟨ba, 0, none⟩) (by show w.heap.size ≤ ba; omega) (.int .i64 n)
  generalize W2.setCell ⟨ba, 0, none⟩ (.int .i64 n) = W3 at fr fa hB ⊢
  refine (HWQ.out _).mono ?_; rintro e w1 ⟨rfl, rfl⟩
  obtain ⟨⟨a0, a1, al⟩, a2, a3⟩ := id fa
  go_wp2_with fail
  clear a0 a1 al a2 a3
  replace fr := fr.setO (c := ba) (o := 1) (by omega) (.int .i64 q)
  replace fa := fa.set1 q
  replace hB := hB.setCell (p := ⟨ba, 1, none⟩) (by show w.heap.size ≤ ba; omega) (.int .i64 q)
  generalize W3.setCell ⟨ba, 1, none⟩ (.int .i64 q) = W4 at fr fa hB ⊢
  refine (rtext_ok n q _ HV.out).mono ?_; rintro e w3 ⟨rfl, hb1⟩; replace fr := fr.below hb1; replace fa := fa.below hb1; replace hB := hB.trans (hb1.mono hB.size); clear hb1
  obtain ⟨T, hT⟩ : ∃ T : ByteArray, T = ⟨(txt n q).toArray⟩ := ⟨_, rfl⟩
  have hTs : (T.toList == s.toList) = false := by
    rw [beq_eq_false_iff_ne, hT, Lib.toList_data, Lib.toList_data]
    exact HNE.out
  have hTn : (T.toList != s.toList) = true := by simp [bne, hTs]
  rw [← hT]
  clear hT
  have hsb := hB.size
  obtain ⟨⟨c0, c1, cl⟩, c2, c3⟩ := id fr
  go_wp2_with fail
  exact bodyPost_ret (v := numV 0 0 30) (by simp [results, Tryd.results40, go_sem, numV, c0, c1, cl, c2, c3]) rfl ⟨rfl, (hB.setCell (p := ⟨w.heap.size, 0, none⟩) (Nat.le_refl _) _).setCell (p := ⟨w.heap.size, 1, none⟩) (Nat.le_refl _) _⟩

set_option maxRecDepth 100000 in
set_option maxHeartbeats 1600000 in
theorem rparse_pos_t_eq (s : ByteArray) (w : World) (hs : s.size ≤ 10000) (top bot : List UInt8) (hc : Lib.cut s.data.toList [47] = (top, bot, true)) (hl : top.length ≤ 10000 ∧ bot.length ≤ 10000) (tb : ByteArray) (htb : tb = ⟨top.toArray⟩) (hs0 : 1 ≤ tb.size) (ch : UInt8) (hs1 : ∀ h : 0 < tb.size, tb[0] = ch) (hch : ch ≠ 45) (n : Int) (hn : whM 10 top = n) (q : Int) (hq : whM 10 bot = q) (hneg : ¬ n < 0) (hv : Nm.vld n q = true) (hne : txt n q = s.data.toList) :
    Calls Tryd.prog 40 #[.string s] w fun e w' => e = .returned (numV n q 0) ∧ Below w.heap.size w w' := by
  have nb := whM_bd 10 top (by omega)
  rw [hn] at nb
  obtain ⟨n0, n1⟩ := nb
  have qb := whM_bd 10 bot (by omega)
  rw [hq] at qb
  obtain ⟨q0, q1⟩ := qb
  have h0 : 0 < tb.size := by omega
  have hs2 := hs1 h0
  have hcn0 : ((ch.toNat : Int) == 45) = false := by
    simp
    intro e
    exact hch (UInt8.toNat_inj.1 (by have : (45 : UInt8).toNat = 45 := rfl; omega))
  have HTB := Lib.hid htb
  clear hs1 hch htb
  have HW := Lib.hid (fun w => rwhole_10 top w n hl.1 hn)
  have HWQ := Lib.hid (fun w => rwhole_10 bot w q hl.2 hq)
  have HC := Lib.hid hc
  have HV := Lib.hid hv
  have HNE := Lib.hid hne
  clear hc hl hn hq hv hne
  go_enter Tryd.func40, Tryd.ntmps40
  go_wp2_with fail
  have fr := numFr_new w 0 0 41
  have hB := (Below.refl w.heap.size w).alloc (Nat.le_refl _) (.cells #[.int .i64 0, .int .i64 0] 41)
  generalize w.alloc (.cells #[.int .i64 0, .int .i64 0] 41) = W0 at fr hB ⊢
  refine (rcut_47 s _ hs top bot true HC.out).mono ?_; rintro e w1 ⟨rfl, nd, rfl⟩
  replace fr := fr.below (below_drewN (Below.refl _ W0) nd)
  replace hB := below_drewN hB nd
  generalize W0.drewN nd = W1 at fr hB ⊢
  clear W0
  rw [← HTB.out]
  go_wp2_with fail
  have fa := numFr_new W1 0 1 41
  have hlt := fr.lt
  replace fr := fr.alloc (.cells #[.int .i64 0, .int .i64 1] 41)
  replace hB := hB.alloc hB.size (.cells #[.int .i64 0, .int .i64 1] 41)
  generalize W1.alloc (.cells #[.int .i64 0, .int .i64 1] 41) = W2 at fr fa hB ⊢
  obtain ⟨ba, hba⟩ : ∃ ba, ba = W1.heap.size := ⟨_, rfl⟩
  rw [← hba] at fa hlt ⊢
  clear hba
  rw [HTB.out]
  refine (HW.out _).mono ?_; rintro e w1 ⟨rfl, rfl⟩
  obtain ⟨⟨a0, a1, al⟩, a2, a3⟩ := id fa
  go_wp2_with fail
  clear a0 a1 al a2 a3
  replace fr := fr.setO (c := ba) (o := 0) (by omega) (.int .i64 n)
  replace fa := fa.set0 n
  replace hB := hB.setCell (p := ⟨ba, 0, none⟩) (by show w.heap.size ≤ ba; omega) (.int .i64 n)
  generalize W2.setCell ⟨ba, 0, none⟩ (.int .i64 n) = W3 at fr fa hB ⊢
  refine (HWQ.out _).mono ?_; rintro e w1 ⟨rfl, rfl⟩
  obtain ⟨⟨a0, a1, al⟩, a2, a3⟩ := id fa
  go_wp2_with fail
  clear a0 a1 al a2 a3
  replace fr := fr.setO (c := ba) (o := 1) (by omega) (.int .i64 q)
  replace fa := fa.set1 q
  replace hB := hB.setCell (p := ⟨ba, 1, none⟩) (by show w.heap.size ≤ ba; omega) (.int .i64 q)
  generalize W3.setCell ⟨ba, 1, none⟩ (.int .i64 q) = W4 at fr fa hB ⊢
  refine (rtext_ok n q _ HV.out).mono ?_; rintro e w3 ⟨rfl, hb1⟩; replace fr := fr.below hb1; replace fa := fa.below hb1; replace hB := hB.trans (hb1.mono hB.size); clear hb1
  rw [show (⟨(txt n q).toArray⟩ : ByteArray) = s by rw [HNE.out]]
  have hsb := hB.size
  obtain ⟨⟨c0, c1, cl⟩, c2, c3⟩ := id fr
  obtain ⟨⟨a0, a1, al⟩, a2, a3⟩ := id fa
  go_wp2_with fail
  exact bodyPost_ret (v := numV n q 0) (by simp [results, Tryd.results40, go_sem, numV, c0, c1, cl, c2, c3]) rfl ⟨rfl, (hB.setCell (p := ⟨w.heap.size, 0, none⟩) (Nat.le_refl _) _).setCell (p := ⟨w.heap.size, 1, none⟩) (Nat.le_refl _) _⟩

set_option maxRecDepth 100000 in
set_option maxHeartbeats 1600000 in
theorem rparse_nil_f_bad (s : ByteArray) (w : World) (hs : s.size ≤ 10000) (top bot : List UInt8) (hc : Lib.cut s.data.toList [47] = (top, bot, false)) (hl : top.length ≤ 10000 ∧ bot.length ≤ 10000) (htop : top = []) (n : Int) (hn : whM 10 top = n) (hneg : n < 0) :
    Calls Tryd.prog 40 #[.string s] w fun e w' => e = .returned (numV 0 0 30) ∧ Below w.heap.size w w' := by
  have nb := whM_bd 10 top (by omega)
  rw [hn] at nb
  obtain ⟨n0, n1⟩ := nb
  subst htop
  have HW := Lib.hid (fun w => rwhole_10 [] w n hl.1 hn)
  have HC := Lib.hid hc
  clear hc hl hn
  go_enter Tryd.func40, Tryd.ntmps40
  go_wp2_with fail
  have fr := numFr_new w 0 0 41
  have hB := (Below.refl w.heap.size w).alloc (Nat.le_refl _) (.cells #[.int .i64 0, .int .i64 0] 41)
  generalize w.alloc (.cells #[.int .i64 0, .int .i64 0] 41) = W0 at fr hB ⊢
  refine (rcut_47 s _ hs [] bot false HC.out).mono ?_; rintro e w1 ⟨rfl, nd, rfl⟩
  replace fr := fr.below (below_drewN (Below.refl _ W0) nd)
  replace hB := below_drewN hB nd
  generalize W0.drewN nd = W1 at fr hB ⊢
  clear W0
  go_wp2_with fail
  have fa := numFr_new W1 0 1 41
  have hlt := fr.lt
  replace fr := fr.alloc (.cells #[.int .i64 0, .int .i64 1] 41)
  replace hB := hB.alloc hB.size (.cells #[.int .i64 0, .int .i64 1] 41)
  generalize W1.alloc (.cells #[.int .i64 0, .int .i64 1] 41) = W2 at fr fa hB ⊢
  obtain ⟨ba, hba⟩ : ∃ ba, ba = W1.heap.size := ⟨_, rfl⟩
  rw [← hba] at fa hlt ⊢
  clear hba
  refine (HW.out _).mono ?_; rintro e w1 ⟨rfl, rfl⟩
  obtain ⟨⟨a0, a1, al⟩, a2, a3⟩ := id fa
  obtain ⟨⟨c0, c1, cl⟩, c2, c3⟩ := id fr
  go_wp2_with fail
  exact bodyPost_ret (v := numV 0 0 30) (by simp [results, Tryd.results40, go_sem, numV, c0, c1, cl, c2, c3]) rfl ⟨rfl, ((hB.setCell (p := ⟨ba, 0, none⟩) (by show w.heap.size ≤ ba; omega) _).setCell (p := ⟨w.heap.size, 0, none⟩) (Nat.le_refl _) _).setCell (p := ⟨w.heap.size, 1, none⟩) (Nat.le_refl _) _⟩

set_option maxRecDepth 100000 in
set_option maxHeartbeats 1600000 in
theorem rparse_nil_t_bad (s : ByteArray) (w : World) (hs : s.size ≤ 10000) (top bot : List UInt8) (hc : Lib.cut s.data.toList [47] = (top, bot, true)) (hl : top.length ≤ 10000 ∧ bot.length ≤ 10000) (htop : top = []) (n : Int) (hn : whM 10 top = n) (q : Int) (hq : whM 10 bot = q) (hneg : n < 0) :
    Calls Tryd.prog 40 #[.string s] w fun e w' => e = .returned (numV 0 0 30) ∧ Below w.heap.size w w' := by
  have nb := whM_bd 10 top (by omega)
  rw [hn] at nb
  obtain ⟨n0, n1⟩ := nb
  have qb := whM_bd 10 bot (by omega)
  rw [hq] at qb
  obtain ⟨q0, q1⟩ := qb
  subst htop
  have HW := Lib.hid (fun w => rwhole_10 [] w n hl.1 hn)
  have HWQ := Lib.hid (fun w => rwhole_10 bot w q hl.2 hq)
  have HC := Lib.hid hc
  clear hc hl hn hq
  go_enter Tryd.func40, Tryd.ntmps40
  go_wp2_with fail
  have fr := numFr_new w 0 0 41
  have hB := (Below.refl w.heap.size w).alloc (Nat.le_refl _) (.cells #[.int .i64 0, .int .i64 0] 41)
  generalize w.alloc (.cells #[.int .i64 0, .int .i64 0] 41) = W0 at fr hB ⊢
  refine (rcut_47 s _ hs [] bot true HC.out).mono ?_; rintro e w1 ⟨rfl, nd, rfl⟩
  replace fr := fr.below (below_drewN (Below.refl _ W0) nd)
  replace hB := below_drewN hB nd
  generalize W0.drewN nd = W1 at fr hB ⊢
  clear W0
  go_wp2_with fail
  have fa := numFr_new W1 0 1 41
  have hlt := fr.lt
  replace fr := fr.alloc (.cells #[.int .i64 0, .int .i64 1] 41)
  replace hB := hB.alloc hB.size (.cells #[.int .i64 0, .int .i64 1] 41)
  generalize W1.alloc (.cells #[.int .i64 0, .int .i64 1] 41) = W2 at fr fa hB ⊢
  obtain ⟨ba, hba⟩ : ∃ ba, ba = W1.heap.size := ⟨_, rfl⟩
  rw [← hba] at fa hlt ⊢
  clear hba
  refine (HW.out _).mono ?_; rintro e w1 ⟨rfl, rfl⟩
  obtain ⟨⟨a0, a1, al⟩, a2, a3⟩ := id fa
  go_wp2_with fail
  clear a0 a1 al a2 a3
  replace fr := fr.setO (c := ba) (o := 0) (by omega) (.int .i64 n)
  replace fa := fa.set0 n
  replace hB := hB.setCell (p := ⟨ba, 0, none⟩) (by show w.heap.size ≤ ba; omega) (.int .i64 n)
  generalize W2.setCell ⟨ba, 0, none⟩ (.int .i64 n) = W3 at fr fa hB ⊢
  refine (HWQ.out _).mono ?_; rintro e w1 ⟨rfl, rfl⟩
  obtain ⟨⟨a0, a1, al⟩, a2, a3⟩ := id fa
  obtain ⟨⟨c0, c1, cl⟩, c2, c3⟩ := id fr
  go_wp2_with fail
  exact bodyPost_ret (v := numV 0 0 30) (by simp [results, Tryd.results40, go_sem, numV, c0, c1, cl, c2, c3]) rfl ⟨rfl, ((hB.setCell (p := ⟨ba, 1, none⟩) (by show w.heap.size ≤ ba; omega) _).setCell (p := ⟨w.heap.size, 0, none⟩) (Nat.le_refl _) _).setCell (p := ⟨w.heap.size, 1, none⟩) (Nat.le_refl _) _⟩

end Go.Proofs.YtanhomngnickfaaDoor
