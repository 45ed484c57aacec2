/-
  Contract of the reference: Decimal.
-/
import Derived.Test.YtnhcjgnohnedaaaGreatDoorNRef2
namespace Go.Proofs.YtnhcjgnohnedaaaGreatDoor
open Go.RowKit

theorem cutL (l p wh pt : List UInt8) (pd : Bool) (h : Lib.cut l p = (wh, pt, pd)) : wh.length ≤ l.length ∧ pt.length ≤ l.length := by
  unfold Lib.cut at h
  split at h <;> (simp only [Prod.mk.injEq] at h; obtain ⟨rfl, rfl, _⟩ := h)
  · simp; omega
  · simp
theorem rwhole_9 (l : List UInt8) (w : World) (v : Int) (hl : l.length ≤ 10000) (hv : whM 9 l = v) :
    Calls Tryz.prog 120 #[.string ⟨l.toArray⟩, .int .i64 9] w fun e w' => e = .returned (.int .i64 v) ∧ w = w' := rwhole_of l 9 w v hl (by omega) hv
theorem rwhole_5 (l : List UInt8) (w : World) (v : Int) (hl : l.length ≤ 10000) (hv : whM 5 l = v) :
    Calls Tryz.prog 120 #[.string ⟨l.toArray⟩, .int .i64 5] w fun e w' => e = .returned (.int .i64 v) ∧ w = w' := rwhole_of l 5 w v hl (by omega) hv
theorem whM_cases (m : Nat) (l : List UInt8) : (whM m l = -1 ∧ (l = [] ∨ m < l.length ∨ dig l = false)) ∨ (whM m l = (dval l : Int) ∧ l ≠ [] ∧ l.length ≤ m ∧ dig l = true) := by
  unfold whM
  by_cases h : 1 ≤ l.length ∧ l.length ≤ m ∧ dig l = true
  · rw [if_pos h]
    refine .inr ⟨rfl, ?_, h.2.1, h.2.2⟩
    intro e; subst e; simp at h
  · rw [if_neg h]
    refine .inl ⟨rfl, ?_⟩
    by_cases h1 : l = []
    · exact .inl h1
    · have hl : 1 ≤ l.length := by cases l <;> simp_all
      by_cases h2 : m < l.length
      · exact .inr (.inl h2)
      · right; right
        cases hd : dig l
        · rfl
        · exact absurd ⟨hl, by omega, hd⟩ h
theorem dvalFrom_app : ∀ (b : List UInt8) (acc : Nat), dvalFrom acc b = acc * 10 ^ b.length + dval b
  | [], acc => by simp [dval, dvalFrom]
  | c :: b, acc => by
    have h1 : dvalFrom acc (c :: b) = dvalFrom (10 * acc + (c.toNat - 48)) b := rfl
    have h2 : dval (c :: b) = dvalFrom (10 * 0 + (c.toNat - 48)) b := rfl
    rw [h1, h2, dvalFrom_app b (10 * acc + (c.toNat - 48)), dvalFrom_app b (10 * 0 + (c.toNat - 48)), List.length_cons, Nat.pow_succ]
    simp only [Nat.add_mul, Nat.mul_zero, Nat.zero_add]
    rw [show 10 * acc * 10 ^ b.length = acc * (10 ^ b.length * 10) by rw [Nat.mul_comm 10 acc, Nat.mul_assoc, Nat.mul_comm 10]]
    omega
theorem dval_append (a b : List UInt8) : dval (a ++ b) = dval a * 10 ^ b.length + dval b := by
  show dvalFrom 0 (a ++ b) = _
  unfold dvalFrom
  rw [List.foldl_append]
  exact dvalFrom_app b (dval a)

set_option maxRecDepth 100000 in
set_option maxHeartbeats 1600000 in
theorem rdec_n_f_badn (s : ByteArray) (w : World) (hs : s.size ≤ 10000) (wh pt : List UInt8) (hc : Lib.cut s.data.toList [46] = (wh, pt, false)) (hl : wh.length ≤ 10000 ∧ pt.length ≤ 10000) (n : Int) (hn : whM 9 wh = n) (hneg : n < 0) :
    Calls Tryz.prog 86 #[.string s] w fun e w' => e = .returned (numV 0 0 30) ∧ Below w.heap.size w w' := by
  have nb : -1 ≤ n ∧ n ≤ 999999999 := by
    rcases whM_cases 9 wh with h | h
    · omega
    · have h1 := dval_lt wh h.2.2.2
      have h2 : 10 ^ wh.length ≤ 10 ^ 9 := Nat.pow_le_pow_right (by omega) h.2.2.1
      have h3 : (10 : Nat) ^ 9 = 1000000000 := by decide
      omega
  obtain ⟨n0, n1⟩ := nb
  have HW := Lib.hid (fun w => rwhole_9 wh w n hl.1 hn)
  have HC := Lib.hid hc
  clear hc hl hn
  go_enter Tryz.func86, Tryz.ntmps86
  go_wp2_with fail
  have fr := numFr_new w 0 0 39
  have hB := (Below.refl w.heap.size w).alloc (Nat.le_refl _) (.cells #[.int .i64 0, .int .i64 0] 39)
  generalize w.alloc (.cells #[.int .i64 0, .int .i64 0] 39) = W0 at fr hB ⊢
  refine (rcut_46 s _ hs wh pt false HC.out).mono ?_; rintro e w1 ⟨rfl, nd, rfl⟩
  replace fr := fr.below (below_drewN (Below.refl _ W0) nd)
  replace hB := below_drewN hB nd
  generalize W0.drewN nd = W1 at fr hB ⊢
  clear W0
  obtain ⟨⟨c0, c1, cl⟩, c2, c3⟩ := id fr
  have hem2 : (⟨wh.toArray⟩ : ByteArray).toList.isEmpty = wh.isEmpty := by rw [Lib.toList_data]
  cases hwe : wh.isEmpty
  · rw [hwe] at hem2
    go_wp2_with fail
    refine (HW.out _).mono ?_; rintro e w1 ⟨rfl, rfl⟩
    go_wp2_with fail
    exact bodyPost_ret (v := numV 0 0 30) (by simp [results, Tryz.results86, go_sem, numV, c0, c1, cl, c2, c3]) rfl ⟨rfl, (hB.setCell (p := ⟨w.heap.size, 0, none⟩) (Nat.le_refl _) _).setCell (p := ⟨w.heap.size, 1, none⟩) (Nat.le_refl _) _⟩
  · rw [hwe] at hem2
    go_wp2_with fail
    refine (HW.out _).mono ?_; rintro e w1 ⟨rfl, rfl⟩
    go_wp2_with fail
    exact bodyPost_ret (v := numV 0 0 30) (by simp [results, Tryz.results86, go_sem, numV, c0, c1, cl, c2, c3]) rfl ⟨rfl, (hB.setCell (p := ⟨w.heap.size, 0, none⟩) (Nat.le_refl _) _).setCell (p := ⟨w.heap.size, 1, none⟩) (Nat.le_refl _) _⟩

set_option maxRecDepth 100000 in
set_option maxHeartbeats 1600000 in
theorem rdec_n_f_ok (s : ByteArray) (w : World) (hs : s.size ≤ 10000) (wh pt : List UInt8) (hc : Lib.cut s.data.toList [46] = (wh, pt, false)) (hl : wh.length ≤ 10000 ∧ pt.length ≤ 10000) (n : Int) (hn : whM 9 wh = n) (hneg : ¬ n < 0)  :
    Calls Tryz.prog 86 #[.string s] w fun e w' => e = .returned (numV (Nm.mkP n 1) (Nm.mkQ n 1) (Nm.mkE n 1)) ∧ Below w.heap.size w w' := by
  have nb : -1 ≤ n ∧ n ≤ 999999999 := by
    rcases whM_cases 9 wh with h | h
    · omega
    · have h1 := dval_lt wh h.2.2.2
      have h2 : 10 ^ wh.length ≤ 10 ^ 9 := Nat.pow_le_pow_right (by omega) h.2.2.1
      have h3 : (10 : Nat) ^ 9 = 1000000000 := by decide
      omega
  obtain ⟨n0, n1⟩ := nb
  have HW := Lib.hid (fun w => rwhole_9 wh w n hl.1 hn)
  have HC := Lib.hid hc
  clear hc hl hn
  go_enter Tryz.func86, Tryz.ntmps86
  go_wp2_with fail
  have fr := numFr_new w 0 0 39
  have hB := (Below.refl w.heap.size w).alloc (Nat.le_refl _) (.cells #[.int .i64 0, .int .i64 0] 39)
  generalize w.alloc (.cells #[.int .i64 0, .int .i64 0] 39) = W0 at fr hB ⊢
  refine (rcut_46 s _ hs wh pt false HC.out).mono ?_; rintro e w1 ⟨rfl, nd, rfl⟩
  replace fr := fr.below (below_drewN (Below.refl _ W0) nd)
  replace hB := below_drewN hB nd
  generalize W0.drewN nd = W1 at fr hB ⊢
  clear W0
  obtain ⟨⟨c0, c1, cl⟩, c2, c3⟩ := id fr
  have hem2 : (⟨wh.toArray⟩ : ByteArray).toList.isEmpty = wh.isEmpty := by rw [Lib.toList_data]
  cases hwe : wh.isEmpty
  · rw [hwe] at hem2
    go_wp2_with fail
    refine (HW.out _).mono ?_; rintro e w1 ⟨rfl, rfl⟩
    go_wp2_with fail
    refine (rmake_any n 1 _ (by omega) (by omega) (by omega) (by omega)).mono ?_; rintro e w4 ⟨rfl, hb1⟩; replace fr := fr.below hb1; replace hB := hB.trans (hb1.mono hB.size); clear hb1
    simp only [numV]
    clear c0 c1 cl c2 c3
    obtain ⟨⟨c0, c1, cl⟩, c2, c3⟩ := id fr
    go_wp2_with fail
    exact bodyPost_ret (v := numV (Nm.mkP n 1) (Nm.mkQ n 1) (Nm.mkE n 1)) (by simp [results, Tryz.results86, go_sem, numV, c0, c1, cl, c2, c3]) rfl ⟨rfl, (hB.setCell (p := ⟨w.heap.size, 0, none⟩) (Nat.le_refl _) _).setCell (p := ⟨w.heap.size, 1, none⟩) (Nat.le_refl _) _⟩
  · rw [hwe] at hem2
    go_wp2_with fail
    refine (HW.out _).mono ?_; rintro e w1 ⟨rfl, rfl⟩
    go_wp2_with fail
    refine (rmake_any n 1 _ (by omega) (by omega) (by omega) (by omega)).mono ?_; rintro e w4 ⟨rfl, hb1⟩; replace fr := fr.below hb1; replace hB := hB.trans (hb1.mono hB.size); clear hb1
    simp only [numV]
    clear c0 c1 cl c2 c3
    obtain ⟨⟨c0, c1, cl⟩, c2, c3⟩ := id fr
    go_wp2_with fail
    exact bodyPost_ret (v := numV (Nm.mkP n 1) (Nm.mkQ n 1) (Nm.mkE n 1)) (by simp [results, Tryz.results86, go_sem, numV, c0, c1, cl, c2, c3]) rfl ⟨rfl, (hB.setCell (p := ⟨w.heap.size, 0, none⟩) (Nat.le_refl _) _).setCell (p := ⟨w.heap.size, 1, none⟩) (Nat.le_refl _) _⟩

set_option maxRecDepth 100000 in
set_option maxHeartbeats 1600000 in
theorem rdec_x_t_badn (s : ByteArray) (w : World) (hs : s.size ≤ 10000) (wh pt : List UInt8) (hc : Lib.cut s.data.toList [46] = (wh, pt, true)) (hl : wh.length ≤ 10000 ∧ pt.length ≤ 10000) (n : Int) (hn : whM 9 wh = n) (hne : wh.isEmpty = false) (f : Int) (hf : whM 5 pt = f) (hneg : n < 0) :
    Calls Tryz.prog 86 #[.string s] w fun e w' => e = .returned (numV 0 0 30) ∧ Below w.heap.size w w' := by
  have nb : -1 ≤ n ∧ n ≤ 999999999 := by
    rcases whM_cases 9 wh with h | h
    · omega
    · have h1 := dval_lt wh h.2.2.2
      have h2 : 10 ^ wh.length ≤ 10 ^ 9 := Nat.pow_le_pow_right (by omega) h.2.2.1
      have h3 : (10 : Nat) ^ 9 = 1000000000 := by decide
      omega
  obtain ⟨n0, n1⟩ := nb
  have HW := Lib.hid (fun w => rwhole_9 wh w n hl.1 hn)
  have fb : -1 ≤ f ∧ f ≤ 99999 := by
    rcases whM_cases 5 pt with h | h
    · omega
    · have h1 := dval_lt pt h.2.2.2
      have h2 : 10 ^ pt.length ≤ 10 ^ 5 := Nat.pow_le_pow_right (by omega) h.2.2.1
      have h3 : (10 : Nat) ^ 5 = 100000 := by decide
      omega
  obtain ⟨f0, f1⟩ := fb
  have HWP := Lib.hid (fun w => rwhole_5 pt w f hl.2 hf)
  have hem : (⟨wh.toArray⟩ : ByteArray).toList.isEmpty = false := by rw [Lib.toList_data]; simpa using hne
  have HC := Lib.hid hc
  clear hc hl hn hf
  go_enter Tryz.func86, Tryz.ntmps86
  go_wp2_with fail
  have fr := numFr_new w 0 0 39
  have hB := (Below.refl w.heap.size w).alloc (Nat.le_refl _) (.cells #[.int .i64 0, .int .i64 0] 39)
  generalize w.alloc (.cells #[.int .i64 0, .int .i64 0] 39) = W0 at fr hB ⊢
  refine (rcut_46 s _ hs wh pt true HC.out).mono ?_; rintro e w1 ⟨rfl, nd, rfl⟩
  replace fr := fr.below (below_drewN (Below.refl _ W0) nd)
  replace hB := below_drewN hB nd
  generalize W0.drewN nd = W1 at fr hB ⊢
  clear W0
  obtain ⟨⟨c0, c1, cl⟩, c2, c3⟩ := id fr
  go_wp2_with fail
  refine (HW.out _).mono ?_; rintro e w1 ⟨rfl, rfl⟩
  go_wp2_with fail
  exact bodyPost_ret (v := numV 0 0 30) (by simp [results, Tryz.results86, go_sem, numV, c0, c1, cl, c2, c3]) rfl ⟨rfl, (hB.setCell (p := ⟨w.heap.size, 0, none⟩) (Nat.le_refl _) _).setCell (p := ⟨w.heap.size, 1, none⟩) (Nat.le_refl _) _⟩

set_option maxRecDepth 100000 in
set_option maxHeartbeats 1600000 in
theorem rdec_x_t_badf (s : ByteArray) (w : World) (hs : s.size ≤ 10000) (wh pt : List UInt8) (hc : Lib.cut s.data.toList [46] = (wh, pt, true)) (hl : wh.length ≤ 10000 ∧ pt.length ≤ 10000) (n : Int) (hn : whM 9 wh = n) (hne : wh.isEmpty = false) (f : Int) (hf : whM 5 pt = f) (hneg : ¬ n < 0) (hfneg : f < 0) :
    Calls Tryz.prog 86 #[.string s] w fun e w' => e = .returned (numV 0 0 30) ∧ Below w.heap.size w w' := by
  have nb : -1 ≤ n ∧ n ≤ 999999999 := by
    rcases whM_cases 9 wh with h | h
    · omega
    · have h1 := dval_lt wh h.2.2.2
      have h2 : 10 ^ wh.length ≤ 10 ^ 9 := Nat.pow_le_pow_right (by omega) h.2.2.1
      have h3 : (10 : Nat) ^ 9 = 1000000000 := by decide
      omega
  obtain ⟨n0, n1⟩ := nb
  have HW := Lib.hid (fun w => rwhole_9 wh w n hl.1 hn)
  have fb : -1 ≤ f ∧ f ≤ 99999 := by
    rcases whM_cases 5 pt with h | h
    · omega
    · have h1 := dval_lt pt h.2.2.2
      have h2 : 10 ^ pt.length ≤ 10 ^ 5 := Nat.pow_le_pow_right (by omega) h.2.2.1
      have h3 : (10 : Nat) ^ 5 = 100000 := by decide
      omega
  obtain ⟨f0, f1⟩ := fb
  have HWP := Lib.hid (fun w => rwhole_5 pt w f hl.2 hf)
  have hem : (⟨wh.toArray⟩ : ByteArray).toList.isEmpty = false := by rw [Lib.toList_data]; simpa using hne
  have HC := Lib.hid hc
  clear hc hl hn hf
  go_enter Tryz.func86, Tryz.ntmps86
  go_wp2_with fail
  have fr := numFr_new w 0 0 39
  have hB := (Below.refl w.heap.size w).alloc (Nat.le_refl _) (.cells #[.int .i64 0, .int .i64 0] 39)
  generalize w.alloc (.cells #[.int .i64 0, .int .i64 0] 39) = W0 at fr hB ⊢
  refine (rcut_46 s _ hs wh pt true HC.out).mono ?_; rintro e w1 ⟨rfl, nd, rfl⟩
  replace fr := fr.below (below_drewN (Below.refl _ W0) nd)
  replace hB := below_drewN hB nd
  generalize W0.drewN nd = W1 at fr hB ⊢
  clear W0
  obtain ⟨⟨c0, c1, cl⟩, c2, c3⟩ := id fr
  go_wp2_with fail
  refine (HW.out _).mono ?_; rintro e w1 ⟨rfl, rfl⟩
  go_wp2_with fail
  refine (HWP.out _).mono ?_; rintro e w1 ⟨rfl, rfl⟩
  go_wp2_with fail
  exact bodyPost_ret (v := numV 0 0 30) (by simp [results, Tryz.results86, go_sem, numV, c0, c1, cl, c2, c3]) rfl ⟨rfl, (hB.setCell (p := ⟨w.heap.size, 0, none⟩) (Nat.le_refl _) _).setCell (p := ⟨w.heap.size, 1, none⟩) (Nat.le_refl _) _⟩

set_option maxRecDepth 100000 in
set_option maxHeartbeats 1600000 in
theorem rdec_x_t_ok (s : ByteArray) (w : World) (hs : s.size ≤ 10000) (wh pt : List UInt8) (hc : Lib.cut s.data.toList [46] = (wh, pt, true)) (hl : wh.length ≤ 10000 ∧ pt.length ≤ 10000) (n : Int) (hn : whM 9 wh = n) (hne : wh.isEmpty = false) (f : Int) (hf : whM 5 pt = f) (hneg : ¬ n < 0) (hfneg : ¬ f < 0) (pl : Nat) (hpl : pl = pt.length) (h5 : pl ≤ 5) :
    Calls Tryz.prog 86 #[.string s] w fun e w' => e = .returned (numV (Nm.mkP (n * 10 ^ pl + f) (10 ^ pl)) (Nm.mkQ (n * 10 ^ pl + f) (10 ^ pl)) (Nm.mkE (n * 10 ^ pl + f) (10 ^ pl))) ∧ Below w.heap.size w w' := by
  have nb : -1 ≤ n ∧ n ≤ 999999999 := by
    rcases whM_cases 9 wh with h | h
    · omega
    · have h1 := dval_lt wh h.2.2.2
      have h2 : 10 ^ wh.length ≤ 10 ^ 9 := Nat.pow_le_pow_right (by omega) h.2.2.1
      have h3 : (10 : Nat) ^ 9 = 1000000000 := by decide
      omega
  obtain ⟨n0, n1⟩ := nb
  have HW := Lib.hid (fun w => rwhole_9 wh w n hl.1 hn)
  have fb : -1 ≤ f ∧ f ≤ 99999 := by
    rcases whM_cases 5 pt with h | h
    · omega
    · have h1 := dval_lt pt h.2.2.2
      have h2 : 10 ^ pt.length ≤ 10 ^ 5 := Nat.pow_le_pow_right (by omega) h.2.2.1
      have h3 : (10 : Nat) ^ 5 = 100000 := by decide
      omega
  obtain ⟨f0, f1⟩ := fb
  have HWP := Lib.hid (fun w => rwhole_5 pt w f hl.2 hf)
  have hem : (⟨wh.toArray⟩ : ByteArray).toList.isEmpty = false := by rw [Lib.toList_data]; simpa using hne
  have HC := Lib.hid hc
  clear hc hl hn hf
  go_enter Tryz.func86, Tryz.ntmps86
  go_wp2_with fail
  have fr := numFr_new w 0 0 39
  have hB := (Below.refl w.heap.size w).alloc (Nat.le_refl _) (.cells #[.int .i64 0, .int .i64 0] 39)
  generalize w.alloc (.cells #[.int .i64 0, .int .i64 0] 39) = W0 at fr hB ⊢
  refine (rcut_46 s _ hs wh pt true HC.out).mono ?_; rintro e w1 ⟨rfl, nd, rfl⟩
  replace fr := fr.below (below_drewN (Below.refl _ W0) nd)
  replace hB := below_drewN hB nd
  generalize W0.drewN nd = W1 at fr hB ⊢
  clear W0
  obtain ⟨⟨c0, c1, cl⟩, c2, c3⟩ := id fr
  go_wp2_with fail
  refine (HW.out _).mono ?_; rintro e w1 ⟨rfl, rfl⟩
  go_wp2_with fail
  refine (HWP.out _).mono ?_; rintro e w1 ⟨rfl, rfl⟩
  go_wp2_with fail
  go_loop [8, 10] (fun vq vi => ∃ (k : Nat) (q : Int), vq = .int .i64 q ∧ vi = .int .i64 k ∧ k ≤ pl ∧ Hid (q = 10 ^ k) ∧ 1 ≤ q ∧ q ≤ 100000) (fun _ vi => pl - (intOf vi).toNat)
  case atStart => exact ⟨0, 1, rfl, rfl, by omega, rfl, by omega, by omega⟩
  case round =>
    obtain ⟨k, q, rfl, rfl, hk, hq, q0, q1⟩ := hrel
    by_cases hkn : k < pl
    · have hq2 : q * 10 = 10 ^ (k + 1) := by rw [hq.out, Int.pow_succ]
      have HQ := Lib.hid hq2
      have q2 : q * 10 ≤ 100000 := by
        rw [hq2]
        rcases (by omega : k = 0 ∨ k = 1 ∨ k = 2 ∨ k = 3 ∨ k = 4) with e | e | e | e | e <;> rw [e] <;> decide
      clear hq2
      go_wp2_with fail
      exact ⟨⟨k + 1, q * 10, by first | rfl | go_num, by go_num, by omega, HQ, by omega, q2⟩, by simp [intOf] <;> omega⟩
    · have e : k = pl := by omega
      subst e
      have m0 : 0 ≤ n * q := Int.mul_nonneg (by omega) (by omega)
      have m1 : n * q ≤ 999999999 * 100000 := Int.mul_le_mul n1 q1 (by omega) (by omega)
      have w1 : IntKind.i64.wrap (n * q) = n * q := IntWalk.i64_in _ (by omega)
      have w2 : IntKind.i64.wrap (n * q + f) = n * q + f := IntWalk.i64_in _ (by omega)
      go_wp2_with fail
      refine (rmake_any (n * q + f) q _ (by omega) (by omega) (by omega) (by omega)).mono ?_; rintro e w4 ⟨rfl, hb1⟩; replace fr := fr.below hb1; replace hB := hB.trans (hb1.mono hB.size); clear hb1
      simp only [numV]
      clear c0 c1 cl c2 c3
      obtain ⟨⟨c0, c1, cl⟩, c2, c3⟩ := id fr
      go_wp2_with fail
      exact bodyPost_ret (v := numV (Nm.mkP (n * q + f) q) (Nm.mkQ (n * q + f) q) (Nm.mkE (n * q + f) q)) (by simp [results, Tryz.results86, go_sem, numV, c0, c1, cl, c2, c3]) rfl ⟨by rw [← hq.out], (hB.setCell (p := ⟨w.heap.size, 0, none⟩) (Nat.le_refl _) _).setCell (p := ⟨w.heap.size, 1, none⟩) (Nat.le_refl _) _⟩

set_option maxRecDepth 100000 in
set_option maxHeartbeats 1600000 in
theorem rdec_e_t_badf (s : ByteArray) (w : World) (hs : s.size ≤ 10000) (pt : List UInt8) (hc : Lib.cut s.data.toList [46] = ([], pt, true)) (hl : ([] : List UInt8).length ≤ 10000 ∧ pt.length ≤ 10000) (f : Int) (hf : whM 5 pt = f) (hfneg : f < 0) :
    Calls Tryz.prog 86 #[.string s] w fun e w' => e = .returned (numV 0 0 30) ∧ Below w.heap.size w w' := by
  have fb : -1 ≤ f ∧ f ≤ 99999 := by
    rcases whM_cases 5 pt with h | h
    · omega
    · have h1 := dval_lt pt h.2.2.2
      have h2 : 10 ^ pt.length ≤ 10 ^ 5 := Nat.pow_le_pow_right (by omega) h.2.2.1
      have h3 : (10 : Nat) ^ 5 = 100000 := by decide
      omega
  obtain ⟨f0, f1⟩ := fb
  have HWP := Lib.hid (fun w => rwhole_5 pt w f hl.2 hf)
  have HC := Lib.hid hc
  clear hc hl hf
  go_enter Tryz.func86, Tryz.ntmps86
  go_wp2_with fail
  have fr := numFr_new w 0 0 39
  have hB := (Below.refl w.heap.size w).alloc (Nat.le_refl _) (.cells #[.int .i64 0, .int .i64 0] 39)
  generalize w.alloc (.cells #[.int .i64 0, .int .i64 0] 39) = W0 at fr hB ⊢
  refine (rcut_46 s _ hs [] pt true HC.out).mono ?_; rintro e w1 ⟨rfl, nd, rfl⟩
  replace fr := fr.below (below_drewN (Below.refl _ W0) nd)
  replace hB := below_drewN hB nd
  generalize W0.drewN nd = W1 at fr hB ⊢
  clear W0
  obtain ⟨⟨c0, c1, cl⟩, c2, c3⟩ := id fr
  go_wp2_with fail
  refine (HWP.out _).mono ?_; rintro e w1 ⟨rfl, rfl⟩
  go_wp2_with fail
  exact bodyPost_ret (v := numV 0 0 30) (by simp [results, Tryz.results86, go_sem, numV, c0, c1, cl, c2, c3]) rfl ⟨rfl, (hB.setCell (p := ⟨w.heap.size, 0, none⟩) (Nat.le_refl _) _).setCell (p := ⟨w.heap.size, 1, none⟩) (Nat.le_refl _) _⟩

set_option maxRecDepth 100000 in
set_option maxHeartbeats 1600000 in
theorem rdec_e_t_ok (s : ByteArray) (w : World) (hs : s.size ≤ 10000) (pt : List UInt8) (hc : Lib.cut s.data.toList [46] = ([], pt, true)) (hl : ([] : List UInt8).length ≤ 10000 ∧ pt.length ≤ 10000) (f : Int) (hf : whM 5 pt = f) (hfneg : ¬ f < 0) (pl : Nat) (hpl : pl = pt.length) (h5 : pl ≤ 5) :
    Calls Tryz.prog 86 #[.string s] w fun e w' => e = .returned (numV (Nm.mkP f (10 ^ pl)) (Nm.mkQ f (10 ^ pl)) (Nm.mkE f (10 ^ pl))) ∧ Below w.heap.size w w' := by
  have fb : -1 ≤ f ∧ f ≤ 99999 := by
    rcases whM_cases 5 pt with h | h
    · omega
    · have h1 := dval_lt pt h.2.2.2
      have h2 : 10 ^ pt.length ≤ 10 ^ 5 := Nat.pow_le_pow_right (by omega) h.2.2.1
      have h3 : (10 : Nat) ^ 5 = 100000 := by decide
      omega
  obtain ⟨f0, f1⟩ := fb
  have HWP := Lib.hid (fun w => rwhole_5 pt w f hl.2 hf)
  have HC := Lib.hid hc
  clear hc hl hf
  go_enter Tryz.func86, Tryz.ntmps86
  go_wp2_with fail
  have fr := numFr_new w 0 0 39
  have hB := (Below.refl w.heap.size w).alloc (Nat.le_refl _) (.cells #[.int .i64 0, .int .i64 0] 39)
  generalize w.alloc (.cells #[.int .i64 0, .int .i64 0] 39) = W0 at fr hB ⊢
  refine (rcut_46 s _ hs [] pt true HC.out).mono ?_; rintro e w1 ⟨rfl, nd, rfl⟩
  replace fr := fr.below (below_drewN (Below.refl _ W0) nd)
  replace hB := below_drewN hB nd
  generalize W0.drewN nd = W1 at fr hB ⊢
  clear W0
  obtain ⟨⟨c0, c1, cl⟩, c2, c3⟩ := id fr
  go_wp2_with fail
  refine (HWP.out _).mono ?_; rintro e w1 ⟨rfl, rfl⟩
  go_wp2_with fail
  go_loop [8, 10] (fun vq vi => ∃ (k : Nat) (q : Int), vq = .int .i64 q ∧ vi = .int .i64 k ∧ k ≤ pl ∧ Hid (q = 10 ^ k) ∧ 1 ≤ q ∧ q ≤ 100000) (fun _ vi => pl - (intOf vi).toNat)
  case atStart => exact ⟨0, 1, rfl, rfl, by omega, rfl, by omega, by omega⟩
  case round =>
    obtain ⟨k, q, rfl, rfl, hk, hq, q0, q1⟩ := hrel
    by_cases hkn : k < pl
    · have hq2 : q * 10 = 10 ^ (k + 1) := by rw [hq.out, Int.pow_succ]
      have HQ := Lib.hid hq2
      have q2 : q * 10 ≤ 100000 := by
        rw [hq2]
        rcases (by omega : k = 0 ∨ k = 1 ∨ k = 2 ∨ k = 3 ∨ k = 4) with e | e | e | e | e <;> rw [e] <;> decide
      clear hq2
      go_wp2_with fail
      exact ⟨⟨k + 1, q * 10, by first | rfl | go_num, by go_num, by omega, HQ, by omega, q2⟩, by simp [intOf] <;> omega⟩
    · have e : k = pl := by omega
      subst e
      go_wp2_with fail
      refine (rmake_any f q _ (by omega) (by omega) (by omega) (by omega)).mono ?_; rintro e w4 ⟨rfl, hb1⟩; replace fr := fr.below hb1; replace hB := hB.trans (hb1.mono hB.size); clear hb1
      simp only [numV]
      clear c0 c1 cl c2 c3
      obtain ⟨⟨c0, c1, cl⟩, c2, c3⟩ := id fr
      go_wp2_with fail
      exact bodyPost_ret (v := numV (Nm.mkP f q) (Nm.mkQ f q) (Nm.mkE f q)) (by simp [results, Tryz.results86, go_sem, numV, c0, c1, cl, c2, c3]) rfl ⟨by rw [← hq.out], (hB.setCell (p := ⟨w.heap.size, 0, none⟩) (Nat.le_refl _) _).setCell (p := ⟨w.heap.size, 1, none⟩) (Nat.le_refl _) _⟩

theorem rdecimal_any (s : ByteArray) (w : World) (hs : s.size ≤ 10000) :
    Calls Tryz.prog 86 #[.string s] w fun e w' => e = .returned (decV s.data.toList) ∧ Below w.heap.size w w' := by
  obtain ⟨wh, pt, pd, hc⟩ : ∃ wh pt pd, Lib.cut s.data.toList [46] = (wh, pt, pd) := ⟨_, _, _, rfl⟩
  have hl0 := cutL _ _ _ _ _ hc
  have h1 : s.data.toList.length = s.size := by have := Lib.size_eq s; omega
  have hl : wh.length ≤ 10000 ∧ pt.length ≤ 10000 := by omega
  have hpt : pd = false → pt = [] := by
    intro e; subst e
    rcases cutB_spec 46 _ _ _ _ hc with h | h
    · cases h.1
    · exact h.2.2.1
  rw [decV_of hc]
  have ecast : ∀ k : Nat, ((10 ^ k : Nat) : Int) = 10 ^ k := fun k => by rw [Int.natCast_pow]; rfl
  cases pd
  · have e := hpt rfl
    subst e
    rcases whM_cases 9 wh with ⟨h1, h2⟩ | ⟨h1, h2, h3, h4⟩
    · have hb : decBad wh [] false = true := by
        rcases h2 with rfl | h2 | h2
        · rfl
        · simp [decBad, h2]
        · simp [decBad, h2]
      rw [decV3_bad hb]
      exact rdec_n_f_badn s w hs wh [] hc hl _ h1 (by omega)
    · have hwe : wh.isEmpty = false := by cases wh <;> simp_all
      have hb : decBad wh [] false = false := by
        have : dig [] = true := rfl
        simp [decBad, h4, this, hwe, h3]
      have := rdec_n_f_ok s w hs wh [] hc hl _ h1 (by omega)
      simp only [decV3, hb, List.append_nil, List.length_nil, Nat.pow_zero]
      exact this
  · rcases whM_cases 5 pt with ⟨f1, f2⟩ | ⟨f1, f2, f3, f4⟩
    · have hb : decBad wh pt true = true := by
        rcases f2 with rfl | f2 | f2
        · simp [decBad]
        · simp [decBad, f2]
        · simp [decBad, f2]
      rw [decV3_bad hb]
      cases hwe : wh.isEmpty
      · rcases whM_cases 9 wh with ⟨h1, _⟩ | ⟨h1, _⟩
        · exact rdec_x_t_badn s w hs wh pt hc hl _ h1 hwe _ f1 (by omega)
        · exact rdec_x_t_badf s w hs wh pt hc hl _ h1 hwe _ f1 (by omega) (by omega)
      · have e : wh = [] := by simpa using hwe
        subst e
        exact rdec_e_t_badf s w hs pt hc hl _ f1 (by omega)
    · have hpe : pt.isEmpty = false := by cases pt <;> simp_all
      cases hwe : wh.isEmpty
      · rcases whM_cases 9 wh with ⟨h1, h2⟩ | ⟨h1, h2, h3, h4⟩
        · have hb : decBad wh pt true = true := by
            rcases h2 with rfl | h2 | h2
            · cases hwe
            · simp [decBad, h2]
            · simp [decBad, h2]
          rw [decV3_bad hb]
          exact rdec_x_t_badn s w hs wh pt hc hl _ h1 hwe _ f1 (by omega)
        · have hb : decBad wh pt true = false := by simp [decBad, h4, f4, hpe, h3, f3]
          have := rdec_x_t_ok s w hs wh pt hc hl _ h1 hwe _ f1 (by omega) (by omega) _ rfl f3
          simp only [decV3, hb, dval_append, Int.natCast_add, Int.natCast_mul, ecast]
          exact this
      · have e : wh = [] := by simpa using hwe
        subst e
        have hb : decBad [] pt true = false := by
          have : dig [] = true := rfl
          simp [decBad, f4, this, hpe, f3]
        have := rdec_e_t_ok s w hs pt hc hl _ f1 (by omega) _ rfl f3
        simp only [decV3, hb, List.nil_append, ecast]
        exact this
end Go.Proofs.YtnhcjgnohnedaaaGreatDoor
