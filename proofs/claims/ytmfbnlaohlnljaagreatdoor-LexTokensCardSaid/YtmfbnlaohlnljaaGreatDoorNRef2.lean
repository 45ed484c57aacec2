/-
  Contracts of the reference: Text.
-/
import Derived.Test.YtmfbnlaohlnljaaGreatDoorNRef1
namespace Go.Proofs.YtmfbnlaohlnljaaGreatDoor
open Go.RowKit

theorem ret_saN {a b : ByteArray} {c : Int} (h : a = b) : Ending.returned (.tuple #[.string a, .int .i64 c]) = .returned (.tuple #[.string b, .int .i64 c]) := by rw [h]
theorem baN_one (c : UInt8) (b : List UInt8) : (⟨#[c]⟩ : ByteArray) ++ ⟨b.toArray⟩ = ⟨(c :: b).toArray⟩ := by
  apply ByteArray.ext; simp
theorem baN_app (a b : List UInt8) : (⟨a.toArray⟩ : ByteArray) ++ ⟨b.toArray⟩ = ⟨(a ++ b).toArray⟩ := by
  apply ByteArray.ext; simp
set_option maxHeartbeats 400000 in
theorem rtext_no (p q : Int) (w : World) (h1 : -9223372036854775808 ≤ p) (h2 : p ≤ 9223372036854775807) (h3 : -9223372036854775808 ≤ q) (h4 : q ≤ 9223372036854775807) (hv : Nm.vld p q = false) :
    Calls Tryz.prog 119 #[.agg #[.int .i64 p, .int .i64 q]] w fun e w' => e = .returned (.tuple #[.string ⟨#[]⟩, .int .i64 2]) ∧ Below w.heap.size w w' := by
  have HV := Lib.hid hv
  clear hv
  (go_enter Tryz.func119, Tryz.ntmps119; go_wp2_with fail; have fa := numAt_new w p q 41; have hB := (Below.refl w.heap.size w).alloc (Nat.le_refl _) (.cells #[.int .i64 p, .int .i64 q] 41); generalize w.alloc (.cells #[.int .i64 p, .int .i64 q] 41) = W at fa hB ⊢)
  refine (rvalid_any p q _ h1 h2 h3 h4).mono ?_; rintro e w' ⟨rfl, hb1⟩; replace hB := hB.trans (hb1.mono hB.size); clear hb1
  rw [HV.out]
  go_wp2_with fail
  go_ret2
  exact ⟨rfl, hB⟩
set_option maxRecDepth 100000 in
set_option maxHeartbeats 800000 in
theorem rtext_neg_one (p q : Int) (w : World) (hv : Nm.vld p q = true) (hp : p < 0) (hq : (q == 1) = true) :
    Calls Tryz.prog 119 #[.agg #[.int .i64 p, .int .i64 q]] w fun e w' => e = .returned (.tuple #[.string ⟨(txt p q).toArray⟩, .int .i64 0]) ∧ Below w.heap.size w w' := by
  obtain ⟨x1, x2, x3, x4⟩ := vld_bd hv
  have HV := Lib.hid hv
  have HT : Hid (txt p q = 45 :: (Lib.decDigits p.natAbs)) := by
    show _ = _
    have hq' : q = 1 := by simpa using hq
    unfold txt Lib.itoa
    rw [if_pos hq', if_pos hp]
    try rfl
  have LP := dec_lenN p.natAbs (by omega)
  have LQ := dec_lenN q.toNat (by omega)
  have hqn : (q != 1) = false := by simp [bne, hq]
  clear hv
  (go_enter Tryz.func119, Tryz.ntmps119; go_wp2_with fail; have fa := numAt_new w p q 41; have hB := (Below.refl w.heap.size w).alloc (Nat.le_refl _) (.cells #[.int .i64 p, .int .i64 q] 41); generalize w.alloc (.cells #[.int .i64 p, .int .i64 q] 41) = W at fa hB ⊢)
  (refine (rvalid_any p q _ (by omega) (by omega) (by omega) (by omega)).mono ?_; rintro e w' ⟨rfl, hb1⟩; replace fa := fa.below hb1; replace hB := hB.trans (hb1.mono hB.size); clear hb1; rw [HV.out]; obtain ⟨a0, a1, al⟩ := id fa; go_wp2_with fail)
  clear a0 a1 al
  refine (size_any p _ (by omega) (by omega)).mono ?_; rintro e w1 ⟨rfl, rfl⟩
  go_wp2_with fail
  refine (rdigits_any p.natAbs _ (by omega)).mono ?_; rintro e w1 ⟨rfl, rfl⟩
  obtain ⟨DP, hDP⟩ : ∃ D, D = Lib.decDigits p.natAbs := ⟨_, rfl⟩
  obtain ⟨DQ, hDQ⟩ : ∃ D, D = Lib.decDigits q.toNat := ⟨_, rfl⟩
  rw [← hDP] at LP HT ⊢
  rw [← hDQ] at LQ
  have HDQ := Lib.hid hDQ
  clear hDP hDQ
  obtain ⟨a0, a1, al⟩ := id fa
  go_wp2_with fail
  go_ret2
  exact ⟨ret_saN (by rw [HT.out]; try rw [baN_one]), hB⟩

set_option maxRecDepth 100000 in
set_option maxHeartbeats 800000 in
theorem rtext_neg_two (p q : Int) (w : World) (hv : Nm.vld p q = true) (hp : p < 0) (hq : (q == 1) = false) :
    Calls Tryz.prog 119 #[.agg #[.int .i64 p, .int .i64 q]] w fun e w' => e = .returned (.tuple #[.string ⟨(txt p q).toArray⟩, .int .i64 0]) ∧ Below w.heap.size w w' := by
  obtain ⟨x1, x2, x3, x4⟩ := vld_bd hv
  have HV := Lib.hid hv
  have HT : Hid (txt p q = 45 :: (Lib.decDigits p.natAbs ++ 47 :: Lib.decDigits q.toNat)) := by
    show _ = _
    have hq' : ¬ q = 1 := by simpa using hq
    unfold txt Lib.itoa
    rw [if_neg hq', if_pos hp, if_neg (by omega)]
    try rfl
  have LP := dec_lenN p.natAbs (by omega)
  have LQ := dec_lenN q.toNat (by omega)
  have hqn : (q != 1) = true := by simp [bne, hq]
  clear hv
  (go_enter Tryz.func119, Tryz.ntmps119; go_wp2_with fail; have fa := numAt_new w p q 41; have hB := (Below.refl w.heap.size w).alloc (Nat.le_refl _) (.cells #[.int .i64 p, .int .i64 q] 41); generalize w.alloc (.cells #[.int .i64 p, .int .i64 q] 41) = W at fa hB ⊢)
  (refine (rvalid_any p q _ (by omega) (by omega) (by omega) (by omega)).mono ?_; rintro e w' ⟨rfl, hb1⟩; replace fa := fa.below hb1; replace hB := hB.trans (hb1.mono hB.size); clear hb1; rw [HV.out]; obtain ⟨a0, a1, al⟩ := id fa; go_wp2_with fail)
  clear a0 a1 al
  refine (size_any p _ (by omega) (by omega)).mono ?_; rintro e w1 ⟨rfl, rfl⟩
  go_wp2_with fail
  refine (rdigits_any p.natAbs _ (by omega)).mono ?_; rintro e w1 ⟨rfl, rfl⟩
  obtain ⟨DP, hDP⟩ : ∃ D, D = Lib.decDigits p.natAbs := ⟨_, rfl⟩
  obtain ⟨DQ, hDQ⟩ : ∃ D, D = Lib.decDigits q.toNat := ⟨_, rfl⟩
  rw [← hDP] at LP HT ⊢
  rw [← hDQ] at LQ HT
  have HDQ := Lib.hid hDQ
  clear hDP hDQ
  obtain ⟨a0, a1, al⟩ := id fa
  go_wp2_with fail
  refine (rdigits_int q _ (by omega) (by omega)).mono ?_; rintro e w1 ⟨rfl, rfl⟩
  rw [← HDQ.out]
  go_wp2_with fail
  go_ret2
  exact ⟨ret_saN (by rw [HT.out]; simp only [baN_app]; try rfl), hB⟩

set_option maxRecDepth 100000 in
set_option maxHeartbeats 800000 in
theorem rtext_pos_one (p q : Int) (w : World) (hv : Nm.vld p q = true) (hp : ¬ p < 0) (hq : (q == 1) = true) :
    Calls Tryz.prog 119 #[.agg #[.int .i64 p, .int .i64 q]] w fun e w' => e = .returned (.tuple #[.string ⟨(txt p q).toArray⟩, .int .i64 0]) ∧ Below w.heap.size w w' := by
  obtain ⟨x1, x2, x3, x4⟩ := vld_bd hv
  have HV := Lib.hid hv
  have HT : Hid (txt p q = (Lib.decDigits p.natAbs)) := by
    show _ = _
    have hq' : q = 1 := by simpa using hq
    unfold txt Lib.itoa
    rw [if_pos hq', if_neg hp]
    rw [show p.toNat = p.natAbs by omega]
  have LP := dec_lenN p.natAbs (by omega)
  have LQ := dec_lenN q.toNat (by omega)
  have hqn : (q != 1) = false := by simp [bne, hq]
  clear hv
  (go_enter Tryz.func119, Tryz.ntmps119; go_wp2_with fail; have fa := numAt_new w p q 41; have hB := (Below.refl w.heap.size w).alloc (Nat.le_refl _) (.cells #[.int .i64 p, .int .i64 q] 41); generalize w.alloc (.cells #[.int .i64 p, .int .i64 q] 41) = W at fa hB ⊢)
  (refine (rvalid_any p q _ (by omega) (by omega) (by omega) (by omega)).mono ?_; rintro e w' ⟨rfl, hb1⟩; replace fa := fa.below hb1; replace hB := hB.trans (hb1.mono hB.size); clear hb1; rw [HV.out]; obtain ⟨a0, a1, al⟩ := id fa; go_wp2_with fail)
  clear a0 a1 al
  refine (size_any p _ (by omega) (by omega)).mono ?_; rintro e w1 ⟨rfl, rfl⟩
  go_wp2_with fail
  refine (rdigits_any p.natAbs _ (by omega)).mono ?_; rintro e w1 ⟨rfl, rfl⟩
  obtain ⟨DP, hDP⟩ : ∃ D, D = Lib.decDigits p.natAbs := ⟨_, rfl⟩
  obtain ⟨DQ, hDQ⟩ : ∃ D, D = Lib.decDigits q.toNat := ⟨_, rfl⟩
  rw [← hDP] at LP HT ⊢
  rw [← hDQ] at LQ
  have HDQ := Lib.hid hDQ
  clear hDP hDQ
  obtain ⟨a0, a1, al⟩ := id fa
  go_wp2_with fail
  go_ret2
  exact ⟨ret_saN (by rw [HT.out]), hB⟩

set_option maxRecDepth 100000 in
set_option maxHeartbeats 800000 in
theorem rtext_pos_two (p q : Int) (w : World) (hv : Nm.vld p q = true) (hp : ¬ p < 0) (hq : (q == 1) = false) :
    Calls Tryz.prog 119 #[.agg #[.int .i64 p, .int .i64 q]] w fun e w' => e = .returned (.tuple #[.string ⟨(txt p q).toArray⟩, .int .i64 0]) ∧ Below w.heap.size w w' := by
  obtain ⟨x1, x2, x3, x4⟩ := vld_bd hv
  have HV := Lib.hid hv
  have HT : Hid (txt p q = (Lib.decDigits p.natAbs ++ 47 :: Lib.decDigits q.toNat)) := by
    show _ = _
    have hq' : ¬ q = 1 := by simpa using hq
    unfold txt Lib.itoa
    rw [if_neg hq', if_neg hp, if_neg (by omega)]
    rw [show p.toNat = p.natAbs by omega]
  have LP := dec_lenN p.natAbs (by omega)
  have LQ := dec_lenN q.toNat (by omega)
  have hqn : (q != 1) = true := by simp [bne, hq]
  clear hv
  (go_enter Tryz.func119, Tryz.ntmps119; go_wp2_with fail; have fa := numAt_new w p q 41; have hB := (Below.refl w.heap.size w).alloc (Nat.le_refl _) (.cells #[.int .i64 p, .int .i64 q] 41); generalize w.alloc (.cells #[.int .i64 p, .int .i64 q] 41) = W at fa hB ⊢)
  (refine (rvalid_any p q _ (by omega) (by omega) (by omega) (by omega)).mono ?_; rintro e w' ⟨rfl, hb1⟩; replace fa := fa.below hb1; replace hB := hB.trans (hb1.mono hB.size); clear hb1; rw [HV.out]; obtain ⟨a0, a1, al⟩ := id fa; go_wp2_with fail)
  clear a0 a1 al
  refine (size_any p _ (by omega) (by omega)).mono ?_; rintro e w1 ⟨rfl, rfl⟩
  go_wp2_with fail
  refine (rdigits_any p.natAbs _ (by omega)).mono ?_; rintro e w1 ⟨rfl, rfl⟩
  obtain ⟨DP, hDP⟩ : ∃ D, D = Lib.decDigits p.natAbs := ⟨_, rfl⟩
  obtain ⟨DQ, hDQ⟩ : ∃ D, D = Lib.decDigits q.toNat := ⟨_, rfl⟩
  rw [← hDP] at LP HT ⊢
  rw [← hDQ] at LQ HT
  have HDQ := Lib.hid hDQ
  clear hDP hDQ
  obtain ⟨a0, a1, al⟩ := id fa
  go_wp2_with fail
  refine (rdigits_int q _ (by omega) (by omega)).mono ?_; rintro e w1 ⟨rfl, rfl⟩
  rw [← HDQ.out]
  go_wp2_with fail
  go_ret2
  exact ⟨ret_saN (by rw [HT.out]; simp only [baN_app]; rfl), hB⟩

theorem rtext_ok (p q : Int) (w : World) (hv : Nm.vld p q = true) :
    Calls Tryz.prog 119 #[.agg #[.int .i64 p, .int .i64 q]] w fun e w' => e = .returned (.tuple #[.string ⟨(txt p q).toArray⟩, .int .i64 0]) ∧ Below w.heap.size w w' := by
  by_cases hp : p < 0
  · cases hq : (q == 1)
    · exact rtext_neg_two p q w hv hp hq
    · exact rtext_neg_one p q w hv hp hq
  · cases hq : (q == 1)
    · exact rtext_pos_two p q w hv hp hq
    · exact rtext_pos_one p q w hv hp hq
theorem rtext_any (p q : Int) (w : World) (h1 : -9223372036854775808 ≤ p) (h2 : p ≤ 9223372036854775807) (h3 : -9223372036854775808 ≤ q) (h4 : q ≤ 9223372036854775807) :
    Calls Tryz.prog 119 #[.agg #[.int .i64 p, .int .i64 q]] w fun e w' => e = .returned (txtV (Nm.vld p q) p q) ∧ Below w.heap.size w w' := by
  cases hv : Nm.vld p q
  · exact rtext_no p q w h1 h2 h3 h4 hv
  · exact rtext_ok p q w hv
end Go.Proofs.YtmfbnlaohlnljaaGreatDoor
