/-
  Contracts: the reference's Make, and Valid of both, and the checks of several numbers.
-/
import Derived.Test.YtmfbnlaohlnljaaGreatDoorNum2
namespace Go.Proofs.YtmfbnlaohlnljaaGreatDoor
open Go.RowKit

set_option maxHeartbeats 400000 in
theorem lowest_far (b : Bool) (p q : Int) (w : World) (hp0 : -9223372036854775808 ≤ p) (hp1 : p ≤ 9223372036854775807) (hq0 : -9223372036854775808 ≤ q) (hq1 : q ≤ 9223372036854775807)
    (hq : (q == 0) = false) (hf : 2147483647 < Nm.top p q ∨ 2147483647 < Nm.bot p q) :
    Calls Tryz.prog 129 #[.bool b, .int .u64 (p.natAbs : Int), .int .u64 (q.natAbs : Int)] w fun e w' => e = .returned (numV 0 0 17) ∧ Below w.heap.size w w' := by
  have hg := Nm.gcdn_pos p q (by simpa using hq)
  have hg1 : 1 ≤ (Nm.gcdn p q : Int) := by omega
  have hgz : ((Nm.gcdn p q : Int) == 0) = false := by simp; omega
  have e1 := top_eq p q
  have e2 := bot_eq p q
  have t1 := Nm.top_le p q
  have t2 := Nm.bot_le p q
  by_cases hT : 2147483647 < Nm.top p q
  · go_enter Tryz.func129, Tryz.ntmps129
    go_wp2_with ((go_at_call 152; refine (gcd_of _ _ _ (by omega) (by omega)).mono ?_; rintro e w' ⟨rfl, rfl⟩))
    go_quiet (fail)
    go_wp2
    exact bodyPost_ret (v := numV 0 0 17) (by simp [results, Tryz.results129, go_sem, numV]) rfl ⟨rfl, (by repeat (first | exact Below.refl _ _ | refine Below.setCell ?_ (by first | (simp; done) | (simp; omega) | omega) _ | refine below_drewN ?_ _ | refine Below.alloc ?_ (by first | (simp; done) | (simp; omega) | omega) _ | refine Below.trans ?_ (hb.mono (by first | (simp; done) | (simp; omega) | omega))))⟩
  · have hB : 2147483647 < Nm.bot p q := by omega
    go_enter Tryz.func129, Tryz.ntmps129
    go_wp2_with ((go_at_call 152; refine (gcd_of _ _ _ (by omega) (by omega)).mono ?_; rintro e w' ⟨rfl, rfl⟩))
    go_quiet (fail)
    go_wp2
    exact bodyPost_ret (v := numV 0 0 17) (by simp [results, Tryz.results129, go_sem, numV]) rfl ⟨rfl, (by repeat (first | exact Below.refl _ _ | refine Below.setCell ?_ (by first | (simp; done) | (simp; omega) | omega) _ | refine below_drewN ?_ _ | refine Below.alloc ?_ (by first | (simp; done) | (simp; omega) | omega) _ | refine Below.trans ?_ (hb.mono (by first | (simp; done) | (simp; omega) | omega))))⟩

set_option maxHeartbeats 400000 in
theorem lowest_fits (b : Bool) (p q : Int) (w : World) (hp0 : -9223372036854775808 ≤ p) (hp1 : p ≤ 9223372036854775807) (hq0 : -9223372036854775808 ≤ q) (hq1 : q ≤ 9223372036854775807)
    (hq : (q == 0) = false) (hT : Nm.top p q ≤ 2147483647) (hB : Nm.bot p q ≤ 2147483647) :
    Calls Tryz.prog 129 #[.bool b, .int .u64 (p.natAbs : Int), .int .u64 (q.natAbs : Int)] w fun e w' => e = .returned (numV (if b = true then -(Nm.top p q : Int) else (Nm.top p q : Int)) (Nm.bot p q) 0) ∧ Below w.heap.size w w' := by
  have hg := Nm.gcdn_pos p q (by simpa using hq)
  have hg1 : 1 ≤ (Nm.gcdn p q : Int) := by omega
  have hgz : ((Nm.gcdn p q : Int) == 0) = false := by simp; omega
  have e1 := top_eq p q
  have e2 := bot_eq p q
  cases b
  · go_enter Tryz.func129, Tryz.ntmps129
    go_wp2_with ((go_at_call 152; refine (gcd_of _ _ _ (by omega) (by omega)).mono ?_; rintro e w' ⟨rfl, rfl⟩))
    go_quiet (fail)
    go_wp2
    exact bodyPost_ret (v := numV ((Nm.top p q : Int)) (Nm.bot p q) 0) (by simp [results, Tryz.results129, go_sem, numV]) rfl ⟨rfl, (by repeat (first | exact Below.refl _ _ | refine Below.setCell ?_ (by first | (simp; done) | (simp; omega) | omega) _ | refine below_drewN ?_ _ | refine Below.alloc ?_ (by first | (simp; done) | (simp; omega) | omega) _ | refine Below.trans ?_ (hb.mono (by first | (simp; done) | (simp; omega) | omega))))⟩
  · go_enter Tryz.func129, Tryz.ntmps129
    go_wp2_with ((go_at_call 152; refine (gcd_of _ _ _ (by omega) (by omega)).mono ?_; rintro e w' ⟨rfl, rfl⟩))
    go_quiet (fail)
    go_wp2
    exact bodyPost_ret (v := numV (-(Nm.top p q : Int)) (Nm.bot p q) 0) (by simp [results, Tryz.results129, go_sem, numV]) rfl ⟨rfl, (by repeat (first | exact Below.refl _ _ | refine Below.setCell ?_ (by first | (simp; done) | (simp; omega) | omega) _ | refine below_drewN ?_ _ | refine Below.alloc ?_ (by first | (simp; done) | (simp; omega) | omega) _ | refine Below.trans ?_ (hb.mono (by first | (simp; done) | (simp; omega) | omega))))⟩

theorem lowest_any (b : Bool) (p q : Int) (w : World) (hp0 : -9223372036854775808 ≤ p) (hp1 : p ≤ 9223372036854775807) (hq0 : -9223372036854775808 ≤ q) (hq1 : q ≤ 9223372036854775807)
    (hq : (q == 0) = false) (hb : b = Nm.neg p q ∨ p = 0) :
    Calls Tryz.prog 129 #[.bool b, .int .u64 (p.natAbs : Int), .int .u64 (q.natAbs : Int)] w fun e w' => e = .returned (numV (Nm.mkP p q) (Nm.mkQ p q) (Nm.mkE p q)) ∧ Below w.heap.size w w' := by
  have hq' : q ≠ 0 := by simpa using hq
  by_cases hf : 2147483647 < Nm.top p q ∨ 2147483647 < Nm.bot p q
  · have e : Nm.mkE p q = 17 := by simp [Nm.mkE, hq', hf]
    rw [show Nm.mkP p q = 0 by simp [Nm.mkP, e], show Nm.mkQ p q = 0 by simp [Nm.mkQ, e], e]
    exact lowest_far b p q w hp0 hp1 hq0 hq1 hq hf
  · have e : Nm.mkE p q = 0 := by simp only [Nm.mkE, if_neg hq', if_neg hf]
    rw [Nm.mkP, Nm.mkQ, if_pos e, if_pos e, e]
    rcases hb with hb | hb
    · rw [← hb]
      exact lowest_fits b p q w hp0 hp1 hq0 hq1 hq (by omega) (by omega)
    · have ht : Nm.top p q = 0 := by subst hb; simp [Nm.top]
      have := lowest_fits b p q w hp0 hp1 hq0 hq1 hq (by omega) (by omega)
      rw [ht] at this ⊢
      simpa using this

set_option maxHeartbeats 400000 in
theorem rmake_zero (p : Int) (w : World) (_hp0 : -9223372036854775808 ≤ p) (_hp1 : p ≤ 9223372036854775807) :
    Calls Tryz.prog 92 #[.int .i64 p, .int .i64 0] w fun e w' => e = .returned (numV 0 0 18) ∧ Below w.heap.size w w' := by
  go_enter Tryz.func92, Tryz.ntmps92
  go_wp2
  exact bodyPost_ret (v := numV 0 0 18) (by simp [results, Tryz.results92, go_sem, numV]) rfl ⟨rfl, (by repeat (first | exact Below.refl _ _ | refine Below.setCell ?_ (by first | (simp; done) | (simp; omega) | omega) _ | refine below_drewN ?_ _ | refine Below.alloc ?_ (by first | (simp; done) | (simp; omega) | omega) _ | refine Below.trans ?_ (hb.mono (by first | (simp; done) | (simp; omega) | omega))))⟩

set_option maxHeartbeats 400000 in
theorem rmake_not (p q : Int) (w : World) (hp0 : -9223372036854775808 ≤ p) (hp1 : p ≤ 9223372036854775807) (hq0 : -9223372036854775808 ≤ q) (hq1 : q ≤ 9223372036854775807)
    (hq : (q == 0) = false) :
    Calls Tryz.prog 92 #[.int .i64 p, .int .i64 q] w fun e w' => e = .returned (numV (Nm.mkP p q) (Nm.mkQ p q) (Nm.mkE p q)) ∧ Below w.heap.size w w' := by
  by_cases hn : (decide (p < 0) != decide (q < 0)) = true
  · have HN : Hid (true = Nm.neg p q) := hn.symm
    have hn1 : (!decide (p < 0) == decide (q < 0)) = true := by simpa using hn
    by_cases hp : p = 0
    · have hpb : (p != 0) = false := by simpa using hp
      have HP := Lib.hid hp
      clear hp hn
      go_enter Tryz.func92, Tryz.ntmps92
      go_wp2_with (first | (go_at_call 130; refine (size_any _ _ (by omega) (by omega)).mono ?_; rintro e w' ⟨rfl, rfl⟩) | (go_at_call 129; refine (lowest_any _ p q _ (by omega) (by omega) (by omega) (by omega) hq (.inr HP.out)).mono ?_; rintro e w' ⟨rfl, hb⟩; obtain ⟨hc, hf⟩ := bcell hb; have hsz := hb.size; simp at hsz; simp only [numV]))
      exact bodyPost_ret (v := numV (Nm.mkP p q) (Nm.mkQ p q) (Nm.mkE p q)) (by simp [results, Tryz.results92, go_sem, numV, hc]) rfl ⟨rfl, (by repeat (first | exact Below.refl _ _ | refine Below.setCell ?_ (by first | (simp; done) | (simp; omega) | omega) _ | refine below_drewN ?_ _ | refine Below.alloc ?_ (by first | (simp; done) | (simp; omega) | omega) _ | refine Below.trans ?_ (hb.mono (by first | (simp; done) | (simp; omega) | omega))))⟩
    · have hpb : (p != 0) = true := by simpa using hp
      clear hp hn
      go_enter Tryz.func92, Tryz.ntmps92
      go_wp2_with (first | (go_at_call 130; refine (size_any _ _ (by omega) (by omega)).mono ?_; rintro e w' ⟨rfl, rfl⟩) | (go_at_call 129; refine (lowest_any _ p q _ (by omega) (by omega) (by omega) (by omega) hq (.inl HN.out)).mono ?_; rintro e w' ⟨rfl, hb⟩; obtain ⟨hc, hf⟩ := bcell hb; have hsz := hb.size; simp at hsz; simp only [numV]))
      exact bodyPost_ret (v := numV (Nm.mkP p q) (Nm.mkQ p q) (Nm.mkE p q)) (by simp [results, Tryz.results92, go_sem, numV, hc]) rfl ⟨rfl, (by repeat (first | exact Below.refl _ _ | refine Below.setCell ?_ (by first | (simp; done) | (simp; omega) | omega) _ | refine below_drewN ?_ _ | refine Below.alloc ?_ (by first | (simp; done) | (simp; omega) | omega) _ | refine Below.trans ?_ (hb.mono (by first | (simp; done) | (simp; omega) | omega))))⟩
  · have hn2 : (decide (p < 0) != decide (q < 0)) = false := by simpa using hn
    have HN : Hid (false = Nm.neg p q) := hn2.symm
    have hn1 : (!decide (p < 0) == decide (q < 0)) = false := by simpa using hn
    clear hn
    go_enter Tryz.func92, Tryz.ntmps92
    go_wp2_with (first | (go_at_call 130; refine (size_any _ _ (by omega) (by omega)).mono ?_; rintro e w' ⟨rfl, rfl⟩) | (go_at_call 129; refine (lowest_any _ p q _ (by omega) (by omega) (by omega) (by omega) hq (.inl HN.out)).mono ?_; rintro e w' ⟨rfl, hb⟩; obtain ⟨hc, hf⟩ := bcell hb; have hsz := hb.size; simp at hsz; simp only [numV]))
    exact bodyPost_ret (v := numV (Nm.mkP p q) (Nm.mkQ p q) (Nm.mkE p q)) (by simp [results, Tryz.results92, go_sem, numV, hc]) rfl ⟨rfl, (by repeat (first | exact Below.refl _ _ | refine Below.setCell ?_ (by first | (simp; done) | (simp; omega) | omega) _ | refine below_drewN ?_ _ | refine Below.alloc ?_ (by first | (simp; done) | (simp; omega) | omega) _ | refine Below.trans ?_ (hb.mono (by first | (simp; done) | (simp; omega) | omega))))⟩

/-- The reference's Make: any two integers. -/
theorem rmake_any (p q : Int) (w : World) (hp0 : -9223372036854775808 ≤ p) (hp1 : p ≤ 9223372036854775807) (hq0 : -9223372036854775808 ≤ q) (hq1 : q ≤ 9223372036854775807) :
    Calls Tryz.prog 92 #[.int .i64 p, .int .i64 q] w fun e w' => e = .returned (numV (Nm.mkP p q) (Nm.mkQ p q) (Nm.mkE p q)) ∧ Below w.heap.size w w' := by
  by_cases hq : q = 0
  · subst hq
    have e : Nm.mkE p 0 = 18 := by simp [Nm.mkE]
    rw [show Nm.mkP p 0 = 0 by simp [Nm.mkP, e], show Nm.mkQ p 0 = 0 by simp [Nm.mkQ, e], e]
    exact rmake_zero p w hp0 hp1
  · exact rmake_not p q w hp0 hp1 hq0 hq1 (by simpa using hq)
end Go.Proofs.YtmfbnlaohlnljaaGreatDoor
