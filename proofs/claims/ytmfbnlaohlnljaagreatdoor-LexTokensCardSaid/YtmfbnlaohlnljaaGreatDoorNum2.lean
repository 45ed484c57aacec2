/-
  Contracts: Make and Valid of package num and of the reference.
-/
import Derived.Test.YtmfbnlaohlnljaaGreatDoorNum1
namespace Go.Proofs.YtmfbnlaohlnljaaGreatDoor
open Go.RowKit

/-- A result of a number and an error code. -/
def numV (p q e : Int) : Value := .tuple #[.agg #[.int .i64 p, .int .i64 q], .int .i64 e]

theorem bcell {W w1 : World} (hb : Below W.heap.size W w1) : (∀ b o, b < W.heap.size → w1.cell? ⟨b, o, none⟩ = W.cell? ⟨b, o, none⟩) ∧ (∀ b o, b < W.heap.size → w1.frozen? ⟨b, o, none⟩ = W.frozen? ⟨b, o, none⟩) :=
  ⟨fun b o h => hb.cell (p := ⟨b, o, none⟩) h, fun b o h => hb.frozen (p := ⟨b, o, none⟩) h⟩

set_option maxHeartbeats 400000 in
theorem make_zero (p : Int) (w : World) (_hp0 : -9223372036854775808 ≤ p) (_hp1 : p ≤ 9223372036854775807) :
    Calls Tryz.prog 163 #[.int .i64 p, .int .i64 0] w fun e w' => e = .returned (numV 0 0 18) ∧ Below w.heap.size w w' := by
  go_enter Tryz.func163, Tryz.ntmps163
  go_wp2
  exact bodyPost_ret (v := numV 0 0 18) (by simp [results, Tryz.results163, go_sem, numV]) rfl ⟨rfl, (Below.refl _ _).alloc (Nat.le_refl _) _⟩

theorem divisor_of (p q : Int) (w : World) (hp : p.natAbs ≤ 18446744073709551615) (hq : q.natAbs ≤ 18446744073709551615) :
    Calls Tryz.prog 154 #[.int .u64 (p.natAbs : Int), .int .u64 (q.natAbs : Int)] w fun e w' => e = .returned (.int .u64 (Nm.gcdn p q : Nat)) ∧ ∃ n, w' = w.drewN n :=
  divisor_any _ _ _ hp hq
theorem gcd_of (p q : Int) (w : World) (hp : p.natAbs ≤ 18446744073709551615) (hq : q.natAbs ≤ 18446744073709551615) :
    Calls Tryz.prog 152 #[.int .u64 (p.natAbs : Int), .int .u64 (q.natAbs : Int)] w fun e w' => e = .returned (.int .u64 (Nm.gcdn p q : Nat)) ∧ w = w' :=
  gcd_any _ _ _ hp hq
theorem top_eq (p q : Int) : (p.natAbs : Int) / (Nm.gcdn p q : Int) = (Nm.top p q : Int) := (Int.natCast_ediv _ _).symm
theorem bot_eq (p q : Int) : (q.natAbs : Int) / (Nm.gcdn p q : Int) = (Nm.bot p q : Int) := (Int.natCast_ediv _ _).symm

set_option maxHeartbeats 400000 in
theorem make_far (p q : Int) (w : World) (hp0 : -9223372036854775808 ≤ p) (hp1 : p ≤ 9223372036854775807) (hq0 : -9223372036854775808 ≤ q) (hq1 : q ≤ 9223372036854775807)
    (hq : (q == 0) = false) (hf : 2147483647 < Nm.top p q ∨ 2147483647 < Nm.bot p q) :
    Calls Tryz.prog 163 #[.int .i64 p, .int .i64 q] w fun e w' => e = .returned (numV 0 0 17) ∧ Below w.heap.size w w' := by
  have hg := Nm.gcdn_pos p q (by simpa using hq)
  have hg1 : 1 ≤ (Nm.gcdn p q : Int) := by omega
  have hgz : ((Nm.gcdn p q : Int) == 0) = false := by simp; omega
  have e1 := top_eq p q
  have e2 := bot_eq p q
  have t1 := Nm.top_le p q
  have t2 := Nm.bot_le p q
  by_cases hT : 2147483647 < Nm.top p q
  · go_enter Tryz.func163, Tryz.ntmps163
    go_wp2_with (first | (go_at_call 155; refine (magnitude_any _ _ (by omega) (by omega)).mono ?_; rintro e w' ⟨rfl, rfl⟩) | (go_at_call 154; refine (divisor_of _ _ _ (by omega) (by omega)).mono ?_; rintro e w' ⟨rfl, n, rfl⟩))
    go_quiet (fail)
    go_wp2
    exact bodyPost_ret (v := numV 0 0 17) (by simp [results, Tryz.results163, go_sem, numV]) rfl ⟨rfl, (by repeat (first | exact Below.refl _ _ | refine Below.setCell ?_ (by first | (simp; done) | (simp; omega) | omega) _ | refine below_drewN ?_ _ | refine Below.alloc ?_ (by first | (simp; done) | (simp; omega) | omega) _ | refine Below.trans ?_ (hb.mono (by first | (simp; done) | (simp; omega) | omega))))⟩
  · have hB : 2147483647 < Nm.bot p q := by omega
    go_enter Tryz.func163, Tryz.ntmps163
    go_wp2_with (first | (go_at_call 155; refine (magnitude_any _ _ (by omega) (by omega)).mono ?_; rintro e w' ⟨rfl, rfl⟩) | (go_at_call 154; refine (divisor_of _ _ _ (by omega) (by omega)).mono ?_; rintro e w' ⟨rfl, n, rfl⟩))
    go_quiet (fail)
    go_wp2
    exact bodyPost_ret (v := numV 0 0 17) (by simp [results, Tryz.results163, go_sem, numV]) rfl ⟨rfl, (by repeat (first | exact Below.refl _ _ | refine Below.setCell ?_ (by first | (simp; done) | (simp; omega) | omega) _ | refine below_drewN ?_ _ | refine Below.alloc ?_ (by first | (simp; done) | (simp; omega) | omega) _ | refine Below.trans ?_ (hb.mono (by first | (simp; done) | (simp; omega) | omega))))⟩

set_option maxHeartbeats 400000 in
theorem make_fits (p q : Int) (w : World) (hp0 : -9223372036854775808 ≤ p) (hp1 : p ≤ 9223372036854775807) (hq0 : -9223372036854775808 ≤ q) (hq1 : q ≤ 9223372036854775807)
    (hq : (q == 0) = false) (hT : Nm.top p q ≤ 2147483647) (hB : Nm.bot p q ≤ 2147483647) :
    Calls Tryz.prog 163 #[.int .i64 p, .int .i64 q] w fun e w' => e = .returned (numV (if Nm.neg p q = true then -(Nm.top p q : Int) else (Nm.top p q : Int)) (Nm.bot p q) 0) ∧ Below w.heap.size w w' := by
  have hg := Nm.gcdn_pos p q (by simpa using hq)
  have hg1 : 1 ≤ (Nm.gcdn p q : Int) := by omega
  have hgz : ((Nm.gcdn p q : Int) == 0) = false := by simp; omega
  have e1 := top_eq p q
  have e2 := bot_eq p q
  by_cases hn : (decide (p < 0) != decide (q < 0)) = true
  · have HN : Hid (Nm.neg p q = true) := hn
    have hn1 : (!decide (p < 0) == decide (q < 0)) = true := by simpa using hn
    rw [if_pos HN.out]
    go_enter Tryz.func163, Tryz.ntmps163
    go_wp2_with (first | (go_at_call 155; refine (magnitude_any _ _ (by omega) (by omega)).mono ?_; rintro e w' ⟨rfl, rfl⟩) | (go_at_call 154; refine (divisor_of _ _ _ (by omega) (by omega)).mono ?_; rintro e w' ⟨rfl, n, rfl⟩))
    go_quiet (fail)
    go_wp2
    exact bodyPost_ret (v := numV (-(Nm.top p q : Int)) (Nm.bot p q) 0) (by simp [results, Tryz.results163, go_sem, numV]) rfl ⟨rfl, (by repeat (first | exact Below.refl _ _ | refine Below.setCell ?_ (by first | (simp; done) | (simp; omega) | omega) _ | refine below_drewN ?_ _ | refine Below.alloc ?_ (by first | (simp; done) | (simp; omega) | omega) _ | refine Below.trans ?_ (hb.mono (by first | (simp; done) | (simp; omega) | omega))))⟩
  · have HN : Hid (¬ Nm.neg p q = true) := hn
    have hn2 : (decide (p < 0) != decide (q < 0)) = false := by simpa using hn
    have hn1 : (!decide (p < 0) == decide (q < 0)) = false := by simpa using hn
    rw [if_neg HN.out]
    clear hn
    go_enter Tryz.func163, Tryz.ntmps163
    go_wp2_with (first | (go_at_call 155; refine (magnitude_any _ _ (by omega) (by omega)).mono ?_; rintro e w' ⟨rfl, rfl⟩) | (go_at_call 154; refine (divisor_of _ _ _ (by omega) (by omega)).mono ?_; rintro e w' ⟨rfl, n, rfl⟩))
    go_quiet (fail)
    go_wp2
    exact bodyPost_ret (v := numV ((Nm.top p q : Int)) (Nm.bot p q) 0) (by simp [results, Tryz.results163, go_sem, numV]) rfl ⟨rfl, (by repeat (first | exact Below.refl _ _ | refine Below.setCell ?_ (by first | (simp; done) | (simp; omega) | omega) _ | refine below_drewN ?_ _ | refine Below.alloc ?_ (by first | (simp; done) | (simp; omega) | omega) _ | refine Below.trans ?_ (hb.mono (by first | (simp; done) | (simp; omega) | omega))))⟩

/-- Make: any two integers. -/
theorem make_any (p q : Int) (w : World) (hp0 : -9223372036854775808 ≤ p) (hp1 : p ≤ 9223372036854775807) (hq0 : -9223372036854775808 ≤ q) (hq1 : q ≤ 9223372036854775807) :
    Calls Tryz.prog 163 #[.int .i64 p, .int .i64 q] w fun e w' => e = .returned (numV (Nm.mkP p q) (Nm.mkQ p q) (Nm.mkE p q)) ∧ Below w.heap.size w w' := by
  by_cases hq : q = 0
  · subst hq
    have e : Nm.mkE p 0 = 18 := by simp [Nm.mkE]
    rw [show Nm.mkP p 0 = 0 by simp [Nm.mkP, e], show Nm.mkQ p 0 = 0 by simp [Nm.mkQ, e], e]
    exact make_zero p w hp0 hp1
  · have hqb : (q == 0) = false := by simpa using hq
    by_cases hf : 2147483647 < Nm.top p q ∨ 2147483647 < Nm.bot p q
    · have e : Nm.mkE p q = 17 := by simp [Nm.mkE, hq, hf]
      rw [show Nm.mkP p q = 0 by simp [Nm.mkP, e], show Nm.mkQ p q = 0 by simp [Nm.mkQ, e], e]
      exact make_far p q w hp0 hp1 hq0 hq1 hqb hf
    · have e : Nm.mkE p q = 0 := by simp only [Nm.mkE, if_neg hq, if_neg hf]
      rw [Nm.mkP, Nm.mkQ, if_pos e, if_pos e, e]
      exact make_fits p q w hp0 hp1 hq0 hq1 hqb (by omega) (by omega)
end Go.Proofs.YtmfbnlaohlnljaaGreatDoor
