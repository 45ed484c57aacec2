/-
  Contracts of package fix and of the reference: what is a fixed number, rounded quotients.
-/
-- LAW 02
import Derived.Test.YtanhomngnickfaaDoorRows
import Derived.Test.YtanhomngnickfaaDoorFxMath
import Derived.WalkKit
import Derived.WalkSpells
import Derived.WalkLawsBesides
import Derived.BigQuiet
import Derived.Deep.QuietTactic
namespace Go.Proofs.YtanhomngnickfaaDoor
open Go.RowKit

theorem ret_int {k : IntKind} {a b : Int} (h : a = b) : Ending.returned (.int k a) = .returned (.int k b) := by rw [h]
theorem ret_bool {a b : Bool} (h : a = b) : Ending.returned (.bool a) = .returned (.bool b) := by rw [h]
theorem ret_two {k : IntKind} {a b c d : Int} (h : a = b) (h' : c = d) : Ending.returned (.tuple #[.int k a, .int k c]) = .returned (.tuple #[.int k b, .int k d]) := by rw [h, h']
theorem bcell {W w1 : World} (hb : Below W.heap.size W w1) : (∀ b o, b < W.heap.size → w1.cell? ⟨b, o, none⟩ = W.cell? ⟨b, o, none⟩) ∧ (∀ b o, b < W.heap.size → w1.frozen? ⟨b, o, none⟩ = W.frozen? ⟨b, o, none⟩) :=
  ⟨fun b o h => hb.cell (p := ⟨b, o, none⟩) h, fun b o h => hb.frozen (p := ⟨b, o, none⟩) h⟩

set_option maxHeartbeats 400000 in
theorem fixed1_any (b : Nat) (n : Int) (w : World) (hbl : b < w.heap.size) (c0 : w.cell? ⟨b, 0, none⟩ = some (.int .i64 n)) :
    Calls Tryd.prog 44 #[.slice (some ⟨b, 0, none⟩) 1 1] w fun e w' => e = .returned (.bool (Fx.fxd n)) ∧ Below w.heap.size w w' := by
  go_enter Tryd.func44, Tryd.ntmps44
  go_wp2
  go_loopw [7] (fun i wr => ∃ k : Nat, i = .int .i64 k ∧ k ≤ 1 ∧ (1 ≤ k → Fx.fxd n = true) ∧ Below w.heap.size w wr) (fun i _ => 1 - (intOf i).toNat)
  case atStart => exact ⟨0, rfl, by omega, by omega, Below.refl _ _⟩
  case round =>
    obtain ⟨k, rfl, hk, q1, hb⟩ := hrel
    have d0 := ((bcell hb).1 b 0 hbl).trans c0
    have hs := hb.size
    clear c0
    rcases (by omega : k = 0 ∨ k = 1) with e | e
    · subst e
      clear q1
      by_cases h1 : n < -2147483647
      · go_wp2
        go_ret
        exact ⟨ret_bool (decide_eq_false (by omega)).symm, hb⟩
      by_cases h2 : 2147483647 < n
      · go_wp2
        go_ret
        exact ⟨ret_bool (decide_eq_false (by omega)).symm, hb⟩
      · go_wp2
        exact ⟨⟨1, by go_num, by omega, fun _ => decide_eq_true (by omega), hb⟩, by simp [intOf]⟩
    · subst e
      have HQ := Lib.hid (q1 (by omega))
      clear q1 d0
      go_wp2
      go_ret
      exact ⟨ret_bool HQ.out.symm, hb⟩

set_option maxHeartbeats 400000 in
theorem fixed2_any (b : Nat) (n m : Int) (w : World) (hbl : b < w.heap.size) (c0 : w.cell? ⟨b, 0, none⟩ = some (.int .i64 n)) (c1 : w.cell? ⟨b, 1, none⟩ = some (.int .i64 m)) :
    Calls Tryd.prog 44 #[.slice (some ⟨b, 0, none⟩) 2 2] w fun e w' => e = .returned (.bool (Fx.fxd n && Fx.fxd m)) ∧ Below w.heap.size w w' := by
  go_enter Tryd.func44, Tryd.ntmps44
  go_wp2
  go_loopw [7] (fun i wr => ∃ k : Nat, i = .int .i64 k ∧ k ≤ 2 ∧ (1 ≤ k → Fx.fxd n = true) ∧ (2 ≤ k → Fx.fxd m = true) ∧ Below w.heap.size w wr) (fun i _ => 2 - (intOf i).toNat)
  case atStart => exact ⟨0, rfl, by omega, by omega, by omega, Below.refl _ _⟩
  case round =>
    obtain ⟨k, rfl, hk, q1, q2, hb⟩ := hrel
    have d0 := ((bcell hb).1 b 0 hbl).trans c0
    have d1 := ((bcell hb).1 b 1 hbl).trans c1
    have hs := hb.size
    clear c0 c1
    rcases (by omega : k = 0 ∨ k = 1 ∨ k = 2) with e | e | e
    · subst e
      clear q1 q2 d1
      by_cases h1 : n < -2147483647
      · go_wp2
        go_ret
        exact ⟨ret_bool (by rw [show Fx.fxd n = false from decide_eq_false (by omega)]; rfl), hb⟩
      by_cases h2 : 2147483647 < n
      · go_wp2
        go_ret
        exact ⟨ret_bool (by rw [show Fx.fxd n = false from decide_eq_false (by omega)]; rfl), hb⟩
      · go_wp2
        exact ⟨⟨1, by go_num, by omega, fun _ => decide_eq_true (by omega), by omega, hb⟩, by simp [intOf]⟩
    · subst e
      have HQ := Lib.hid (q1 (by omega))
      clear q1 q2 d0
      by_cases h1 : m < -2147483647
      · go_wp2
        go_ret
        exact ⟨ret_bool (by rw [show Fx.fxd m = false from decide_eq_false (by omega), Bool.and_false]), hb⟩
      by_cases h2 : 2147483647 < m
      · go_wp2
        go_ret
        exact ⟨ret_bool (by rw [show Fx.fxd m = false from decide_eq_false (by omega), Bool.and_false]), hb⟩
      · go_wp2
        exact ⟨⟨2, by go_num, by omega, fun _ => HQ.out, fun _ => decide_eq_true (by omega), hb⟩, by simp [intOf]⟩
    · subst e
      have HQ := Lib.hid (q1 (by omega))
      have HQ2 := Lib.hid (q2 (by omega))
      clear q1 q2 d0 d1
      go_wp2
      go_ret
      exact ⟨ret_bool (by rw [HQ.out, HQ2.out]; rfl), hb⟩

set_option maxHeartbeats 400000 in
theorem is1_any (b : Nat) (n : Int) (w : World) (hbl : b < w.heap.size) (c0 : w.cell? ⟨b, 0, none⟩ = some (.int .i64 n)) :
    Calls Tryd.prog 47 #[.slice (some ⟨b, 0, none⟩) 1 1] w fun e w' => e = .returned (.bool (Fx.fxd n)) ∧ Below w.heap.size w w' := by
  go_enter Tryd.func47, Tryd.ntmps47
  go_wp2
  go_loopw [7] (fun i wr => ∃ k : Nat, i = .int .i64 k ∧ k ≤ 1 ∧ (1 ≤ k → Fx.fxd n = true) ∧ Below w.heap.size w wr) (fun i _ => 1 - (intOf i).toNat)
  case atStart => exact ⟨0, rfl, by omega, by omega, Below.refl _ _⟩
  case round =>
    obtain ⟨k, rfl, hk, q1, hb⟩ := hrel
    have d0 := ((bcell hb).1 b 0 hbl).trans c0
    have hs := hb.size
    clear c0
    rcases (by omega : k = 0 ∨ k = 1) with e | e
    · subst e
      clear q1
      by_cases h1 : n < -2147483647
      · go_wp2
        go_ret
        exact ⟨ret_bool (decide_eq_false (by omega)).symm, hb⟩
      by_cases h2 : 2147483647 < n
      · go_wp2
        go_ret
        exact ⟨ret_bool (decide_eq_false (by omega)).symm, hb⟩
      · go_wp2
        exact ⟨⟨1, by go_num, by omega, fun _ => decide_eq_true (by omega), hb⟩, by simp [intOf]⟩
    · subst e
      have HQ := Lib.hid (q1 (by omega))
      clear q1 d0
      go_wp2
      go_ret
      exact ⟨ret_bool HQ.out.symm, hb⟩

set_option maxHeartbeats 400000 in
theorem is2_any (b : Nat) (n m : Int) (w : World) (hbl : b < w.heap.size) (c0 : w.cell? ⟨b, 0, none⟩ = some (.int .i64 n)) (c1 : w.cell? ⟨b, 1, none⟩ = some (.int .i64 m)) :
    Calls Tryd.prog 47 #[.slice (some ⟨b, 0, none⟩) 2 2] w fun e w' => e = .returned (.bool (Fx.fxd n && Fx.fxd m)) ∧ Below w.heap.size w w' := by
  go_enter Tryd.func47, Tryd.ntmps47
  go_wp2
  go_loopw [7] (fun i wr => ∃ k : Nat, i = .int .i64 k ∧ k ≤ 2 ∧ (1 ≤ k → Fx.fxd n = true) ∧ (2 ≤ k → Fx.fxd m = true) ∧ Below w.heap.size w wr) (fun i _ => 2 - (intOf i).toNat)
  case atStart => exact ⟨0, rfl, by omega, by omega, by omega, Below.refl _ _⟩
  case round =>
    obtain ⟨k, rfl, hk, q1, q2, hb⟩ := hrel
    have d0 := ((bcell hb).1 b 0 hbl).trans c0
    have d1 := ((bcell hb).1 b 1 hbl).trans c1
    have hs := hb.size
    clear c0 c1
    rcases (by omega : k = 0 ∨ k = 1 ∨ k = 2) with e | e | e
    · subst e
      clear q1 q2 d1
      by_cases h1 : n < -2147483647
      · go_wp2
        go_ret
        exact ⟨ret_bool (by rw [show Fx.fxd n = false from decide_eq_false (by omega)]; rfl), hb⟩
      by_cases h2 : 2147483647 < n
      · go_wp2
        go_ret
        exact ⟨ret_bool (by rw [show Fx.fxd n = false from decide_eq_false (by omega)]; rfl), hb⟩
      · go_wp2
        exact ⟨⟨1, by go_num, by omega, fun _ => decide_eq_true (by omega), by omega, hb⟩, by simp [intOf]⟩
    · subst e
      have HQ := Lib.hid (q1 (by omega))
      clear q1 q2 d0
      by_cases h1 : m < -2147483647
      · go_wp2
        go_ret
        exact ⟨ret_bool (by rw [show Fx.fxd m = false from decide_eq_false (by omega), Bool.and_false]), hb⟩
      by_cases h2 : 2147483647 < m
      · go_wp2
        go_ret
        exact ⟨ret_bool (by rw [show Fx.fxd m = false from decide_eq_false (by omega), Bool.and_false]), hb⟩
      · go_wp2
        exact ⟨⟨2, by go_num, by omega, fun _ => HQ.out, fun _ => decide_eq_true (by omega), hb⟩, by simp [intOf]⟩
    · subst e
      have HQ := Lib.hid (q1 (by omega))
      have HQ2 := Lib.hid (q2 (by omega))
      clear q1 q2 d0 d1
      go_wp2
      go_ret
      exact ⟨ret_bool (by rw [HQ.out, HQ2.out]; rfl), hb⟩

set_option maxHeartbeats 400000 in
theorem bounded_any (n : Int) (w : World) : Calls Tryd.prog 45 #[.int .i64 n] w fun e w' => e = .returned (.tuple #[.int .i64 (Fx.tolN n), .int .i64 (Fx.tolE n)]) ∧ Below w.heap.size w w' := by
  cases hv : Fx.fxd n
  · have HV := Lib.hid hv
    clear hv
    rw [Fx.tolN, Fx.tolE, HV.out, if_neg (by decide), if_neg (by decide)]
    go_enter Tryd.func45, Tryd.ntmps45
    go_wp2_with fail
    refine (fixed1_any _ n _ (by simp) (by simp [go_sem])).mono ?_; rintro e w' ⟨rfl, hb⟩
    rw [HV.out]
    go_wp2_with fail
    go_ret2
    exact ⟨rfl, (by repeat (first | exact Below.refl _ _ | refine Below.setCell ?_ (by first | (simp; done) | (simp; omega) | omega) _ | refine below_drewN ?_ _ | refine Below.alloc ?_ (by first | (simp; done) | (simp; omega) | omega) _ | refine Below.trans ?_ (hb.mono (by first | (simp; done) | (simp; omega) | omega))))⟩
  · have HV := Lib.hid hv
    clear hv
    rw [Fx.tolN, Fx.tolE, HV.out, if_pos rfl, if_pos rfl]
    go_enter Tryd.func45, Tryd.ntmps45
    go_wp2_with fail
    refine (fixed1_any _ n _ (by simp) (by simp [go_sem])).mono ?_; rintro e w' ⟨rfl, hb⟩
    rw [HV.out]
    go_wp2_with fail
    go_ret2
    exact ⟨rfl, (by repeat (first | exact Below.refl _ _ | refine Below.setCell ?_ (by first | (simp; done) | (simp; omega) | omega) _ | refine below_drewN ?_ _ | refine Below.alloc ?_ (by first | (simp; done) | (simp; omega) | omega) _ | refine Below.trans ?_ (hb.mono (by first | (simp; done) | (simp; omega) | omega))))⟩

set_option maxHeartbeats 400000 in
theorem told_any (n : Int) (w : World) : Calls Tryd.prog 48 #[.int .i64 n] w fun e w' => e = .returned (.tuple #[.int .i64 (Fx.tolN n), .int .i64 (Fx.tolE n)]) ∧ Below w.heap.size w w' := by
  cases hv : Fx.fxd n
  · have HV := Lib.hid hv
    clear hv
    rw [Fx.tolN, Fx.tolE, HV.out, if_neg (by decide), if_neg (by decide)]
    go_enter Tryd.func48, Tryd.ntmps48
    go_wp2_with fail
    refine (is1_any _ n _ (by simp) (by simp [go_sem])).mono ?_; rintro e w' ⟨rfl, hb⟩
    rw [HV.out]
    go_wp2_with fail
    go_ret2
    exact ⟨rfl, (by repeat (first | exact Below.refl _ _ | refine Below.setCell ?_ (by first | (simp; done) | (simp; omega) | omega) _ | refine below_drewN ?_ _ | refine Below.alloc ?_ (by first | (simp; done) | (simp; omega) | omega) _ | refine Below.trans ?_ (hb.mono (by first | (simp; done) | (simp; omega) | omega))))⟩
  · have HV := Lib.hid hv
    clear hv
    rw [Fx.tolN, Fx.tolE, HV.out, if_pos rfl, if_pos rfl]
    go_enter Tryd.func48, Tryd.ntmps48
    go_wp2_with fail
    refine (is1_any _ n _ (by simp) (by simp [go_sem])).mono ?_; rintro e w' ⟨rfl, hb⟩
    rw [HV.out]
    go_wp2_with fail
    go_ret2
    exact ⟨rfl, (by repeat (first | exact Below.refl _ _ | refine Below.setCell ?_ (by first | (simp; done) | (simp; omega) | omega) _ | refine below_drewN ?_ _ | refine Below.alloc ?_ (by first | (simp; done) | (simp; omega) | omega) _ | refine Below.trans ?_ (hb.mono (by first | (simp; done) | (simp; omega) | omega))))⟩

set_option maxHeartbeats 400000 in
theorem rounded_any (a b : Int) (w : World) (hb : 0 < b) (hb1 : b ≤ 4611686018427387903) (h0 : -9223372036854775808 ≤ 2 * a + b) (h1 : 2 * a + b ≤ 9223372036854775807) (h2 : -9223372036854775808 ≤ 2 * a) (h3 : 2 * a ≤ 9223372036854775807) :
    Calls Tryd.prog 46 #[.int .i64 a, .int .i64 b] w fun e w' => e = .returned (.int .i64 (Fx.rnd a b)) ∧ w = w' := by
  have hz : (2 * b == 0) = false := by simp; omega
  have t1 := Fx.td_bd (2 * a + b) (2 * b)
  have t2 := Fx.ediv_bd (2 * a + b) (2 * b) (by omega)
  have t3 := Fx.tm_lt (2 * a + b) (2 * b) (by omega)
  have eN := Lib.hid (Fx.tdiv_neg' (2 * a + b) (2 * b) (by omega))
  have eP := Lib.hid (Fx.tdiv_nn' (2 * a + b) (2 * b) (by omega))
  have w1 : IntKind.i64.wrap ((2 * a + b).tdiv (2 * b)) = (2 * a + b).tdiv (2 * b) := by
    by_cases h : (2 * a + b).tmod (2 * b) < 0
    · have := eN.out h; exact IntWalk.i64_in _ (by omega)
    · have := eP.out h; exact IntWalk.i64_in _ (by omega)
  have b3 : -9223372036854775808 ≤ (2 * a + b).tmod (2 * b) := by omega
  have b4 : (2 * a + b).tmod (2 * b) ≤ 9223372036854775807 := by omega
  have HR : Hid (Fx.rnd a b = (2 * a + b) / (2 * b)) := rfl
  by_cases h : (2 * a + b).tmod (2 * b) < 0
  · have e := eN.out h
    rw [HR.out, ← e]
    have b5 : -9223372036854775808 ≤ (2 * a + b).tdiv (2 * b) - 1 := by
      rw [e]
      have : (2 * a + b) / (2 * b) ≥ -9223372036854775808 := by omega
      omega
    have b6 : (2 * a + b).tdiv (2 * b) - 1 ≤ 9223372036854775807 := by omega
    clear eN eP t1 t2 t3 HR e
    go_enter Tryd.func46, Tryd.ntmps46
    go_wp2
    go_ret
    exact ⟨rfl, rfl⟩
  · have e := eP.out h
    rw [HR.out, ← e]
    clear eN eP t1 t2 t3 HR e
    go_enter Tryd.func46, Tryd.ntmps46
    go_wp2
    go_ret
    exact ⟨rfl, rfl⟩

set_option maxHeartbeats 400000 in
theorem down_any (p q : Int) (w : World) (hq : 0 < q) (hq1 : q ≤ 9223372036854775807) (hp0 : -9223372036854775807 ≤ p) (hp1 : p ≤ 9223372036854775807) :
    Calls Tryd.prog 83 #[.int .i64 p, .int .i64 q] w fun e w' => e = .returned (.int .i64 (p / q)) ∧ w = w' := by
  have hz : (q == 0) = false := by simp; omega
  have t1 := Fx.td_bd p q
  have t2 := Fx.ediv_bd p q hq
  have t3 := Fx.tm_lt p q (by omega)
  have eN := Lib.hid (Fx.tdiv_neg' p q hq)
  have eP := Lib.hid (Fx.tdiv_nn' p q hq)
  have w1 : IntKind.i64.wrap (p.tdiv q) = p.tdiv q := IntWalk.i64_in _ (by omega)
  have b3 : -9223372036854775808 ≤ p.tmod q := by omega
  have b4 : p.tmod q ≤ 9223372036854775807 := by omega
  by_cases h : p.tmod q < 0
  · have e := eN.out h
    rw [← e]
    have b5 : -9223372036854775808 ≤ p.tdiv q - 1 := by omega
    have b6 : p.tdiv q - 1 ≤ 9223372036854775807 := by omega
    clear eN eP t1 t2 t3 e
    go_enter Tryd.func83, Tryd.ntmps83
    go_wp2
    go_ret
    exact ⟨rfl, rfl⟩
  · have e := eP.out h
    rw [← e]
    clear eN eP t1 t2 t3 e
    go_enter Tryd.func83, Tryd.ntmps83
    go_wp2
    go_ret
    exact ⟨rfl, rfl⟩

set_option maxHeartbeats 400000 in
theorem near_any (p q : Int) (w : World) (hq : 0 < q) (hq1 : q ≤ 4611686018427387904) (hp0 : -4611686018427387904 ≤ p) (hp1 : p ≤ 4611686018427387904) :
    Calls Tryd.prog 49 #[.int .i64 p, .int .i64 q] w fun e w' => e = .returned (.int .i64 (Fx.rnd p q)) ∧ w = w' := by
  obtain ⟨r0, r1⟩ := Fx.rest_bd p q hq
  have t2 := Fx.ediv_bd p q hq
  have hup := Lib.hid (Fx.near_up p q hq)
  have hdn := Lib.hid (Fx.near_dn p q hq)
  have w1 : IntKind.i64.wrap (p / q * q) = p / q * q := IntWalk.i64_in _ (by omega)
  have b1 : -9223372036854775808 ≤ p / q * q := by omega
  have b2 : p / q * q ≤ 9223372036854775807 := by omega
  by_cases h : q - (p - p / q * q) ≤ p - p / q * q
  · have e := Lib.hid (hup.out h)
    clear hup hdn
    go_enter Tryd.func49, Tryd.ntmps49
    go_wp2_with fail
    refine (down_any p q _ hq (by omega) (by omega) (by omega)).mono ?_; rintro e w' ⟨rfl, rfl⟩
    go_wp2
    go_ret
    exact ⟨ret_int e.out, rfl⟩
  · have e := Lib.hid (hdn.out h)
    clear hup hdn
    go_enter Tryd.func49, Tryd.ntmps49
    go_wp2_with fail
    refine (down_any p q _ hq (by omega) (by omega) (by omega)).mono ?_; rintro e w' ⟨rfl, rfl⟩
    go_wp2
    go_ret
    exact ⟨ret_int e.out, rfl⟩
end Go.Proofs.YtanhomngnickfaaDoor
