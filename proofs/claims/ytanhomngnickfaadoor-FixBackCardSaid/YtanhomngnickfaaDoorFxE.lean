/-
  Contracts of package fix and of the reference: the circle, sines, directions, turns.
-/
-- LAW 02
import Derived.Test.YtanhomngnickfaaDoorFxD
namespace Go.Proofs.YtanhomngnickfaaDoor
open Go.RowKit


theorem ret_three {k : IntKind} {a b c d e f : Int} (h : a = b) (h' : c = d) (h'' : e = f) : Ending.returned (.tuple #[.int k a, .int k c, .int k e]) = .returned (.tuple #[.int k b, .int k d, .int k f]) := by rw [h, h', h'']

set_option maxRecDepth 100000 in
set_option maxHeartbeats 400000 in
theorem circle_core (a r : Int) (w : World) (_h0 : -9223372036854775808 ≤ a) (_h1 : a ≤ 9223372036854775807) (r0 : 0 ≤ r) (r1 : r ≤ 377487359) (en : a.tmod 377487360 < 0 → a.tmod 377487360 + 377487360 = r) (ep : ¬ a.tmod 377487360 < 0 → a.tmod 377487360 = r)
    (hS : Fx.cS a = Fx.roS (Fx.qS (r % 94371840)) (Fx.qC (r % 94371840)) (r / 94371840).toNat) (hC : Fx.cC a = Fx.roS (Fx.qS (r % 94371840)) (Fx.qC (r % 94371840)) ((r / 94371840).toNat + 1)) :
    Calls Tryd.prog 53 #[.int .i64 a] w fun e w' => e = .returned (.tuple #[.int .i64 (Fx.cS a), .int .i64 (Fx.cC a)]) ∧ w = w' := by
  have HC : Hid (Fx.cS a = Fx.roS (Fx.qS (r % 94371840)) (Fx.qC (r % 94371840)) (r / 94371840).toNat ∧ Fx.cC a = Fx.roS (Fx.qS (r % 94371840)) (Fx.qC (r % 94371840)) ((r / 94371840).toNat + 1)) := ⟨hS, hC⟩
  clear hS hC
  obtain ⟨q, hq⟩ : ∃ q : Nat, q = (r / 94371840).toNat := ⟨_, rfl⟩
  rw [← hq] at HC
  have p0 : 0 ≤ r % 94371840 := by omega
  have p1 : r % 94371840 ≤ 94371839 := by omega
  have q1 : r / 94371840 = (q : Int) := by omega
  have bq := Fx.q_bd (r % 94371840) (by omega) (by omega)
  obtain ⟨b1, b2, b3, b4⟩ := bq
  clear hq
  obtain ⟨s, hs⟩ : ∃ s, s = Fx.qS (r % 94371840) := ⟨_, rfl⟩
  obtain ⟨c, hcc⟩ : ∃ c, c = Fx.qC (r % 94371840) := ⟨_, rfl⟩
  have HQ : Hid (∀ w, Calls Tryd.prog 85 #[.int .i64 (r % 94371840)] w fun e w' => e = .returned (.tuple #[.int .i64 s, .int .i64 c]) ∧ w = w') := fun w => by
    rw [hs, hcc]; exact quarter_any _ w p0 (by omega)
  rw [← hs, ← hcc] at HC
  rw [← hs] at b1 b2
  rw [← hcc] at b3 b4
  clear hs hcc
  by_cases hm : a.tmod 377487360 < 0
  · have e := en hm
    have t := Fx.tm_lt a 377487360 (by omega)
    have t0 : -377487360 ≤ a.tmod 377487360 := by omega
    clear t en ep
    go_enter Tryd.func53, Tryd.ntmps53
    go_wp2_with fail
    refine (HQ.out _).mono ?_; rintro e w1 ⟨rfl, rfl⟩
    go_wp2_with fail
    go_loop [19, 2, 3] (fun vi vs vc => ∃ k : Nat, vi = .int .i64 k ∧ k ≤ q ∧ vs = .int .i64 (Fx.roS s c k) ∧ vc = .int .i64 (Fx.roS s c (k + 1))) (fun vi _ _ => q - (intOf vi).toNat)
    case atStart => exact ⟨0, rfl, by omega, rfl, rfl⟩
    case round =>
      obtain ⟨k, rfl, hk, rfl, rfl⟩ := hrel
      by_cases hkn : k < q
      · have b := Fx.roS_bd s c (by omega) (by omega) (by omega) (by omega) k
        obtain ⟨g0, g1⟩ := b
        have e2 : -Fx.roS s c k = Fx.roS s c (k + 2) := rfl
        go_wp2
        exact ⟨⟨k + 1, by go_num, by omega, rfl, rfl⟩, by simp [intOf]; omega⟩
      · have e : k = q := by omega
        subst e
        go_wp2
        go_ret2
        exact ⟨ret_two HC.out.1.symm HC.out.2.symm, rfl⟩
  · have e := ep hm
    clear en ep
    go_enter Tryd.func53, Tryd.ntmps53
    go_wp2_with fail
    refine (HQ.out _).mono ?_; rintro e w1 ⟨rfl, rfl⟩
    go_wp2_with fail
    go_loop [19, 2, 3] (fun vi vs vc => ∃ k : Nat, vi = .int .i64 k ∧ k ≤ q ∧ vs = .int .i64 (Fx.roS s c k) ∧ vc = .int .i64 (Fx.roS s c (k + 1))) (fun vi _ _ => q - (intOf vi).toNat)
    case atStart => exact ⟨0, rfl, by omega, rfl, rfl⟩
    case round =>
      obtain ⟨k, rfl, hk, rfl, rfl⟩ := hrel
      by_cases hkn : k < q
      · have b := Fx.roS_bd s c (by omega) (by omega) (by omega) (by omega) k
        obtain ⟨g0, g1⟩ := b
        have e2 : -Fx.roS s c k = Fx.roS s c (k + 2) := rfl
        go_wp2
        exact ⟨⟨k + 1, by go_num, by omega, rfl, rfl⟩, by simp [intOf]; omega⟩
      · have e : k = q := by omega
        subst e
        go_wp2
        go_ret2
        exact ⟨ret_two HC.out.1.symm HC.out.2.symm, rfl⟩

theorem circle_any (a : Int) (w : World) (h0 : -9223372036854775808 ≤ a) (h1 : a ≤ 9223372036854775807) :
    Calls Tryd.prog 53 #[.int .i64 a] w fun e w' => e = .returned (.tuple #[.int .i64 (Fx.cS a), .int .i64 (Fx.cC a)]) ∧ w = w' :=
  circle_core a (a % 377487360) w h0 h1 (by omega) (by omega) (fun h => Fx.emod_tneg a 377487360 (by omega) h) (fun h => Fx.emod_tnn a 377487360 (by omega) h) rfl rfl

set_option maxRecDepth 100000 in
set_option maxHeartbeats 400000 in
theorem rcircle_core (a r : Int) (w : World) (h0 : -4611686018427387904 ≤ a) (h1 : a ≤ 4611686018427387904) (r0 : 0 ≤ r) (r1 : r ≤ 377487359) (e1 : a - a / 377487360 * 377487360 = r)
    (hS : Fx.cS a = Fx.roS (Fx.qS (r % 94371840)) (Fx.qC (r % 94371840)) (r / 94371840).toNat) (hC : Fx.cC a = Fx.roS (Fx.qS (r % 94371840)) (Fx.qC (r % 94371840)) ((r / 94371840).toNat + 1)) :
    Calls Tryd.prog 55 #[.int .i64 a] w fun e w' => e = .returned (.tuple #[.int .i64 (Fx.cS a), .int .i64 (Fx.cC a)]) ∧ w = w' := by
  have HC : Hid (Fx.cS a = Fx.roS (Fx.qS (r % 94371840)) (Fx.qC (r % 94371840)) (r / 94371840).toNat ∧ Fx.cC a = Fx.roS (Fx.qS (r % 94371840)) (Fx.qC (r % 94371840)) ((r / 94371840).toNat + 1)) := ⟨hS, hC⟩
  clear hS hC
  obtain ⟨q, hq⟩ : ∃ q : Nat, q = (r / 94371840).toNat := ⟨_, rfl⟩
  rw [← hq] at HC
  have p0 : 0 ≤ r % 94371840 := by omega
  have p1 : r % 94371840 ≤ 94371839 := by omega
  have q1 : r / 94371840 = (q : Int) := by omega
  have bq := Fx.q_bd (r % 94371840) (by omega) (by omega)
  obtain ⟨b1, b2, b3, b4⟩ := bq
  have d0 : -4611686018427387904 ≤ a / 377487360 := by omega
  have d1 : a / 377487360 ≤ 4611686018427387904 := by omega
  have w1 : IntKind.i64.wrap (a / 377487360 * 377487360) = a / 377487360 * 377487360 := IntWalk.i64_in _ (by omega)
  have e2 : r - q * 94371840 = r % 94371840 := by omega
  have qb : q ≤ 3 := by omega
  clear hq
  obtain ⟨s, hs⟩ : ∃ s, s = Fx.qS (r % 94371840) := ⟨_, rfl⟩
  obtain ⟨c, hcc⟩ : ∃ c, c = Fx.qC (r % 94371840) := ⟨_, rfl⟩
  have HQ1 : Hid (47185920 < r % 94371840 → ∀ w, Calls Tryd.prog 86 #[.int .i64 (94371840 - r % 94371840)] w fun e w' => e = .returned (.tuple #[.int .i64 c, .int .i64 s]) ∧ w = w') := fun hm w => by
    rw [hs, hcc, show Fx.qS (r % 94371840) = Fx.qC (94371840 - r % 94371840) by rw [Fx.qS, if_pos hm, Fx.qC, if_neg (by omega)], show Fx.qC (r % 94371840) = Fx.qS (94371840 - r % 94371840) by rw [Fx.qC, if_pos hm, Fx.qS, if_neg (by omega)]]
    exact low_any _ w (by omega) (by omega)
  have HQ2 : Hid (¬ 47185920 < r % 94371840 → ∀ w, Calls Tryd.prog 86 #[.int .i64 (r % 94371840)] w fun e w' => e = .returned (.tuple #[.int .i64 s, .int .i64 c]) ∧ w = w') := fun hm w => by
    rw [hs, hcc]; exact low_any _ w (by omega) (by omega)
  rw [← hs, ← hcc] at HC
  rw [← hs] at b1 b2
  rw [← hcc] at b3 b4
  clear hs hcc
  by_cases hm : 47185920 < r % 94371840
  · have HQ := Lib.hid (HQ1.out hm)
    clear HQ1 HQ2
    go_enter Tryd.func55, Tryd.ntmps55
    go_wp2_with fail
    refine (down_any a 377487360 _ (by omega) (by omega) (by omega) (by omega)).mono ?_; rintro e w1 ⟨rfl, rfl⟩
    go_wp2_with fail
    refine (HQ.out _).mono ?_; rintro e w1 ⟨rfl, rfl⟩
    go_wp2_with fail
    go_loop [6, 7, 8] (fun vi vs vc => ∃ k : Nat, vi = .int .i64 ((q : Int) - k) ∧ k ≤ q ∧ vs = .int .i64 (Fx.roS s c k) ∧ vc = .int .i64 (Fx.roS s c (k + 1))) (fun vi _ _ => (intOf vi).toNat)
    case atStart => exact ⟨0, by simp, by omega, rfl, rfl⟩
    case round =>
      obtain ⟨k, rfl, hk, rfl, rfl⟩ := hrel
      by_cases hkn : k < q
      · have b := Fx.roS_bd s c (by omega) (by omega) (by omega) (by omega) k
        obtain ⟨g0, g1⟩ := b
        have e2 : -Fx.roS s c k = Fx.roS s c (k + 2) := rfl
        go_wp2
        exact ⟨⟨k + 1, by congr 1; omega, by omega, rfl, rfl⟩, by simp [intOf]; omega⟩
      · have e : k = q := by omega
        subst e
        go_wp2
        go_ret2
        exact ⟨ret_two HC.out.1.symm HC.out.2.symm, rfl⟩
  · have HQ := Lib.hid (HQ2.out hm)
    clear HQ1 HQ2
    go_enter Tryd.func55, Tryd.ntmps55
    go_wp2_with fail
    refine (down_any a 377487360 _ (by omega) (by omega) (by omega) (by omega)).mono ?_; rintro e w1 ⟨rfl, rfl⟩
    go_wp2_with fail
    refine (HQ.out _).mono ?_; rintro e w1 ⟨rfl, rfl⟩
    go_wp2_with fail
    go_loop [6, 7, 8] (fun vi vs vc => ∃ k : Nat, vi = .int .i64 ((q : Int) - k) ∧ k ≤ q ∧ vs = .int .i64 (Fx.roS s c k) ∧ vc = .int .i64 (Fx.roS s c (k + 1))) (fun vi _ _ => (intOf vi).toNat)
    case atStart => exact ⟨0, by simp, by omega, rfl, rfl⟩
    case round =>
      obtain ⟨k, rfl, hk, rfl, rfl⟩ := hrel
      by_cases hkn : k < q
      · have b := Fx.roS_bd s c (by omega) (by omega) (by omega) (by omega) k
        obtain ⟨g0, g1⟩ := b
        have e2 : -Fx.roS s c k = Fx.roS s c (k + 2) := rfl
        go_wp2
        exact ⟨⟨k + 1, by congr 1; omega, by omega, rfl, rfl⟩, by simp [intOf]; omega⟩
      · have e : k = q := by omega
        subst e
        go_wp2
        go_ret2
        exact ⟨ret_two HC.out.1.symm HC.out.2.symm, rfl⟩

theorem rcircle_any (a : Int) (w : World) (h0 : -4611686018427387904 ≤ a) (h1 : a ≤ 4611686018427387904) :
    Calls Tryd.prog 55 #[.int .i64 a] w fun e w' => e = .returned (.tuple #[.int .i64 (Fx.cS a), .int .i64 (Fx.cC a)]) ∧ w = w' :=
  rcircle_core a (a % 377487360) w h0 h1 (by omega) (by omega) (by omega) rfl rfl

set_option maxHeartbeats 400000 in
theorem angle_any (a : Int) (w : World) : Calls Tryd.prog 52 #[.int .i64 a] w fun e w' => e = .returned (.bool (Fx.ang a)) ∧ w = w' := by
  have HA : Hid (Fx.ang a = decide (-1099511627776 ≤ a ∧ a ≤ 1099511627776)) := rfl
  by_cases h1 : -1099511627776 ≤ a
  · by_cases h2 : a ≤ 1099511627776
    · go_enter Tryd.func52, Tryd.ntmps52
      go_wp2
      go_ret
      exact ⟨ret_bool (by rw [HA.out]; simp; omega), rfl⟩
    · go_enter Tryd.func52, Tryd.ntmps52
      go_wp2
      go_ret
      exact ⟨ret_bool (by rw [HA.out]; simp; omega), rfl⟩
  · go_enter Tryd.func52, Tryd.ntmps52
    go_wp2
    go_ret
    exact ⟨ret_bool (by rw [HA.out]; simp; omega), rfl⟩
set_option maxHeartbeats 400000 in
theorem rangle_any (a : Int) (w : World) : Calls Tryd.prog 54 #[.int .i64 a] w fun e w' => e = .returned (.bool (Fx.ang a)) ∧ w = w' := by
  have HA : Hid (Fx.ang a = decide (-1099511627776 ≤ a ∧ a ≤ 1099511627776)) := rfl
  by_cases h1 : -1099511627776 ≤ a
  · by_cases h2 : a ≤ 1099511627776
    · go_enter Tryd.func54, Tryd.ntmps54
      go_wp2
      go_ret
      exact ⟨ret_bool (by rw [HA.out]; simp; omega), rfl⟩
    · go_enter Tryd.func54, Tryd.ntmps54
      go_wp2
      go_ret
      exact ⟨ret_bool (by rw [HA.out]; simp; omega), rfl⟩
  · go_enter Tryd.func54, Tryd.ntmps54
    go_wp2
    go_ret
    exact ⟨ret_bool (by rw [HA.out]; simp; omega), rfl⟩
end Go.Proofs.YtanhomngnickfaaDoor
