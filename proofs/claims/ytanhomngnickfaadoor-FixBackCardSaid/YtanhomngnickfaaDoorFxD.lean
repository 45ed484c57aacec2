/-
  Contracts of package fix and of the reference: series, sines, directions.
-/
-- LAW 02
import Derived.Test.YtanhomngnickfaaDoorFxB
namespace Go.Proofs.YtanhomngnickfaaDoor
open Go.RowKit

/-- What stands in a series' sum behind some rounds. -/
structure SerAt (f : Nat) (u n sum sign t T : Int) : Prop where
  u0 : 0 ≤ u
  uf : u < 2 ^ f
  n0 : 0 ≤ n
  nf : n + 2 * (f : Int) ≤ 100
  sg : sign = 1 ∨ sign = -1
  tot : sum + sign * Fx.ser f u n t = T
  b0 : -4294967296 ≤ sum - 2 * u
  b1 : sum + 2 * u ≤ 4294967296
theorem p2f (f : Nat) : (2 : Int) ^ (f + 1) = 2 * 2 ^ f := by rw [Int.pow_succ, Int.mul_comm]
theorem SerAt.zero {f : Nat} {n sum sign t T : Int} (h : SerAt f 0 n sum sign t T) : sum = T := by
  have := h.tot; rw [Fx.ser_zero] at this; omega
theorem SerAt.pos {f : Nat} {u n sum sign t T : Int} (h : SerAt f u n sum sign t T) (hu : u ≠ 0) : ∃ g, f = g + 1 := by
  cases f with
  | zero => have := h.u0; have := h.uf; simp at this; omega
  | succ g => exact ⟨g, rfl⟩
theorem SerAt.next {g : Nat} {u n sum sign t T : Int} (h : SerAt (g + 1) u n sum sign t T) (hu : u ≠ 0) (ht : 0 ≤ t) (ht1 : t ≤ 1073741824) : SerAt g (Fx.nx u n t) (n + 2) (sum + sign * u) (-sign) t T := by
  obtain ⟨a1, a2⟩ := Fx.nx_bd u n t h.u0 h.n0 ht ht1
  have b := h.uf
  have e := h.tot
  have c := h.nf
  have n0 := h.n0
  have b0 := h.b0
  have b1 := h.b1
  have u0 := h.u0
  rw [p2f] at b
  rw [Fx.ser, if_neg hu] at e
  refine ⟨a1, by omega, by omega, by omega, ?_, ?_, ?_, ?_⟩
  · rcases h.sg with rfl | rfl <;> simp
  · rw [← e]; rcases h.sg with rfl | rfl <;> omega
  · rcases h.sg with rfl | rfl <;> omega
  · rcases h.sg with rfl | rfl <;> omega

set_option maxHeartbeats 400000 in
theorem series_any (f : Nat) (u n t T : Int) (w : World) (hs : SerAt f u n 0 1 t T) (hu : u ≤ 1073741824) (ht : 0 ≤ t) (ht1 : t ≤ 1073741824) :
    Calls Tryd.prog 101 #[.int .i64 u, .int .i64 n, .int .i64 t] w fun e w' => e = .returned (.int .i64 ((T + 2) / 4)) ∧ w = w' := by
  have HS := Lib.hid hs
  clear hs
  go_enter Tryd.func101, Tryd.ntmps101
  go_wp2
  go_loop [0, 1, 7, 8] (fun vu vn vs vg => ∃ (f : Nat) (u n sum sign : Int), vu = .int .i64 u ∧ vn = .int .i64 n ∧ vs = .int .i64 sum ∧ vg = .int .i64 sign ∧ u ≤ 1073741824 ∧ Hid (SerAt f u n sum sign t T)) (fun vu _ _ _ => (intOf vu).toNat)
  case atStart => exact ⟨f, u, n, 0, 1, rfl, rfl, rfl, rfl, hu, HS⟩
  case round =>
    clear HS hu
    obtain ⟨f, u, n, sum, sign, rfl, rfl, rfl, rfl, hu, HS⟩ := hrel
    by_cases h : u = 0
    · subst h
      have e := Lib.hid HS.out.zero
      have b0 := HS.out.b0
      have b1 := HS.out.b1
      go_wp2
      go_ret
      exact ⟨ret_int (by rw [e.out]), rfl⟩
    · have hub : (u == 0) = false := by simpa using h
      have hub2 : (u != 0) = true := by simpa using h
      obtain ⟨g, rfl⟩ := HS.out.pos h
      have HN := Lib.hid (HS.out.next h ht ht1)
      have n0 := HS.out.n0
      have nf := HS.out.nf
      have u0 := HS.out.u0
      have b0 := HS.out.b0
      have b1 := HS.out.b1
      obtain ⟨p0, p1⟩ := Fx.mulT u t u0 ht ht1
      have p2 : u * t ≤ 1152921504606846976 := by
        have : u * t ≤ 1073741824 * 1073741824 := Int.mul_le_mul hu ht1 ht (by omega)
        omega
      have w1 : IntKind.i64.wrap (u * t) = u * t := IntWalk.i64_in _ (by omega)
      obtain ⟨p3, p4⟩ := p1
      obtain ⟨q0, q1⟩ := Fx.mulT (u * t / 1073741824) t p4 ht ht1
      have q2 : u * t / 1073741824 * t ≤ 1152921504606846976 := by
        have : u * t / 1073741824 * t ≤ 1073741824 * 1073741824 := Int.mul_le_mul (by omega) ht1 ht (by omega)
        omega
      have w2 : IntKind.i64.wrap (u * t / 1073741824 * t) = u * t / 1073741824 * t := IntWalk.i64_in _ (by omega)
      have d0 : 2 ≤ (n + 1) * (n + 2) := by
        have : 1 * 2 ≤ (n + 1) * (n + 2) := Int.mul_le_mul (by omega) (by omega) (by omega) (by omega)
        omega
      have d1 : (n + 1) * (n + 2) ≤ 101 * 102 := Int.mul_le_mul (by omega) (by omega) (by omega) (by omega)
      have w3 : IntKind.i64.wrap ((n + 1) * (n + 2)) = (n + 1) * (n + 2) := IntWalk.i64_in _ (by omega)
      have dz : ((n + 1) * (n + 2) == 0) = false := by simp; omega
      obtain ⟨x0, x1⟩ := Fx.nx_bd u n t u0 n0 ht ht1
      have eN : Hid (Fx.nx u n t = u * t / 1073741824 * t / 1073741824 / ((n + 1) * (n + 2))) := rfl
      have sg0 : sign * u = u ∨ sign * u = -u := by rcases HS.out.sg with rfl | rfl <;> simp
      have sg1 : -1 ≤ sign ∧ sign ≤ 1 := by rcases HS.out.sg with rfl | rfl <;> simp
      obtain ⟨sg2, sg3⟩ := sg1
      have w4 : IntKind.i64.wrap (sign * u) = sign * u := IntWalk.i64_in _ (by omega)
      have sb0 : -1073741824 ≤ sign * u := by omega
      have sb1 : sign * u ≤ 1073741824 := by omega
      clear sg0 HS h
      go_wp2
      refine ⟨⟨g, _, _, _, _, rfl, rfl, rfl, rfl, by rw [← eN.out]; omega, by rw [← eN.out]; exact HN⟩, ?_⟩
      simp only [intOf]
      rw [← eN.out]
      have := hub
      simp at this
      omega

set_option maxHeartbeats 400000 in
theorem rseries_any (f : Nat) (u n t T : Int) (w : World) (hs : SerAt f u n 0 1 t T) (hu : u ≤ 1073741824) (ht : 0 ≤ t) (ht1 : t ≤ 1073741824) (hn : n ≤ 1) :
    Calls Tryd.prog 102 #[.int .i64 u, .int .i64 t, .int .i64 n] w fun e w' => e = .returned (.int .i64 ((T + 2) / 4)) ∧ w = w' := by
  have HS := Lib.hid hs
  have n0' := hs.n0
  clear hs
  go_enter Tryd.func102, Tryd.ntmps102
  go_wp2
  go_loop [0, 7, 8, 9] (fun vu vs vg vk => ∃ (f : Nat) (u k sum sign : Int), vu = .int .i64 u ∧ vs = .int .i64 sum ∧ vg = .int .i64 sign ∧ vk = .int .i64 k ∧ u ≤ 1073741824 ∧ 1 ≤ k ∧ Hid (SerAt f u (2 * k + n - 2) sum sign t T)) (fun vu _ _ _ => (intOf vu).toNat)
  case atStart => exact ⟨f, u, 1, 0, 1, rfl, rfl, rfl, rfl, hu, by omega, by rw [show 2 * 1 + n - 2 = n by omega]; exact HS⟩
  case round =>
    clear HS hu
    obtain ⟨f, u, k, sum, sign, rfl, rfl, rfl, rfl, hu, hk, HS⟩ := hrel
    by_cases h : u = 0
    · subst h
      have e := Lib.hid HS.out.zero
      have b0 := HS.out.b0
      have b1 := HS.out.b1
      go_wp2
      go_ret
      exact ⟨ret_int (by rw [e.out]), rfl⟩
    · have hub : (u == 0) = false := by simpa using h
      have hub2 : (u != 0) = true := by simpa using h
      obtain ⟨g, rfl⟩ := HS.out.pos h
      have HN := Lib.hid (HS.out.next h ht ht1)
      have n0 := HS.out.n0
      have nf := HS.out.nf
      have u0 := HS.out.u0
      have b0 := HS.out.b0
      have b1 := HS.out.b1
      obtain ⟨p0, p1⟩ := Fx.mulT u t u0 ht ht1
      have p2 : u * t ≤ 1152921504606846976 := by
        have : u * t ≤ 1073741824 * 1073741824 := Int.mul_le_mul hu ht1 ht (by omega)
        omega
      have w1 : IntKind.i64.wrap (u * t) = u * t := IntWalk.i64_in _ (by omega)
      obtain ⟨p3, p4⟩ := p1
      obtain ⟨q0, q1⟩ := Fx.mulT (u * t / 1073741824) t p4 ht ht1
      have q2 : u * t / 1073741824 * t ≤ 1152921504606846976 := by
        have : u * t / 1073741824 * t ≤ 1073741824 * 1073741824 := Int.mul_le_mul (by omega) ht1 ht (by omega)
        omega
      have w2 : IntKind.i64.wrap (u * t / 1073741824 * t) = u * t / 1073741824 * t := IntWalk.i64_in _ (by omega)
      have kb : k ≤ 51 := by omega
      have d0 : 2 ≤ (2 * k + n - 1) * (2 * k + n) := by
        have : 1 * 2 ≤ (2 * k + n - 1) * (2 * k + n) := Int.mul_le_mul (by omega) (by omega) (by omega) (by omega)
        omega
      have d1 : (2 * k + n - 1) * (2 * k + n) ≤ 102 * 103 := Int.mul_le_mul (by omega) (by omega) (by omega) (by omega)
      have w3 : IntKind.i64.wrap ((2 * k + n - 1) * (2 * k + n)) = (2 * k + n - 1) * (2 * k + n) := IntWalk.i64_in _ (by omega)
      have dz : ((2 * k + n - 1) * (2 * k + n) == 0) = false := by simp; omega
      obtain ⟨x0, x1⟩ := Fx.nx_bd u (2 * k + n - 2) t u0 n0 ht ht1
      have eN : Hid (Fx.nx u (2 * k + n - 2) t = u * t / 1073741824 * t / 1073741824 / ((2 * k + n - 1) * (2 * k + n))) := by
        show Fx.nx u (2 * k + n - 2) t = _
        unfold Fx.nx
        rw [show 2 * k + n - 2 + 1 = 2 * k + n - 1 by omega, show 2 * k + n - 2 + 2 = 2 * k + n by omega]
      have sg0 : sign * u = u ∨ sign * u = -u := by rcases HS.out.sg with rfl | rfl <;> simp
      have sg1 : -1 ≤ sign ∧ sign ≤ 1 := by rcases HS.out.sg with rfl | rfl <;> simp
      obtain ⟨sg2, sg3⟩ := sg1
      have w4 : IntKind.i64.wrap (sign * u) = sign * u := IntWalk.i64_in _ (by omega)
      have sb0 : -1073741824 ≤ sign * u := by omega
      have sb1 : sign * u ≤ 1073741824 := by omega
      clear sg0 HS h
      go_wp2
      refine ⟨⟨g, _, k + 1, _, _, rfl, rfl, rfl, rfl, by rw [← eN.out]; omega, by omega, by rw [← eN.out, show 2 * (k + 1) + n - 2 = 2 * k + n - 2 + 2 by omega]; exact HN⟩, ?_⟩
      simp only [intOf]
      rw [← eN.out]
      have := hub
      simp at this
      omega

theorem serS (t : Int) (h0 : 0 ≤ t) (h1 : t ≤ 843314857) : SerAt 31 t 1 0 1 t (Fx.ser 31 t 1 t) :=
  ⟨h0, by simp only [Int.reducePow]; omega, by omega, by omega, .inl rfl, by omega, by omega, by omega⟩
theorem serC (t : Int) : SerAt 31 1073741824 0 0 1 t (Fx.ser 31 1073741824 0 t) :=
  ⟨by omega, by simp only [Int.reducePow]; omega, by omega, by omega, .inl rfl, by omega, by omega, by omega⟩

set_option maxHeartbeats 400000 in
theorem quarter_lo (r : Int) (w : World) (h0 : 0 ≤ r) (h1 : r ≤ 47185920) :
    Calls Tryd.prog 85 #[.int .i64 r] w fun e w' => e = .returned (.tuple #[.int .i64 (Fx.qS r), .int .i64 (Fx.qC r)]) ∧ w = w' := by
  have HQ : Hid (Fx.qS r = (Fx.ser 31 (Fx.tt r) 1 (Fx.tt r) + 2) / 4 ∧ Fx.qC r = (Fx.ser 31 1073741824 0 (Fx.tt r) + 2) / 4) := by
    refine ⟨?_, ?_⟩
    · rw [Fx.qS, if_neg (by omega)]; rfl
    · rw [Fx.qC, if_neg (by omega)]; rfl
  obtain ⟨t0, t1⟩ := Fx.tt_bd r h0 h1
  have et : (76760392275 * r + 2147483648) / 4294967296 = Fx.tt r := rfl
  go_enter Tryd.func85, Tryd.ntmps85
  go_wp2_with fail
  refine (series_any 31 (Fx.tt r) 1 (Fx.tt r) _ _ (serS _ t0 t1) (by omega) t0 (by omega)).mono ?_; rintro e w1 ⟨rfl, rfl⟩
  go_wp2_with fail
  refine (series_any 31 1073741824 0 (Fx.tt r) _ _ (serC _) (by omega) t0 (by omega)).mono ?_; rintro e w1 ⟨rfl, rfl⟩
  go_wp2_with fail
  go_ret2
  exact ⟨ret_two HQ.out.1.symm HQ.out.2.symm, rfl⟩

set_option maxHeartbeats 400000 in
theorem quarter_any (r : Int) (w : World) (h0 : 0 ≤ r) (h1 : r ≤ 94371840) :
    Calls Tryd.prog 85 #[.int .i64 r] w fun e w' => e = .returned (.tuple #[.int .i64 (Fx.qS r), .int .i64 (Fx.qC r)]) ∧ w = w' := by
  by_cases h : 47185920 < r
  · have HQ : Hid (Fx.qS r = Fx.qC (94371840 - r) ∧ Fx.qC r = Fx.qS (94371840 - r)) := by
      refine ⟨?_, ?_⟩
      · rw [Fx.qS, if_pos h, Fx.qC, if_neg (by omega)]
      · rw [Fx.qC, if_pos h, Fx.qS, if_neg (by omega)]
    go_enter Tryd.func85, Tryd.ntmps85
    go_wp2_with fail
    refine (quarter_lo (94371840 - r) _ (by omega) (by omega)).mono ?_; rintro e w1 ⟨rfl, rfl⟩
    go_wp2_with fail
    go_ret2
    exact ⟨ret_two HQ.out.1.symm HQ.out.2.symm, rfl⟩
  · exact quarter_lo r w h0 (by omega)

set_option maxHeartbeats 400000 in
theorem low_any (r : Int) (w : World) (h0 : 0 ≤ r) (h1 : r ≤ 47185920) :
    Calls Tryd.prog 86 #[.int .i64 r] w fun e w' => e = .returned (.tuple #[.int .i64 (Fx.qS r), .int .i64 (Fx.qC r)]) ∧ w = w' := by
  have HQ : Hid (Fx.qS r = (Fx.ser 31 (Fx.tt r) 1 (Fx.tt r) + 2) / 4 ∧ Fx.qC r = (Fx.ser 31 1073741824 0 (Fx.tt r) + 2) / 4) := by
    refine ⟨?_, ?_⟩
    · rw [Fx.qS, if_neg (by omega)]; rfl
    · rw [Fx.qC, if_neg (by omega)]; rfl
  obtain ⟨t0, t1⟩ := Fx.tt_bd r h0 h1
  have et : (76760392275 * r + 2147483648) / 4294967296 = Fx.tt r := rfl
  go_enter Tryd.func86, Tryd.ntmps86
  go_wp2_with fail
  refine (rseries_any 31 (Fx.tt r) 1 (Fx.tt r) _ _ (serS _ t0 t1) (by omega) t0 (by omega) (by omega)).mono ?_; rintro e w1 ⟨rfl, rfl⟩
  go_wp2_with fail
  refine (rseries_any 31 1073741824 0 (Fx.tt r) _ _ (serC _) (by omega) t0 (by omega) (by omega)).mono ?_; rintro e w1 ⟨rfl, rfl⟩
  go_wp2_with fail
  go_ret2
  exact ⟨ret_two HQ.out.1.symm HQ.out.2.symm, rfl⟩
end Go.Proofs.YtanhomngnickfaaDoor
