/-
  Contracts: math/bits.Div64, where the upper word is not 0 (Knuth's two digits); the mathematics of it.
-/
-- LAW 01
import Derived.Test.YtmcpbnkmccngpaaDoorShelf
import Derived.Test.YtmcpbnkmccngpaaDoorNum1
import Derived.Lib.ItoaNum
import Derived.Deep.DeepCutAuto
import Derived.Deep.CutBlock
import Derived.Laws.ShiftsVarLaws
namespace Go.Proofs.YtmcpbnkmccngpaaDoor
open Go.RowKit
namespace Nm
/-- The estimate of a digit: what holds of it while it is corrected. -/
structure Est (y1 y0 u u1 q r : Int) : Prop where
  eq : q * y1 + r = u
  r0 : 0 ≤ r
  up : u * 4294967296 + u1 < (q + 1) * (y1 * 4294967296 + y0)
  q0 : 0 ≤ q
  q1 : q ≤ 4294967297
theorem est_first {y1 y0 u u1 : Int} (a : 2147483648 ≤ y1) (c : 0 ≤ y0) (d : y0 < 4294967296) (e : 0 ≤ u) (f : u < y1 * 4294967296 + y0) (h : u1 < 4294967296) :
    Est y1 y0 u u1 (u / y1) (u - u / y1 * y1) := by
  have g1 : u / y1 * y1 ≤ u := Int.ediv_mul_le u (by omega)
  have g2 : u < (u / y1 + 1) * y1 := Int.lt_ediv_add_one_mul_self u (by omega)
  have g0 : 0 ≤ u / y1 := Int.ediv_nonneg e (by omega)
  generalize u / y1 = q at *
  refine ⟨by omega, by omega, ?_, g0, ?_⟩
  · have : (q + 1) * (y1 * 4294967296 + y0) = (q + 1) * y1 * 4294967296 + (q + 1) * y0 := by rw [Int.mul_add, Int.mul_assoc]
    have : 0 ≤ (q + 1) * y0 := Int.mul_nonneg (by omega) c
    omega
  · rcases Int.lt_or_le 4294967297 q with b | b
    · have : 4294967298 * y1 ≤ q * y1 := Int.mul_le_mul_of_nonneg_right (by omega) (by omega)
      omega
    · exact b
theorem est_next {y1 y0 u u1 q r : Int} (i : Est y1 y0 u u1 q r) (a : 2147483648 ≤ y1) (d0 : 0 ≤ y0) (f : u < y1 * 4294967296 + y0) (h0 : 0 ≤ u1) (h : u1 < 4294967296)
    (t : 4294967296 ≤ q ∨ 4294967296 * r + u1 < q * y0) : Est y1 y0 u u1 (q - 1) (r + y1) := by
  obtain ⟨eq, r0, up, q0, q1⟩ := i
  have e1 : (q - 1 + 1) * (y1 * 4294967296 + y0) = q * y1 * 4294967296 + q * y0 := by rw [show q - 1 + 1 = q by omega, Int.mul_add, Int.mul_assoc]
  have e2 : (q - 1) * y1 = q * y1 - y1 := by rw [Int.sub_mul, Int.one_mul]
  refine ⟨by omega, by omega, ?_, ?_, by omega⟩
  · rw [e1]
    rcases t with t | t
    · have : 4294967296 * (y1 * 4294967296 + y0) ≤ q * (y1 * 4294967296 + y0) := Int.mul_le_mul_of_nonneg_right t (by omega)
      have : q * (y1 * 4294967296 + y0) = q * y1 * 4294967296 + q * y0 := by rw [Int.mul_add, Int.mul_assoc]
      omega
    · omega
  · rcases t with t | t
    · omega
    · rcases Int.lt_or_le 0 q with b | b
      · omega
      · have : q = 0 := by omega
        subst this; omega
/-- The corrected digit is the quotient's. -/
theorem est_last {y1 y0 u u1 q r : Int} (i : Est y1 y0 u u1 q r) (a : 2147483648 ≤ y1) (d0 : 0 ≤ y0) (d : y0 < 4294967296) (f : u < y1 * 4294967296 + y0) (h0 : 0 ≤ u1)
    (t : q < 4294967296 ∧ q * y0 ≤ 4294967296 * r + u1 ∨ 4294967296 ≤ r) :
    q < 4294967296 ∧ q * (y1 * 4294967296 + y0) ≤ u * 4294967296 + u1 ∧ u * 4294967296 + u1 < (q + 1) * (y1 * 4294967296 + y0) := by
  obtain ⟨eq, r0, up, q0, q1⟩ := i
  have e : q * (y1 * 4294967296 + y0) = q * y1 * 4294967296 + q * y0 := by rw [Int.mul_add, Int.mul_assoc]
  have key : q < 4294967296 ∧ q * y0 ≤ 4294967296 * r + u1 := by
    rcases t with t | t
    · exact t
    · have hq : q < 4294967296 := by
        rcases Int.lt_or_le q 4294967296 with b | b
        · exact b
        · have : 4294967296 * y1 ≤ q * y1 := Int.mul_le_mul_of_nonneg_right b (by omega)
          omega
      have : q * y0 ≤ 4294967296 * y0 := Int.mul_le_mul_of_nonneg_right (by omega) d0
      exact ⟨hq, by omega⟩
  refine ⟨key.1, ?_, up⟩
  rw [e]; omega
/-- The two digits together, and what is left. -/
theorem div_two {hi lo y S u32 u1 u0 Y q1 q0 u21 : Int} (hS : 0 < S) (hY : Y = y * S) (hU : u32 * 18446744073709551616 + u1 * 4294967296 + u0 = (hi * 18446744073709551616 + lo) * S)
    (h1 : u21 = u32 * 4294967296 + u1 - q1 * Y) (h2 : q0 * Y ≤ u21 * 4294967296 + u0) (h3 : u21 * 4294967296 + u0 < (q0 + 1) * Y) (hy : 0 < y) :
    (hi * 18446744073709551616 + lo) / y = q1 * 4294967296 + q0 := by
  have e1 : (hi * 18446744073709551616 + lo) * S = (q1 * 4294967296 + q0) * Y + (u21 * 4294967296 + u0 - q0 * Y) := by
    rw [← hU, Int.add_mul, h1]
    have : q1 * 4294967296 * Y = q1 * Y * 4294967296 := by rw [Int.mul_assoc, Int.mul_comm 4294967296, ← Int.mul_assoc]
    omega
  have e2 : (q0 + 1) * Y = q0 * Y + Y := by rw [Int.add_mul, Int.one_mul]
  have r0 : 0 ≤ u21 * 4294967296 + u0 - q0 * Y := by omega
  have r1 : u21 * 4294967296 + u0 - q0 * Y < Y := by omega
  generalize hi * 18446744073709551616 + lo = N at *
  generalize q1 * 4294967296 + q0 = Q at *
  generalize u21 * 4294967296 + u0 - q0 * Y = R at *
  have l1 : Q * y ≤ N := by
    have : (Q * y) * S ≤ N * S := by rw [Int.mul_assoc, ← hY]; omega
    exact Int.le_of_mul_le_mul_right this hS
  have l2 : N < (Q + 1) * y := by
    have : N * S < ((Q + 1) * y) * S := by rw [Int.mul_assoc, ← hY, Int.add_mul, Int.one_mul]; omega
    exact Int.lt_of_mul_lt_mul_right this (Int.le_of_lt hS)
  exact Int.le_antisymm (Int.le_of_lt_add_one (Int.ediv_lt_of_lt_mul hy l2)) ((Int.le_ediv_iff_mul_le hy).2 l1)
end Nm
namespace Nm
/-- The divisor, shifted up to the top. -/
theorem norm_top (y : Nat) (h0 : 1 ≤ y) (h1 : y < 18446744073709551616) :
    1 ≤ Go.Lib.bitLen y ∧ Go.Lib.bitLen y ≤ 64 ∧ 9223372036854775808 ≤ y * 2 ^ (64 - Go.Lib.bitLen y) ∧ y * 2 ^ (64 - Go.Lib.bitLen y) < 18446744073709551616 := by
  obtain ⟨a, b, c⟩ := Go.Lib.bitLenAux_bounds 64 y (by omega) (by omega)
  have d : Go.Lib.bitLen y ≤ 64 := Go.Lib.bitLen_le y 64 (by omega) (by omega)
  change 1 ≤ Go.Lib.bitLen y at a
  change 2 ^ (Go.Lib.bitLen y - 1) ≤ y at b
  change y < 2 ^ Go.Lib.bitLen y at c
  generalize Go.Lib.bitLen y = L at *
  have e1 : 2 ^ (L - 1) * 2 ^ (64 - L) = 9223372036854775808 := by rw [← Nat.pow_add, show L - 1 + (64 - L) = 63 by omega]
  have e2 : 2 ^ L * 2 ^ (64 - L) = 18446744073709551616 := by rw [← Nat.pow_add, show L + (64 - L) = 64 by omega]
  have p : 0 < 2 ^ (64 - L) := Nat.pos_of_ne_zero (by simp)
  refine ⟨a, d, ?_, ?_⟩
  · rw [← e1]; exact Nat.mul_le_mul_right _ b
  · rw [← e2]; exact Nat.mul_lt_mul_of_pos_right c p
/-- The two words, shifted up with it. -/
theorem norm_words (hi lo y s : Nat) (hs : s ≤ 64) (hlo : lo < 18446744073709551616) (h : hi < y) (hy : y * 2 ^ s < 18446744073709551616) :
    hi * 2 ^ s < 18446744073709551616 ∧ lo / 2 ^ (64 - s) < 2 ^ s ∧ (hi * 2 ^ s ||| lo / 2 ^ (64 - s)) = hi * 2 ^ s + lo / 2 ^ (64 - s)
      ∧ (hi * 2 ^ s + lo / 2 ^ (64 - s)) * 18446744073709551616 + lo * 2 ^ s % 18446744073709551616 = (hi * 18446744073709551616 + lo) * 2 ^ s
      ∧ hi * 2 ^ s + lo / 2 ^ (64 - s) < y * 2 ^ s := by
  have p : 0 < 2 ^ s := Nat.pos_of_ne_zero (by simp)
  have p2 : 0 < 2 ^ (64 - s) := Nat.pos_of_ne_zero (by simp)
  have e2 : 2 ^ (64 - s) * 2 ^ s = 18446744073709551616 := by rw [← Nat.pow_add, show 64 - s + s = 64 by omega]
  have a1 : hi * 2 ^ s + 2 ^ s ≤ y * 2 ^ s := by
    have := Nat.mul_le_mul_right (2 ^ s) (show hi + 1 ≤ y by omega)
    rwa [Nat.add_mul, Nat.one_mul] at this
  have a2 : lo / 2 ^ (64 - s) < 2 ^ s := by
    rw [Nat.div_lt_iff_lt_mul p2, Nat.mul_comm, e2]; exact hlo
  have a3 : lo * 2 ^ s / 18446744073709551616 = lo / 2 ^ (64 - s) := by
    rw [← e2]; exact Nat.mul_div_mul_right _ _ p
  have a4 := Nat.div_add_mod (lo * 2 ^ s) 18446744073709551616
  rw [a3] at a4
  refine ⟨by omega, a2, ?_, ?_, by omega⟩
  · rw [Nat.mul_comm hi, Nat.two_pow_add_eq_or_of_lt a2]
  · rw [Nat.add_mul, Nat.add_mul, Nat.mul_right_comm hi]
    omega
end Nm
theorem Nm.cast_words {U V hi lo S : Nat} (w4 : U * 18446744073709551616 + V = (hi * 18446744073709551616 + lo) * S) : (U : Int) * 18446744073709551616 + V = ((hi : Int) * 18446744073709551616 + lo) * S := by
  have e : ((hi * 18446744073709551616 + lo : Nat) : Int) = (hi : Int) * 18446744073709551616 + lo := by omega
  rw [← e, ← Int.natCast_mul, ← w4]
  omega
set_option maxHeartbeats 1000000 in
theorem div64_hi (hi lo y : Nat) (w : World) (h1 : 1 ≤ hi) (h : hi < y) (hy : y < 18446744073709551616) (hlo : lo < 18446744073709551616) :
    Calls Tryd.prog 75 #[.int .u64 hi, .int .u64 lo, .int .u64 y] w fun e w' => (∃ r : Int, e = .returned (.tuple #[.int .u64 (((hi * 18446744073709551616 + lo) / y : Nat) : Int), .int .u64 r])) ∧ w' = w := by
  have hz : ((y : Int) == 0) = false := by simp; omega
  have hz2 : ((hi : Int) == 0) = false := by simp; omega
  have hle : ¬ ((y : Int) ≤ (hi : Int)) := by omega
  have N := Nm.norm_top y (by omega) hy
  obtain ⟨n1, n2, n3, n4⟩ := N
  go_enter Tryd.func75, Tryd.ntmps75
  go_wp2_with fail
  refine (Tryd.bits_LeadingZeros64 _ _ (by omega) (by omega)).mono ?_; rintro e w' ⟨rfl, rfl⟩
  rw [Int.toNat_natCast]
  generalize Lib.bitLen y = L at *
  obtain ⟨s, hs⟩ : ∃ s : Nat, (s : Int) = 64 - (L : Int) := ⟨64 - L, by omega⟩
  rw [← hs]
  rw [show 64 - L = s by omega] at n3 n4
  have s0 : s ≤ 63 := by omega
  clear n1 n2 hs L
  have eY : IntKind.u64.wrap ((y : Int) * 2 ^ s) = ((y * 2 ^ s : Nat) : Int) := by
    rw [show (y : Int) * 2 ^ s = ((y * 2 ^ s : Nat) : Int) by simp]
    exact Mul64.wrapN _ n4
  obtain ⟨w1, w2, w3, w4, w5⟩ := Nm.norm_words hi lo y s (by omega) hlo h n4
  have eH : IntKind.u64.wrap ((hi : Int) * 2 ^ s) = ((hi * 2 ^ s : Nat) : Int) := by
    rw [show (hi : Int) * 2 ^ s = ((hi * 2 ^ s : Nat) : Int) by simp]
    exact Mul64.wrapN _ w1
  have eO : bits .or .u64 ((hi * 2 ^ s : Nat) : Int) ((lo : Int) / 2 ^ (64 - s)) = ((hi * 2 ^ s + lo / 2 ^ (64 - s) : Nat) : Int) := by
    rw [show (lo : Int) / 2 ^ (64 - s) = ((lo / 2 ^ (64 - s) : Nat) : Int) by simp, bits_or_u64_nat _ _ w1 (by omega), w3]
  have eL : IntKind.u64.wrap ((lo : Int) * 2 ^ s) = ((lo * 2 ^ s % 18446744073709551616 : Nat) : Int) := by
    rw [show (lo : Int) * 2 ^ s = ((lo * 2 ^ s : Nat) : Int) by simp]
    exact Mul64.wrapM _
  have vlt : lo * 2 ^ s % 18446744073709551616 < 18446744073709551616 := Nat.mod_lt _ (by decide)
  have E := Lib.hid eY
  have EH := Lib.hid eH
  have EO := Lib.hid eO
  have EL := Lib.hid eL
  have HS : Hid (0 < 2 ^ s) := Lib.hid (Nat.pos_of_ne_zero (by simp))
  clear eY eH eO eL w1 w2 w3
  go_upto_region 15 with fail
  rw [E.out, EH.out, EO.out, EL.out]
  clear E EH EO EL
  generalize hU : hi * 2 ^ s + lo / 2 ^ (64 - s) = U at *
  generalize hV : lo * 2 ^ s % 18446744073709551616 = V at *
  generalize hY : y * 2 ^ s = Y at *
  rw [show bits .and .u64 (Y : Int) 4294967295 = (Y : Int) % 4294967296 by rw [Mul64.maskN Y n4]; rfl, show bits .and .u64 (V : Int) 4294967295 = (V : Int) % 4294967296 by rw [Mul64.maskN V vlt]; rfl]
  obtain ⟨y1, hy1⟩ : ∃ a : Int, a = (Y : Int) / 4294967296 := ⟨_, rfl⟩
  obtain ⟨y0, hy0⟩ : ∃ a : Int, a = (Y : Int) % 4294967296 := ⟨_, rfl⟩
  obtain ⟨u1, hu1⟩ : ∃ a : Int, a = (V : Int) / 4294967296 := ⟨_, rfl⟩
  obtain ⟨u0, hu0⟩ : ∃ a : Int, a = (V : Int) % 4294967296 := ⟨_, rfl⟩
  rw [← hy1, ← hy0, ← hu1, ← hu0]
  have i1 : 2147483648 ≤ y1 := by omega
  have i2 : y1 < 4294967296 := by omega
  have i3 : 0 ≤ y0 := by omega
  have i4 : y0 < 4294967296 := by omega
  have eYY : (Y : Int) = y1 * 4294967296 + y0 := by omega
  have i5 : 0 ≤ u1 := by omega
  have i6 : u1 < 4294967296 := by omega
  have i7 : 0 ≤ u0 := by omega
  have i8 : u0 < 4294967296 := by omega
  have i9 : (U : Int) < y1 * 4294967296 + y0 := by omega
  have W4 := Lib.hid w4
  have EV : Hid ((V : Int) = u1 * 4294967296 + u0) := Lib.hid (by omega)
  have EY := Lib.hid eYY
  have HYS := Lib.hid hY
  have est := Nm.est_first i1 i3 i4 (show (0 : Int) ≤ (U : Int) by omega) i9 i6
  have d0 : (0 : Int) ≤ (U : Int) / y1 := Int.ediv_nonneg (by omega) (by omega)
  have d1 : (U : Int) / y1 ≤ (U : Int) := Int.ediv_le_self _ (by omega)
  have d2 : (U : Int) / y1 * y1 ≤ (U : Int) := Int.ediv_mul_le _ (by omega)
  have d3 : (0 : Int) ≤ (U : Int) / y1 * y1 := Int.mul_nonneg d0 (by omega)
  have d4 : (U : Int) - (U : Int) / y1 * y1 < y1 := by
    have := Int.lt_ediv_add_one_mul_self (U : Int) (show 0 < y1 by omega)
    rw [Int.add_mul, Int.one_mul] at this; omega
  clear hU hV hY hy1 hy0 hu1 hu0 w4 w5 eYY n3 n4 vlt
  have hq : IntKind.u64.wrap ((U : Int) / y1) = (U : Int) / y1 := IntWalk.u64_in _ (by omega)
  have hz3 : (y1 == 0) = false := by simp; omega
  have hm : IntKind.u64.wrap ((U : Int) / y1 * y1) = (U : Int) / y1 * y1 := IntWalk.u64_in _ (by omega)
  have hr : IntKind.u64.wrap ((U : Int) - (U : Int) / y1 * y1) = (U : Int) - (U : Int) / y1 * y1 := IntWalk.u64_in _ (by omega)
  have EST := Lib.hid est
  clear est
  go_upto_block 0 with fail
  go_cut [15, 16] (fun vq vr wx => ∃ q r : Int, vq = .int .u64 q ∧ vr = .int .u64 r ∧ q * (y1 * 4294967296 + y0) ≤ (U : Int) * 4294967296 + u1 ∧ (U : Int) * 4294967296 + u1 < (q + 1) * (y1 * 4294967296 + y0) ∧ 0 ≤ q ∧ q < 4294967296 ∧ wx = w')
  case first =>
    go_wp2_with fail
    go_loopw [15, 16] (fun vq vr wr => ∃ q r : Int, vq = .int .u64 q ∧ vr = .int .u64 r ∧ Hid (Nm.Est y1 y0 (U : Int) u1 q r) ∧ 0 ≤ q ∧ q ≤ 4294967297 ∧ 0 ≤ r ∧ r < 4294967296 ∧ wr = w') (fun vq _ _ => (intOf vq).toNat)
    case atStart => exact ⟨_, _, rfl, rfl, EST, by omega, EST.out.q1, by omega, by omega, rfl⟩
    case round =>
      clear EST
      obtain ⟨q, r, rfl, rfl, hE, q0, q1, r0, r1, rfl⟩ := hrel
      by_cases b : 4294967296 ≤ q
      · have E2 := Lib.hid (Nm.est_next hE.out i1 i3 i9 i5 i6 (Or.inl b))
        have hq1 : IntKind.u64.wrap (q - 1) = q - 1 := IntWalk.u64_in _ (by omega)
        have hr1 : IntKind.u64.wrap (r + y1) = r + y1 := IntWalk.u64_in _ (by omega)
        clear hE
        by_cases c : 4294967296 ≤ r + y1
        · go_wp2_with fail
          go_meet
          have L := Nm.est_last E2.out i1 i3 i4 i9 i5 (Or.inr c)
          exact ⟨_, _, rfl, rfl, L.2.1, L.2.2, by omega, L.1, rfl⟩
        · go_wp2_with fail
          refine ⟨⟨_, _, rfl, rfl, E2, by omega, by omega, by omega, by omega, by simp⟩, ?_⟩
          simp [intOf]; omega
      · have m0 : 0 ≤ q * y0 := Int.mul_nonneg q0 i3
        have m1 : q * y0 ≤ 4294967295 * y0 := Int.mul_le_mul_of_nonneg_right (by omega) i3
        have hm0 : IntKind.u64.wrap (q * y0) = q * y0 := IntWalk.u64_in _ (by omega)
        have hr2 : IntKind.u64.wrap (4294967296 * r) = 4294967296 * r := IntWalk.u64_in _ (by omega)
        have hr3 : IntKind.u64.wrap (4294967296 * r + u1) = 4294967296 * r + u1 := IntWalk.u64_in _ (by omega)
        clear m1
        by_cases t : 4294967296 * r + u1 < q * y0
        · have E2 := Lib.hid (Nm.est_next hE.out i1 i3 i9 i5 i6 (Or.inr t))
          have qp := E2.out.q0
          have hq1 : IntKind.u64.wrap (q - 1) = q - 1 := IntWalk.u64_in _ (by omega)
          have hr1 : IntKind.u64.wrap (r + y1) = r + y1 := IntWalk.u64_in _ (by omega)
          clear hE
          by_cases c : 4294967296 ≤ r + y1
          · go_wp2_with fail
            go_meet
            have L := Nm.est_last E2.out i1 i3 i4 i9 i5 (Or.inr c)
            exact ⟨_, _, rfl, rfl, L.2.1, L.2.2, by omega, L.1, rfl⟩
          · go_wp2_with fail
            refine ⟨⟨_, _, rfl, rfl, E2, by omega, by omega, by omega, by omega, by simp⟩, ?_⟩
            simp [intOf]; omega
        · have L := Lib.hid (Nm.est_last hE.out i1 i3 i4 i9 i5 (Or.inl ⟨by omega, by omega⟩))
          clear hE
          go_wp2_with fail
          go_meet
          exact ⟨_, _, rfl, rfl, L.out.2.1, L.out.2.2, by omega, L.out.1, rfl⟩
  case rest =>
    obtain ⟨q, r, rfl, rfl, g1, g2, g3, g4, rfl⟩ := hcut
    go_upto_region 22 with fail
    have g5 : q * (Y : Int) ≤ (U : Int) * 4294967296 + u1 := by rw [EY.out]; exact g1
    have g6 : (U : Int) * 4294967296 + u1 < q * (Y : Int) + (Y : Int) := by
      rw [EY.out]
      rwa [Int.add_mul, Int.one_mul] at g2
    have g7 : (0 : Int) ≤ q * (Y : Int) := Int.mul_nonneg g3 (by omega)
    have eY2 := EY.out
    have eU : IntKind.u64.wrap (IntKind.u64.wrap (IntKind.u64.wrap ((U : Int) * 4294967296) + u1) - IntKind.u64.wrap (q * (Y : Int))) = (U : Int) * 4294967296 + u1 - q * (Y : Int) := by
      simp only [IntKind.wrap_u64]; omega
    rw [eU]
    obtain ⟨R, hR⟩ : ∃ R : Int, R = (U : Int) * 4294967296 + u1 - q * (Y : Int) := ⟨_, rfl⟩
    rw [← hR]
    have R0 : 0 ≤ R := by omega
    have i10 : R < y1 * 4294967296 + y0 := by omega
    have HR := Lib.hid hR
    clear eU g1 g2 g5 g6 g7 hR eY2 EST d0 d1 d2 d3 d4 hq hm hr
    have est := Nm.est_first i1 i3 i4 R0 i10 i8
    have d0 : (0 : Int) ≤ R / y1 := Int.ediv_nonneg (by omega) (by omega)
    have d1 : R / y1 ≤ R := Int.ediv_le_self _ (by omega)
    have d2 : R / y1 * y1 ≤ R := Int.ediv_mul_le _ (by omega)
    have d3 : (0 : Int) ≤ R / y1 * y1 := Int.mul_nonneg d0 (by omega)
    have hq : IntKind.u64.wrap (R / y1) = R / y1 := IntWalk.u64_in _ (by omega)
    have hm : IntKind.u64.wrap (R / y1 * y1) = R / y1 * y1 := IntWalk.u64_in _ (by omega)
    have hr : IntKind.u64.wrap (R - R / y1 * y1) = R - R / y1 * y1 := IntWalk.u64_in _ (by omega)
    have d4 : R - R / y1 * y1 < y1 := by
      have := Int.lt_ediv_add_one_mul_self R (show 0 < y1 by omega)
      rw [Int.add_mul, Int.one_mul] at this; omega
    have EST2 := Lib.hid est
    clear est
    go_upto_block 2 with fail
    go_cut [18, 16] (fun vq vr wx => ∃ q' r' : Int, vq = .int .u64 q' ∧ vr = .int .u64 r' ∧ q' * (y1 * 4294967296 + y0) ≤ R * 4294967296 + u0 ∧ R * 4294967296 + u0 < (q' + 1) * (y1 * 4294967296 + y0) ∧ 0 ≤ q' ∧ q' < 4294967296 ∧ wx = wc)
    case first =>
      go_wp2_with fail
      go_loopw [18, 16] (fun vq vr wr => ∃ q' r' : Int, vq = .int .u64 q' ∧ vr = .int .u64 r' ∧ Hid (Nm.Est y1 y0 R u0 q' r') ∧ 0 ≤ q' ∧ q' ≤ 4294967297 ∧ 0 ≤ r' ∧ r' < 4294967296 ∧ wr = wc) (fun vq _ _ => (intOf vq).toNat)
      case atStart => exact ⟨_, _, rfl, rfl, EST2, by omega, EST2.out.q1, by omega, by omega, rfl⟩
      case round =>
        clear EST2
        obtain ⟨q', r', rfl, rfl, hE, q0, q1, r0, r1, rfl⟩ := hrel
        by_cases b : 4294967296 ≤ q'
        · have E2 := Lib.hid (Nm.est_next hE.out i1 i3 i10 i7 i8 (Or.inl b))
          have hq1 : IntKind.u64.wrap (q' - 1) = q' - 1 := IntWalk.u64_in _ (by omega)
          have hr1 : IntKind.u64.wrap (r' + y1) = r' + y1 := IntWalk.u64_in _ (by omega)
          clear hE
          by_cases c : 4294967296 ≤ r' + y1
          · go_wp2_with fail
            go_meet
            have L := Nm.est_last E2.out i1 i3 i4 i10 i7 (Or.inr c)
            exact ⟨_, _, rfl, rfl, L.2.1, L.2.2, by omega, L.1, rfl⟩
          · go_wp2_with fail
            refine ⟨⟨_, _, rfl, rfl, E2, by omega, by omega, by omega, by omega, by simp⟩, ?_⟩
            simp [intOf]; omega
        · have m0 : 0 ≤ q' * y0 := Int.mul_nonneg q0 i3
          have m1 : q' * y0 ≤ 4294967295 * y0 := Int.mul_le_mul_of_nonneg_right (by omega) i3
          have hm0 : IntKind.u64.wrap (q' * y0) = q' * y0 := IntWalk.u64_in _ (by omega)
          have hr2 : IntKind.u64.wrap (4294967296 * r') = 4294967296 * r' := IntWalk.u64_in _ (by omega)
          have hr3 : IntKind.u64.wrap (4294967296 * r' + u0) = 4294967296 * r' + u0 := IntWalk.u64_in _ (by omega)
          clear m1
          by_cases t : 4294967296 * r' + u0 < q' * y0
          · have E2 := Lib.hid (Nm.est_next hE.out i1 i3 i10 i7 i8 (Or.inr t))
            have qp := E2.out.q0
            have hq1 : IntKind.u64.wrap (q' - 1) = q' - 1 := IntWalk.u64_in _ (by omega)
            have hr1 : IntKind.u64.wrap (r' + y1) = r' + y1 := IntWalk.u64_in _ (by omega)
            clear hE
            by_cases c : 4294967296 ≤ r' + y1
            · go_wp2_with fail
              go_meet
              have L := Nm.est_last E2.out i1 i3 i4 i10 i7 (Or.inr c)
              exact ⟨_, _, rfl, rfl, L.2.1, L.2.2, by omega, L.1, rfl⟩
            · go_wp2_with fail
              refine ⟨⟨_, _, rfl, rfl, E2, by omega, by omega, by omega, by omega, by simp⟩, ?_⟩
              simp [intOf]; omega
          · have L := Lib.hid (Nm.est_last hE.out i1 i3 i4 i10 i7 (Or.inl ⟨by omega, by omega⟩))
            clear hE
            go_wp2_with fail
            go_meet
            exact ⟨_, _, rfl, rfl, L.out.2.1, L.out.2.2, by omega, L.out.1, rfl⟩
    case rest =>
      obtain ⟨q', r', rfl, rfl, g1, g2, g5, g6, rfl⟩ := hcut
      have e1 : IntKind.u64.wrap (IntKind.u64.wrap (q * 4294967296) + q') = q * 4294967296 + q' := by
        simp only [IntKind.wrap_u64]; omega
      have hd : (((hi * 18446744073709551616 + lo) / y : Nat) : Int) = q * 4294967296 + q' := by
        have w4 := W4.out
        have yS := HYS.out
        have hS := HS.out
        generalize 2 ^ s = S at w4 yS hS
        have c := Nm.div_two (hi := (hi : Int)) (lo := (lo : Int)) (y := (y : Int)) (S := (S : Int)) (u32 := (U : Int)) (u1 := u1) (u0 := u0) (Y := (Y : Int)) (q1 := q) (q0 := q') (u21 := R) (by omega) (by rw [← yS]; exact Int.natCast_mul _ _)
          (by
            have e := Nm.cast_words w4
            rw [← e, EV.out]
            omega)
          HR.out (by rw [EY.out]; exact g1) (by rw [EY.out]; exact g2) (by omega)
        rw [← c, Int.natCast_ediv]
        congr 1
      clear EST2 d0 d1 d2 d3 d4 hq hm hr
      go_wp2_with fail
      rw [← hd]
      go_ret2
      exact ⟨⟨_, rfl⟩, rfl⟩
#print axioms div64_hi
end Go.Proofs.YtmcpbnkmccngpaaDoor
