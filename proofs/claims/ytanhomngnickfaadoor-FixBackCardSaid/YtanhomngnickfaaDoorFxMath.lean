/-
  Plain mathematics of fixed numbers: rounding, roots, series, circles, arguments, as functions of integers. It imports nothing of the program.
-/
import Derived.Lib.Hide
namespace Go.Proofs.YtanhomngnickfaaDoor
namespace Fx

def fxd (n : Int) : Bool := decide (-2147483647 ≤ n ∧ n ≤ 2147483647)
theorem fxd_bd {n : Int} (h : fxd n = true) : -2147483647 ≤ n ∧ n ≤ 2147483647 := of_decide_eq_true h
/-- A quotient, rounded. -/
def rnd (a b : Int) : Int := (2 * a + b) / (2 * b)

theorem tdiv_neg' (a b : Int) (hb : 0 < b) (h : a.tmod b < 0) : a.tdiv b - 1 = a / b := by
  have h1 : a.tmod b + b * a.tdiv b = a := Int.tmod_add_mul_tdiv a b
  have h2 : (a.tmod b).natAbs < b.natAbs := by rw [Int.natAbs_tmod]; exact Nat.mod_lt _ (by omega)
  have h3 : (a.tmod b + b) + b * (a.tdiv b - 1) = a := by rw [Int.mul_sub]; omega
  exact ((Int.ediv_emod_unique hb).2 ⟨h3, by omega, by omega⟩).1.symm
theorem tdiv_nn' (a b : Int) (hb : 0 < b) (h : ¬ a.tmod b < 0) : a.tdiv b = a / b := by
  have h1 : a.tmod b + b * a.tdiv b = a := Int.tmod_add_mul_tdiv a b
  have h2 : (a.tmod b).natAbs < b.natAbs := by rw [Int.natAbs_tmod]; exact Nat.mod_lt _ (by omega)
  exact ((Int.ediv_emod_unique hb).2 ⟨h1, by omega, by omega⟩).1.symm
theorem td_bd (p q : Int) : (p.tdiv q).natAbs ≤ p.natAbs := Int.natAbs_tdiv_le_natAbs p q
theorem tm_lt (p q : Int) (hq : q ≠ 0) : (p.tmod q).natAbs < q.natAbs := by
  rw [Int.natAbs_tmod]; exact Nat.mod_lt _ (by omega)
theorem ediv_bd (p q : Int) (hq : 0 < q) : -(p.natAbs : Int) ≤ p / q ∧ p / q ≤ p.natAbs := by
  have h1 := Int.mul_ediv_add_emod p q
  have h2 := Int.emod_nonneg p (by omega : q ≠ 0)
  have h3 := Int.emod_lt_of_pos p hq
  constructor
  · by_cases h : 0 ≤ p
    · have := Int.ediv_nonneg h (by omega : 0 ≤ q); omega
    · have : p ≤ p / q := by
        rw [Int.le_ediv_iff_mul_le hq]
        have := Int.mul_le_mul_of_nonpos_left (a := p) (b := q) (c := 1) (by omega) (by omega)
        omega
      omega
  · by_cases h : 0 ≤ p
    · have := Int.ediv_le_self q h; omega
    · have : p / q < 0 := Int.ediv_neg_of_neg_of_pos (by omega) hq
      omega
/-- The floor, and one more if the rest is at least half: rounded. -/
theorem near_up (p q : Int) (hq : 0 < q) (h : q - (p - p / q * q) ≤ p - p / q * q) : p / q + 1 = rnd p q := by
  have h1 := Int.mul_ediv_add_emod p q
  have h3 := Int.emod_lt_of_pos p hq
  have h4 : p / q * q = q * (p / q) := Int.mul_comm _ _
  refine ((Int.ediv_emod_unique (by omega : 0 < 2 * q) (r := 2 * (p % q) - q)).2 ⟨?_, by omega, by omega⟩).1.symm
  rw [Int.mul_add, Int.mul_assoc]; omega
theorem near_dn (p q : Int) (hq : 0 < q) (h : ¬ q - (p - p / q * q) ≤ p - p / q * q) : p / q = rnd p q := by
  have h1 := Int.mul_ediv_add_emod p q
  have h2 := Int.emod_nonneg p (by omega : q ≠ 0)
  have h4 : p / q * q = q * (p / q) := Int.mul_comm _ _
  refine ((Int.ediv_emod_unique (by omega : 0 < 2 * q) (r := 2 * (p % q) + q)).2 ⟨?_, by omega, by omega⟩).1.symm
  rw [Int.mul_assoc]; omega
theorem rest_bd (p q : Int) (hq : 0 < q) : 0 ≤ p - p / q * q ∧ p - p / q * q < q := by
  have h1 := Int.mul_ediv_add_emod p q
  have h2 := Int.emod_nonneg p (by omega : q ≠ 0)
  have h3 := Int.emod_lt_of_pos p hq
  have h4 : p / q * q = q * (p / q) := Int.mul_comm _ _
  omega
theorem rnd_bd (p q : Int) (hq : 0 < q) : -(p.natAbs : Int) - 1 ≤ rnd p q ∧ rnd p q ≤ p.natAbs + 1 := by
  have := ediv_bd p q hq
  have h2 := rest_bd p q hq
  by_cases h : q - (p - p / q * q) ≤ p - p / q * q
  · rw [← near_up p q hq h]; omega
  · rw [← near_dn p q hq h]; omega
theorem rnd_mul (n q : Int) (hq : 0 < q) : rnd (n * q) q = n := by
  refine ((Int.ediv_emod_unique (by omega : 0 < 2 * q) (r := q)).2 ⟨?_, by omega, by omega⟩).1
  rw [Int.mul_comm n q, Int.mul_assoc]; omega
/-- r is p / q, rounded, exactly if 2 p + q lies from 2 q r up to one less than 2 q more. -/
theorem rnd_iff (p q r : Int) (hq : 0 < q) : rnd p q = r ↔ 2 * (q * r) ≤ 2 * p + q ∧ 2 * p + q < 2 * (q * r) + 2 * q := by
  have h1 := Int.mul_ediv_add_emod (2 * p + q) (2 * q)
  have h2 := Int.emod_nonneg (2 * p + q) (by omega : 2 * q ≠ 0)
  have h3 := Int.emod_lt_of_pos (2 * p + q) (by omega : 0 < 2 * q)
  constructor
  · intro h
    unfold rnd at h
    rw [h, Int.mul_assoc] at h1
    omega
  · intro ⟨a, b⟩
    refine ((Int.ediv_emod_unique (by omega : 0 < 2 * q) (r := 2 * p + q - 2 * (q * r))).2 ⟨?_, by omega, by omega⟩).1
    rw [Int.mul_assoc]; omega

/-- Square roots, bit by bit: what stands after k bits. -/
def rtF (n : Int) : Nat → Int
  | 0 => 0
  | k + 1 => if (rtF n k + 2 ^ (31 - k)) * (rtF n k + 2 ^ (31 - k)) ≤ n then rtF n k + 2 ^ (31 - k) else rtF n k
theorem p2 (k : Nat) : (1 : Int) ≤ 2 ^ k := by
  have := Nat.one_le_two_pow (n := k)
  have h : ((2 ^ k : Nat) : Int) = 2 ^ k := by rw [Int.natCast_pow]; rfl
  omega
theorem p2s (k : Nat) (h : k < 32) : (2 : Int) ^ (32 - k) = 2 * 2 ^ (31 - k) := by
  rw [show 32 - k = (31 - k) + 1 by omega, Int.pow_succ, Int.mul_comm]
theorem p2le (k : Nat) (h : k ≤ 31) : (2 : Int) ^ k ≤ 2147483648 := by
  have := Nat.pow_le_pow_right (n := 2) (by omega) h
  have h : ((2 ^ k : Nat) : Int) = 2 ^ k := by rw [Int.natCast_pow]; rfl
  have h2 : (2 : Nat) ^ 31 = 2147483648 := by decide
  omega
theorem sq_lt {a b : Int} (ha : 0 ≤ a) (hb : 0 ≤ b) (h : a < b) : a * a < b * b := by
  have h1 : a * a ≤ a * b := Int.mul_le_mul_of_nonneg_left (by omega) ha
  have h2 : a * b < b * b := Int.mul_lt_mul_of_pos_right h (by omega)
  omega
theorem sq_le {a b : Int} (ha : 0 ≤ a) (h : a ≤ b) : a * a ≤ b * b :=
  Int.mul_le_mul h h ha (by omega)
theorem lt_of_sq {a b : Int} (hb : 0 ≤ b) (h : a * a < b * b) : a < b := by
  by_cases h' : a < b
  · exact h'
  · have := sq_le hb (by omega : b ≤ a); omega
theorem rtF_inv (n : Int) (h0 : 0 ≤ n) (h1 : n ≤ 9223372036854775807) : ∀ k : Nat, k ≤ 32 → 0 ≤ rtF n k ∧ rtF n k + 2 ^ (32 - k) ≤ 4294967296 ∧ rtF n k * rtF n k ≤ n ∧ n < (rtF n k + 2 ^ (32 - k)) * (rtF n k + 2 ^ (32 - k))
  | 0, _ => by simp only [rtF]; refine ⟨by omega, ?_, by omega, ?_⟩ <;> simp <;> omega
  | k + 1, hk => by
    obtain ⟨a1, a2, a3, a4⟩ := rtF_inv n h0 h1 k (by omega)
    rw [p2s k (by omega)] at a2 a4
    have hp := p2 (31 - k)
    rw [show 32 - (k + 1) = 31 - k by omega]
    simp only [rtF]
    generalize (2 : Int) ^ (31 - k) = p at *
    split
    · refine ⟨by omega, by omega, by assumption, ?_⟩
      rw [show rtF n k + p + p = rtF n k + 2 * p by omega]; exact a4
    · refine ⟨by omega, by omega, a3, by omega⟩
def rt (n : Int) : Int := rtF n 32
theorem rt_spec (n : Int) (h0 : 0 ≤ n) (h1 : n ≤ 9223372036854775807) : 0 ≤ rt n ∧ rt n ≤ 3037000499 ∧ rt n * rt n ≤ n ∧ n < (rt n + 1) * (rt n + 1) := by
  obtain ⟨a1, a2, a3, a4⟩ := rtF_inv n h0 h1 32 (by omega)
  refine ⟨a1, ?_, a3, a4⟩
  have : rt n < 3037000500 := lt_of_sq (by omega) (by show rtF n 32 * rtF n 32 < _; omega)
  omega
/-- The square root, rounded. -/
def rtd (n : Int) : Int := if rt n < n - rt n * rt n then rt n + 1 else rt n

/-- The next term of a series. -/
def nx (u n t : Int) : Int := u * t / 1073741824 * t / 1073741824 / ((n + 1) * (n + 2))
/-- The alternating sum of a series' terms, at most f of them. -/
def ser : Nat → Int → Int → Int → Int
  | 0, _, _, _ => 0
  | f + 1, u, n, t => if u = 0 then 0 else u - ser f (nx u n t) (n + 2) t
theorem mulT (u t : Int) (hu : 0 ≤ u) (ht : 0 ≤ t) (ht1 : t ≤ 1073741824) : 0 ≤ u * t ∧ u * t / 1073741824 ≤ u ∧ 0 ≤ u * t / 1073741824 := by
  have h1 : u * t ≤ u * 1073741824 := Int.mul_le_mul_of_nonneg_left ht1 hu
  have h2 : 0 ≤ u * t := Int.mul_nonneg hu ht
  omega
theorem nx_bd (u n t : Int) (hu : 0 ≤ u) (hn : 0 ≤ n) (ht : 0 ≤ t) (ht1 : t ≤ 1073741824) : 0 ≤ nx u n t ∧ 2 * nx u n t ≤ u := by
  obtain ⟨a1, a2, a3⟩ := mulT u t hu ht ht1
  obtain ⟨b1, b2, b3⟩ := mulT (u * t / 1073741824) t a3 ht ht1
  unfold nx
  generalize u * t / 1073741824 * t / 1073741824 = v at *
  have hd : 2 ≤ (n + 1) * (n + 2) := by
    have : 1 * 2 ≤ (n + 1) * (n + 2) := Int.mul_le_mul (by omega) (by omega) (by omega) (by omega)
    omega
  generalize (n + 1) * (n + 2) = d at *
  have h1 := Int.ediv_nonneg b3 (by omega : 0 ≤ d)
  refine ⟨h1, ?_⟩
  have h2 := Int.mul_ediv_add_emod v d
  have h3 := Int.emod_nonneg v (by omega : d ≠ 0)
  have h4 : 2 * (v / d) ≤ d * (v / d) := Int.mul_le_mul_of_nonneg_right hd h1
  omega
theorem ser_zero (f : Nat) (n t : Int) : ser f 0 n t = 0 := by cases f <;> simp [ser]
theorem ser_bd : ∀ (f : Nat) (u n t : Int), 0 ≤ u → 0 ≤ n → 0 ≤ t → t ≤ 1073741824 → 0 ≤ ser f u n t ∧ ser f u n t ≤ u
  | 0, u, n, t, hu, _, _, _ => by simp [ser]; omega
  | f + 1, u, n, t, hu, hn, ht, ht1 => by
    have hb := nx_bd u n t hu hn ht ht1
    have ih := ser_bd f (nx u n t) (n + 2) t hb.1 (by omega) ht ht1
    rw [ser]
    split <;> omega

def tt (r : Int) : Int := (76760392275 * r + 2147483648) / 4294967296
theorem tt_bd (r : Int) (h0 : 0 ≤ r) (h1 : r ≤ 47185920) : 0 ≤ tt r ∧ tt r ≤ 843314857 := by unfold tt; omega
def sinq (t : Int) : Int := (ser 31 t 1 t + 2) / 4
def cosq (t : Int) : Int := (ser 31 1073741824 0 t + 2) / 4
/-- The sine and the cosine of an angle from 0 to 90 degrees. -/
def qS (r : Int) : Int := if 47185920 < r then cosq (tt (94371840 - r)) else sinq (tt r)
def qC (r : Int) : Int := if 47185920 < r then sinq (tt (94371840 - r)) else cosq (tt r)
theorem sinq_bd (t : Int) (h0 : 0 ≤ t) (h1 : t ≤ 1073741824) : 0 ≤ sinq t ∧ sinq t ≤ 268435456 := by
  have := ser_bd 31 t 1 t h0 (by omega) h0 h1
  unfold sinq; omega
theorem cosq_bd (t : Int) (h0 : 0 ≤ t) (h1 : t ≤ 1073741824) : 0 ≤ cosq t ∧ cosq t ≤ 268435456 := by
  have := ser_bd 31 1073741824 0 t (by omega) (by omega) h0 h1
  unfold cosq; omega
theorem q_bd (r : Int) (h0 : 0 ≤ r) (h1 : r ≤ 94371840) : 0 ≤ qS r ∧ qS r ≤ 268435456 ∧ 0 ≤ qC r ∧ qC r ≤ 268435456 := by
  unfold qS qC
  split
  · have h := tt_bd (94371840 - r) (by omega) (by omega)
    have h2 := sinq_bd (tt (94371840 - r)) (by omega) (by omega)
    have h3 := cosq_bd (tt (94371840 - r)) (by omega) (by omega)
    omega
  · have h := tt_bd r (by omega) (by omega)
    have h2 := sinq_bd (tt r) (by omega) (by omega)
    have h3 := cosq_bd (tt r) (by omega) (by omega)
    omega
/-- Quarter turns. -/
def roS (s c : Int) : Nat → Int
  | 0 => s
  | 1 => c
  | k + 2 => - roS s c k
def roC (s c : Int) (k : Nat) : Int := roS s c (k + 1)
theorem roS_bd (s c : Int) (hs0 : -268435456 ≤ s) (hs : s ≤ 268435456) (hc0 : -268435456 ≤ c) (hc : c ≤ 268435456) : ∀ k, -268435456 ≤ roS s c k ∧ roS s c k ≤ 268435456
  | 0 => by simp only [roS]; omega
  | 1 => by simp only [roS]; omega
  | k + 2 => by have := roS_bd s c hs0 hs hc0 hc k; simp only [roS]; omega
def cS (a : Int) : Int := roS (qS (a % 377487360 % 94371840)) (qC (a % 377487360 % 94371840)) (a % 377487360 / 94371840).toNat
def cC (a : Int) : Int := roS (qS (a % 377487360 % 94371840)) (qC (a % 377487360 % 94371840)) ((a % 377487360 / 94371840).toNat + 1)
theorem c_bd (a : Int) : -268435456 ≤ cS a ∧ cS a ≤ 268435456 ∧ -268435456 ≤ cC a ∧ cC a ≤ 268435456 := by
  have h := q_bd (a % 377487360 % 94371840) (by omega) (by omega)
  have h1 := roS_bd (qS (a % 377487360 % 94371840)) (qC (a % 377487360 % 94371840)) (by omega) (by omega) (by omega) (by omega) (a % 377487360 / 94371840).toNat
  have h2 := roS_bd (qS (a % 377487360 % 94371840)) (qC (a % 377487360 % 94371840)) (by omega) (by omega) (by omega) (by omega) ((a % 377487360 / 94371840).toNat + 1)
  unfold cS cC; omega
def ang (a : Int) : Bool := decide (-1099511627776 ≤ a ∧ a ≤ 1099511627776)
theorem prod_bd (x y B C : Int) (hx0 : -B ≤ x) (hx : x ≤ B) (hy0 : -C ≤ y) (hy : y ≤ C) : -(B * C) ≤ x * y ∧ x * y ≤ B * C := by
  have h : (x * y).natAbs ≤ B.natAbs * C.natAbs := by
    rw [Int.natAbs_mul]
    exact Nat.mul_le_mul (by omega) (by omega)
  rw [← Int.natAbs_mul] at h
  have hBC : 0 ≤ B * C := Int.mul_nonneg (by omega) (by omega)
  omega

/-- The argument of (X, Y), bit by bit: what stands after k bits. -/
def agF (X Y : Int) : Nat → Int
  | 0 => 0
  | k + 1 => if 47185920 < agF X Y k + 2 ^ (25 - k) then agF X Y k else if qS (agF X Y k + 2 ^ (25 - k)) * X ≤ qC (agF X Y k + 2 ^ (25 - k)) * Y then agF X Y k + 2 ^ (25 - k) else agF X Y k
theorem agF_bd (X Y : Int) : ∀ k, 0 ≤ agF X Y k ∧ agF X Y k ≤ 47185920
  | 0 => by simp [agF]
  | k + 1 => by
    have h := agF_bd X Y k
    have := p2 (25 - k)
    rw [agF]
    split
    · exact h
    · split <;> omega
def ag (X Y : Int) : Int := if X = Y then 47185920 else agF X Y 26
theorem ag_bd (X Y : Int) : 0 ≤ ag X Y ∧ ag X Y ≤ 47185920 := by
  have := agF_bd X Y 26
  unfold ag; split <;> omega
def mx (x y : Int) : Int := if x < y then y else x
def mn (x y : Int) : Int := if x < y then x else y
theorem abs_mx (a : Int) : mx a (-a) = (a.natAbs : Int) := by unfold mx; split <;> omega
theorem sq_abs (a : Int) : a * a = (a.natAbs : Int) * (a.natAbs : Int) := (Int.natAbs_mul_self' a).symm
/-- A vector's length is at least the greater one of its sides, and at most their sum. -/
theorem hyp_bd (a b : Int) (h : a * a + b * b ≤ 9223372036854775807) : (a.natAbs : Int) ≤ rtd (a * a + b * b) ∧ (b.natAbs : Int) ≤ rtd (a * a + b * b) ∧ rtd (a * a + b * b) ≤ a.natAbs + b.natAbs := by
  rw [sq_abs a, sq_abs b] at *
  have hp : (0 : Int) ≤ a.natAbs := by omega
  have hq : (0 : Int) ≤ b.natAbs := by omega
  generalize (a.natAbs : Int) = p at *
  generalize (b.natAbs : Int) = q at *
  have hpp : 0 ≤ p * p := Int.mul_nonneg hp hp
  have hqq : 0 ≤ q * q := Int.mul_nonneg hq hq
  have hpq : 0 ≤ p * q := Int.mul_nonneg hp hq
  obtain ⟨r0, r1, r2, r3⟩ := rt_spec (p * p + q * q) (by omega) h
  have e : (p + q) * (p + q) = p * p + 2 * (p * q) + q * q := by grind
  unfold rtd
  generalize rt (p * p + q * q) = r at *
  have l1 : p < r + 1 := lt_of_sq (by omega) (by omega)
  have l2 : q < r + 1 := lt_of_sq (by omega) (by omega)
  have l3 : r < p + q + 1 := lt_of_sq (by omega) (by have := sq_lt (a := p + q) (b := p + q + 1) (by omega) (by omega) (by omega); omega)
  by_cases hr : r = p + q
  · have : ¬ r < p * p + q * q - r * r := by rw [hr, e]; omega
    rw [if_neg this]; omega
  · split <;> omega
theorem sq_nn (a : Int) : 0 ≤ a * a := by rw [sq_abs]; exact Int.mul_nonneg (by omega) (by omega)
theorem rtd_sq (r : Int) (h0 : 0 ≤ r) (h : r * r ≤ 9223372036854775807) : rtd (r * r) = r := by
  obtain ⟨r0, r1, r2, r3⟩ := rt_spec (r * r) (Int.mul_nonneg h0 h0) h
  have l1 : r < rt (r * r) + 1 := lt_of_sq (by omega) r3
  have l2 : rt (r * r) < r + 1 := lt_of_sq (by omega) (by have := sq_lt (a := r) (b := r + 1) h0 (by omega) (by omega); omega)
  have e : rt (r * r) = r := by omega
  unfold rtd
  rw [e, if_neg (by omega)]
theorem rtd_near (n : Int) (h0 : 0 ≤ n) (h : n ≤ 9223372036854775807) : rtd n * rtd n - n ≤ rtd n ∧ -(rtd n) ≤ rtd n * rtd n - n := by
  obtain ⟨r0, r1, r2, r3⟩ := rt_spec n h0 h
  have e : (rt n + 1) * (rt n + 1) = rt n * rt n + 2 * rt n + 1 := by grind
  unfold rtd
  split
  · rw [e]; omega
  · omega
theorem rtd_bd (n : Int) (h0 : 0 ≤ n) (h : n ≤ 9223372036854775807) : 0 ≤ rtd n ∧ rtd n ≤ 3037000500 := by
  obtain ⟨r0, r1, r2, r3⟩ := rt_spec n h0 h
  unfold rtd
  split <;> omega
/-- What a function that must give a fixed number returns, and its error code. -/
def tolN (n : Int) : Int := if fxd n = true then n else 0
def tolE (n : Int) : Int := if fxd n = true then 0 else 17
theorem tolN_bd (n : Int) : -2147483647 ≤ tolN n ∧ tolN n ≤ 2147483647 := by
  unfold tolN; split
  · rename_i h; exact fxd_bd h
  · omega
theorem fxd_neg (n : Int) : fxd (-n) = fxd n := by
  unfold fxd; rw [decide_eq_decide]; omega
/-- Products and quotients. -/
def mulN (a b : Int) : Int := if (fxd a && fxd b) = true then tolN (rnd (a * b) 65536) else 0
def mulE (a b : Int) : Int := if (fxd a && fxd b) = true then tolE (rnd (a * b) 65536) else 2
def quo (a b : Int) : Int := if b < 0 then rnd (65536 * -a) (-b) else rnd (65536 * a) b
def divN (a b : Int) : Int := if (fxd a && fxd b) = true then (if b = 0 then 0 else tolN (quo a b)) else 0
def divE (a b : Int) : Int := if (fxd a && fxd b) = true then (if b = 0 then 18 else tolE (quo a b)) else 2
def sqN (a : Int) : Int := if fxd a = true then (if a < 0 then 0 else tolN (rtd (65536 * a))) else 0
def sqE (a : Int) : Int := if fxd a = true then (if a < 0 then 17 else tolE (rtd (65536 * a))) else 2
def hyN (a b : Int) : Int := if (fxd a && fxd b) = true then tolN (rtd (a * a + b * b)) else 0
def hyE (a b : Int) : Int := if (fxd a && fxd b) = true then tolE (rtd (a * a + b * b)) else 2
theorem and_bd {a b : Int} (h : (fxd a && fxd b) = true) : (-2147483647 ≤ a ∧ a ≤ 2147483647) ∧ -2147483647 ≤ b ∧ b ≤ 2147483647 := by
  rw [Bool.and_eq_true] at h; exact ⟨fxd_bd h.1, fxd_bd h.2⟩
theorem mul_bd (a b : Int) (ha : -2147483647 ≤ a) (ha' : a ≤ 2147483647) (hb : -2147483647 ≤ b) (hb' : b ≤ 2147483647) : -4611686014132420609 ≤ a * b ∧ a * b ≤ 4611686014132420609 := by
  have := prod_bd a b 2147483647 2147483647 ha ha' hb hb'
  omega
/-- Sines, directions and turns. -/
def siS (a : Int) : Int := if ang a = true then cS a else 0
def siC (a : Int) : Int := if ang a = true then cC a else 0
def siE (a : Int) : Int := if ang a = true then 0 else 2
def diX (a : Int) : Int := if ang a = true then rnd (65536 * cC a) 268435456 else 0
def diY (a : Int) : Int := if ang a = true then rnd (65536 * cS a) 268435456 else 0
def tuU (x y a : Int) : Int := rnd (cC a * x - cS a * y) 268435456
def tuV (x y a : Int) : Int := rnd (cS a * x + cC a * y) 268435456
def tuX (x y a : Int) : Int := if ((fxd x && fxd y) && ang a) = true then (if (fxd (tuU x y a) && fxd (tuV x y a)) = true then tuU x y a else 0) else 0
def tuY (x y a : Int) : Int := if ((fxd x && fxd y) && ang a) = true then (if (fxd (tuU x y a) && fxd (tuV x y a)) = true then tuV x y a else 0) else 0
def tuE (x y a : Int) : Int := if ((fxd x && fxd y) && ang a) = true then (if (fxd (tuU x y a) && fxd (tuV x y a)) = true then 0 else 17) else 2
theorem emod_tneg (a F : Int) (hF : 0 < F) (h : a.tmod F < 0) : a.tmod F + F = a % F := by
  have h1 : a.tmod F + F * a.tdiv F = a := Int.tmod_add_mul_tdiv a F
  have h2 : (a.tmod F).natAbs < F.natAbs := by rw [Int.natAbs_tmod]; exact Nat.mod_lt _ (by omega)
  have h3 : (a.tmod F + F) + F * (a.tdiv F - 1) = a := by rw [Int.mul_sub]; omega
  exact ((Int.ediv_emod_unique hF).2 ⟨h3, by omega, by omega⟩).2.symm
theorem emod_tnn (a F : Int) (hF : 0 < F) (h : ¬ a.tmod F < 0) : a.tmod F = a % F := by
  have h1 : a.tmod F + F * a.tdiv F = a := Int.tmod_add_mul_tdiv a F
  have h2 : (a.tmod F).natAbs < F.natAbs := by rw [Int.natAbs_tmod]; exact Nat.mod_lt _ (by omega)
  exact ((Int.ediv_emod_unique hF).2 ⟨h1, by omega, by omega⟩).2.symm
theorem c_lo (b : Int) (h0 : 0 ≤ b) (h1 : b ≤ 47185920) : cS b = qS b ∧ cC b = qC b := by
  have e1 : b % 377487360 = b := by omega
  have e2 : b % 94371840 = b := by omega
  have e3 : (b / 94371840).toNat = 0 := by omega
  unfold cS cC
  rw [e1, e2, e3]
  exact ⟨rfl, rfl⟩
theorem agF_far {X Y : Int} {k : Nat} (h : 47185920 < agF X Y k + 2 ^ (25 - k)) : agF X Y (k + 1) = agF X Y k := by rw [agF, if_pos h]
theorem agF_yes {X Y : Int} {k : Nat} (h : ¬ 47185920 < agF X Y k + 2 ^ (25 - k)) (h2 : qS (agF X Y k + 2 ^ (25 - k)) * X ≤ qC (agF X Y k + 2 ^ (25 - k)) * Y) : agF X Y (k + 1) = agF X Y k + 2 ^ (25 - k) := by rw [agF, if_neg h, if_pos h2]
theorem agF_no {X Y : Int} {k : Nat} (h : ¬ 47185920 < agF X Y k + 2 ^ (25 - k)) (h2 : ¬ qS (agF X Y k + 2 ^ (25 - k)) * X ≤ qC (agF X Y k + 2 ^ (25 - k)) * Y) : agF X Y (k + 1) = agF X Y k := by rw [agF, if_neg h, if_neg h2]
/-- The argument of a vector. -/
def agQ (x y : Int) : Int := if mx x (-x) < mx y (-y) then 94371840 - ag (mx y (-y)) (mx x (-x)) else ag (mx x (-x)) (mx y (-y))
def agH (x y : Int) : Int := if x < 0 then 188743680 - agQ x y else agQ x y
def agV (x y : Int) : Int := if y < 0 then - agH x y else agH x y
def arN (x y : Int) : Int := if (fxd x && fxd y) = true then (if x = 0 ∧ y = 0 then 0 else agV x y) else 0
def arE (x y : Int) : Int := if (fxd x && fxd y) = true then (if x = 0 ∧ y = 0 then 18 else 0) else 2
theorem agV_is (x y M N g r : Int) (hg : g = ag M N) (hM : M = mx (mx x (-x)) (mx y (-y))) (hN : N = mn (mx x (-x)) (mx y (-y)))
    (hr : r = (if y < 0 then -(if x < 0 then 188743680 - (if mx x (-x) < mx y (-y) then 94371840 - g else g) else (if mx x (-x) < mx y (-y) then 94371840 - g else g)) else (if x < 0 then 188743680 - (if mx x (-x) < mx y (-y) then 94371840 - g else g) else (if mx x (-x) < mx y (-y) then 94371840 - g else g)))) : r = agV x y := by
  subst hg hr
  have hq : agQ x y = if mx x (-x) < mx y (-y) then 94371840 - ag M N else ag M N := by
    unfold agQ
    generalize mx x (-x) = A at *
    generalize mx y (-y) = U at *
    subst hM hN
    unfold mx mn
    by_cases h : A < U
    · simp only [if_pos h]
    · simp only [if_neg h]
  unfold agV agH
  rw [hq]
end Fx
end Go.Proofs.YtanhomngnickfaaDoor
