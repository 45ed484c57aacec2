/-
  Plain mathematics of the circle: the squares of a sine and a cosine add up to 1, nearly; quarters.
-/
import Derived.Test.YtanhomngnickfaaDoorFxMath
namespace Go.Proofs.YtanhomngnickfaaDoor
namespace Fx

theorem ser_succ (f : Nat) (u n t : Int) : ser (f + 1) u n t = u - ser f (nx u n t) (n + 2) t := by
  rw [ser]
  split
  · rename_i h; subst h
    have : nx 0 n t = 0 := by simp [nx]
    rw [this, ser_zero]; rfl
  · rfl
theorem nx_div (u n t d : Int) (hd : (n + 1) * (n + 2) = d) (hu : 0 ≤ u) (ht : 0 ≤ t) (ht1 : t ≤ 1073741824) (hd1 : 2 ≤ d) : 0 ≤ nx u n t ∧ d * nx u n t ≤ u := by
  obtain ⟨a1, a2, a3⟩ := mulT u t hu ht ht1
  obtain ⟨b1, b2, b3⟩ := mulT (u * t / 1073741824) t a3 ht ht1
  unfold nx
  rw [hd]
  generalize u * t / 1073741824 * t / 1073741824 = v at *
  have h1 := Int.ediv_nonneg b3 (by omega : 0 ≤ d)
  have h2 := Int.mul_ediv_add_emod v d
  have h3 := Int.emod_nonneg v (by omega : d ≠ 0)
  exact ⟨h1, by omega⟩
theorem nx_rel (u n t d : Int) (hd : (n + 1) * (n + 2) = d) (hu : 0 ≤ u) (ht : 0 ≤ t) (ht1 : t ≤ 1073741824) (hd1 : 2 ≤ d) :
    0 ≤ u * (t * t) - 1152921504606846976 * d * nx u n t ∧ u * (t * t) - 1152921504606846976 * d * nx u n t ≤ 2 * (1152921504606846976 * d) := by
  obtain ⟨a1, a2, a3⟩ := mulT u t hu ht ht1
  obtain ⟨b1, b2, b3⟩ := mulT (u * t / 1073741824) t a3 ht ht1
  unfold nx
  rw [hd]
  have h1 : u * t ≤ 1073741824 * (u * t / 1073741824) + 1073741824 := by omega
  have h2 : 1073741824 * (u * t / 1073741824) ≤ u * t := by omega
  generalize u * t / 1073741824 = a at *
  have h3 : a * t ≤ 1073741824 * (a * t / 1073741824) + 1073741824 := by omega
  have h4 : 1073741824 * (a * t / 1073741824) ≤ a * t := by omega
  generalize a * t / 1073741824 = b at *
  have k1 := Int.mul_ediv_add_emod b d
  have k2 := Int.emod_nonneg b (by omega : d ≠ 0)
  have k3 := Int.emod_lt_of_pos b (by omega : 0 < d)
  generalize b / d = c at *
  have m1 : u * t * t ≤ (1073741824 * a + 1073741824) * t := Int.mul_le_mul_of_nonneg_right h1 ht
  have m2 : (1073741824 * a) * t ≤ u * t * t := Int.mul_le_mul_of_nonneg_right h2 ht
  rw [Int.add_mul, Int.mul_assoc 1073741824 a t] at m1
  rw [Int.mul_assoc 1073741824 a t] at m2
  rw [← Int.mul_assoc u t t, Int.mul_assoc _ d c]
  generalize d * c = e at *
  generalize u * t * t = uu at *
  generalize a * t = at' at *
  omega
theorem step (D z u u' M h q c : Int) (hD : 0 < D) (hq0 : 0 ≤ q) (hqM : q ≤ M) (e0 : 0 ≤ u * z - D * u') (e1 : u * z - D * u' ≤ 2 * D) (h0 : -(c * M) ≤ M * h - u' * q) (h1 : M * h - u' * q ≤ c * M) :
    -((c + 2) * (D * M)) ≤ D * M * (u - h) - u * (D * M - z * q) ∧ D * M * (u - h) - u * (D * M - z * q) ≤ (c + 2) * (D * M) := by
  have k : D * M * (u - h) - u * (D * M - z * q) = (u * z - D * u') * q - D * (M * h - u' * q) := by grind
  rw [k]
  generalize u * z - D * u' = e at *
  generalize M * h - u' * q = g at *
  have a1 : 0 ≤ e * q := Int.mul_nonneg e0 hq0
  have a2 : e * q ≤ 2 * D * M := Int.mul_le_mul e1 hqM hq0 (by omega)
  have a3 : D * -(c * M) ≤ D * g := Int.mul_le_mul_of_nonneg_left h0 (by omega)
  have a4 : D * g ≤ D * (c * M) := Int.mul_le_mul_of_nonneg_left h1 (by omega)
  rw [Int.mul_neg] at a3
  have a5 : (c + 2) * (D * M) = D * (c * M) + 2 * D * M := by grind
  omega
theorem qstep (D z M q : Int) (hD : z ≤ D) (hz : 0 ≤ z) (hq0 : 0 ≤ q) (hqM : q ≤ M) : 0 ≤ D * M - z * q ∧ D * M - z * q ≤ D * M := by
  have a1 : 0 ≤ z * q := Int.mul_nonneg hz hq0
  have a2 : z * q ≤ D * M := Int.mul_le_mul hD hqM hq0 (by omega)
  omega
theorem pw (z B : Int) (hz : 0 ≤ z) (hB : z ≤ B) : ∀ j k : Nat, 0 ≤ z ^ j * B ^ k ∧ z ^ j * B ^ k ≤ B ^ (j + k)
  | 0, k => by
    have : 0 ≤ B ^ k := Int.pow_nonneg (by omega)
    simp; omega
  | j + 1, k => by
    have ih := pw z B hz hB j k
    have e : z ^ (j + 1) * B ^ k = z * (z ^ j * B ^ k) := by rw [Int.pow_succ]; grind
    have e2 : B ^ (j + 1 + k) = B * B ^ (j + k) := by rw [show j + 1 + k = (j + k) + 1 by omega, Int.pow_succ]; grind
    rw [e, e2]
    exact ⟨Int.mul_nonneg hz ih.1, Int.mul_le_mul hB ih.2 ih.1 (by omega)⟩
/-- What a sine and a cosine of the series are, up to the last bits: M s is t times a polynomial. -/
theorem series_S (t B : Int) (hB : B = 1152921504606846976) (h0 : 0 ≤ t) (h1 : t ≤ 1073741824) :
    let z := t * t
    let M := 39916800 * B ^ 5
    let q := 39916800 * B ^ 5 - 6652800 * z * B ^ 4 + 332640 * z ^ 2 * B ^ 3 - 7920 * z ^ 3 * B ^ 2 + 110 * z ^ 4 * B - z ^ 5
    (0 ≤ q ∧ q ≤ M) ∧ -(12 * M) ≤ M * ser 31 t 1 t - t * q ∧ M * ser 31 t 1 t - t * q ≤ 12 * M := by
  intro z M q
  have hz : 0 ≤ z := Int.mul_nonneg h0 h0
  have hzB : z ≤ B := by
    have : t * t ≤ 1073741824 * 1073741824 := Int.mul_le_mul h1 h1 h0 (by omega)
    rw [hB]; exact this
  have hBp : 0 < B := by omega
  rw [ser_succ 30 t 1 t, show (1 : Int) + 2 = 3 from rfl, ser_succ 29 _ 3 t, show (3 : Int) + 2 = 5 from rfl, ser_succ 28 _ 5 t, show (5 : Int) + 2 = 7 from rfl, ser_succ 27 _ 7 t, show (7 : Int) + 2 = 9 from rfl, ser_succ 26 _ 9 t, show (9 : Int) + 2 = 11 from rfl]
  obtain ⟨a1, b1⟩ := nx_div t 1 t 6 (by decide) h0 h0 h1 (by omega)
  have r1 := nx_rel t 1 t 6 (by decide) h0 h0 h1 (by omega)
  generalize nx t 1 t = u1 at *
  obtain ⟨a2, b2⟩ := nx_div u1 3 t 20 (by decide) a1 h0 h1 (by omega)
  have r2 := nx_rel u1 3 t 20 (by decide) a1 h0 h1 (by omega)
  generalize nx u1 3 t = u2 at *
  obtain ⟨a3, b3⟩ := nx_div u2 5 t 42 (by decide) a2 h0 h1 (by omega)
  have r3 := nx_rel u2 5 t 42 (by decide) a2 h0 h1 (by omega)
  generalize nx u2 5 t = u3 at *
  obtain ⟨a4, b4⟩ := nx_div u3 7 t 72 (by decide) a3 h0 h1 (by omega)
  have r4 := nx_rel u3 7 t 72 (by decide) a3 h0 h1 (by omega)
  generalize nx u3 7 t = u4 at *
  obtain ⟨a5, b5⟩ := nx_div u4 9 t 110 (by decide) a4 h0 h1 (by omega)
  have r5 := nx_rel u4 9 t 110 (by decide) a4 h0 h1 (by omega)
  generalize nx u4 9 t = u5 at *
  obtain ⟨a6, b6⟩ := nx_div u5 11 t 156 (by decide) a5 h0 h1 (by omega)
  obtain ⟨s1, s2⟩ : 0 ≤ ser 26 u5 11 t - u5 + nx u5 11 t ∧ ser 26 u5 11 t - u5 ≤ 0 := by
    rw [ser_succ 25]
    have := ser_bd 25 (nx u5 11 t) (11 + 2) t a6 (by omega) h0 h1
    omega
  generalize nx u5 11 t = u6 at *
  generalize ser 26 u5 11 t = H5 at *
  rw [show (1152921504606846976 : Int) = B from hB.symm] at r1 r2 r3 r4 r5
  have q5 : 0 ≤ (1 : Int) ∧ (1 : Int) ≤ 1 := by omega
  have st5 : -(2 * 1) ≤ 1 * H5 - u5 * 1 ∧ 1 * H5 - u5 * 1 ≤ 2 * 1 := by omega
  have st4 := step (B * 110) z u4 u5 1 H5 1 2 (by omega) q5.1 q5.2 r5.1 r5.2 st5.1 st5.2
  have q4 := qstep (B * 110) z 1 1 (by omega) hz q5.1 q5.2
  have st3 := step (B * 72) z u3 u4 _ _ _ _ (by omega) q4.1 q4.2 r4.1 r4.2 st4.1 st4.2
  have q3 := qstep (B * 72) z _ _ (by omega) hz q4.1 q4.2
  have st2 := step (B * 42) z u2 u3 _ _ _ _ (by omega) q3.1 q3.2 r3.1 r3.2 st3.1 st3.2
  have q2 := qstep (B * 42) z _ _ (by omega) hz q3.1 q3.2
  have st1 := step (B * 20) z u1 u2 _ _ _ _ (by omega) q2.1 q2.2 r2.1 r2.2 st2.1 st2.2
  have q1 := qstep (B * 20) z _ _ (by omega) hz q2.1 q2.2
  have st0 := step (B * 6) z t u1 _ _ _ _ (by omega) q1.1 q1.2 r1.1 r1.2 st1.1 st1.2
  have q0 := qstep (B * 6) z _ _ (by omega) hz q1.1 q1.2
  have eM : B * 6 * (B * 20 * (B * 42 * (B * 72 * (B * 110 * 1)))) = M := by show _ = 39916800 * B ^ 5; grind
  have eq : B * 6 * (B * 20 * (B * 42 * (B * 72 * (B * 110 * 1)))) - z * (B * 20 * (B * 42 * (B * 72 * (B * 110 * 1))) - z * (B * 42 * (B * 72 * (B * 110 * 1)) - z * (B * 72 * (B * 110 * 1) - z * (B * 110 * 1 - z * 1)))) = q := by
    show _ = 39916800 * B ^ 5 - 6652800 * z * B ^ 4 + 332640 * z ^ 2 * B ^ 3 - 7920 * z ^ 3 * B ^ 2 + 110 * z ^ 4 * B - z ^ 5
    grind
  rw [eq, eM] at st0 q0
  have e12 : (2 : Int) + 2 + 2 + 2 + 2 + 2 = 12 := rfl
  rw [e12] at st0
  exact ⟨q0, st0⟩

theorem series_C (t B : Int) (hB : B = 1152921504606846976) (h0 : 0 ≤ t) (h1 : t ≤ 1073741824) :
    let z := t * t
    let M := 3628800 * B ^ 5
    let q := 3628800 * B ^ 5 - 1814400 * z * B ^ 4 + 151200 * z ^ 2 * B ^ 3 - 5040 * z ^ 3 * B ^ 2 + 90 * z ^ 4 * B - z ^ 5
    (0 ≤ q ∧ q ≤ M) ∧ -(12 * M) ≤ M * ser 31 1073741824 0 t - 1073741824 * q ∧ M * ser 31 1073741824 0 t - 1073741824 * q ≤ 12 * M := by
  intro z M q
  have hz : 0 ≤ z := Int.mul_nonneg h0 h0
  have hzB : z ≤ B := by
    have : t * t ≤ 1073741824 * 1073741824 := Int.mul_le_mul h1 h1 h0 (by omega)
    rw [hB]; exact this
  have hBp : 0 < B := by omega
  obtain ⟨u0, hu0⟩ : ∃ u0 : Int, u0 = 1073741824 := ⟨_, rfl⟩
  rw [← hu0]
  have a0 : 0 ≤ u0 := by omega
  rw [ser_succ 30 u0 0 t, show (0 : Int) + 2 = 2 from rfl, ser_succ 29 _ 2 t, show (2 : Int) + 2 = 4 from rfl, ser_succ 28 _ 4 t, show (4 : Int) + 2 = 6 from rfl, ser_succ 27 _ 6 t, show (6 : Int) + 2 = 8 from rfl, ser_succ 26 _ 8 t, show (8 : Int) + 2 = 10 from rfl]
  obtain ⟨a1, b1⟩ := nx_div u0 0 t 2 (by decide) a0 h0 h1 (by omega)
  have r1 := nx_rel u0 0 t 2 (by decide) a0 h0 h1 (by omega)
  generalize nx u0 0 t = u1 at *
  obtain ⟨a2, b2⟩ := nx_div u1 2 t 12 (by decide) a1 h0 h1 (by omega)
  have r2 := nx_rel u1 2 t 12 (by decide) a1 h0 h1 (by omega)
  generalize nx u1 2 t = u2 at *
  obtain ⟨a3, b3⟩ := nx_div u2 4 t 30 (by decide) a2 h0 h1 (by omega)
  have r3 := nx_rel u2 4 t 30 (by decide) a2 h0 h1 (by omega)
  generalize nx u2 4 t = u3 at *
  obtain ⟨a4, b4⟩ := nx_div u3 6 t 56 (by decide) a3 h0 h1 (by omega)
  have r4 := nx_rel u3 6 t 56 (by decide) a3 h0 h1 (by omega)
  generalize nx u3 6 t = u4 at *
  obtain ⟨a5, b5⟩ := nx_div u4 8 t 90 (by decide) a4 h0 h1 (by omega)
  have r5 := nx_rel u4 8 t 90 (by decide) a4 h0 h1 (by omega)
  generalize nx u4 8 t = u5 at *
  obtain ⟨a6, b6⟩ := nx_div u5 10 t 132 (by decide) a5 h0 h1 (by omega)
  obtain ⟨s1, s2⟩ : 0 ≤ ser 26 u5 10 t - u5 + nx u5 10 t ∧ ser 26 u5 10 t - u5 ≤ 0 := by
    rw [ser_succ 25]
    have := ser_bd 25 (nx u5 10 t) (10 + 2) t a6 (by omega) h0 h1
    omega
  generalize nx u5 10 t = u6 at *
  generalize ser 26 u5 10 t = H5 at *
  rw [show (1152921504606846976 : Int) = B from hB.symm] at r1 r2 r3 r4 r5
  have q5 : 0 ≤ (1 : Int) ∧ (1 : Int) ≤ 1 := by omega
  have st5 : -(2 * 1) ≤ 1 * H5 - u5 * 1 ∧ 1 * H5 - u5 * 1 ≤ 2 * 1 := by omega
  have st4 := step (B * 90) z u4 u5 1 H5 1 2 (by omega) q5.1 q5.2 r5.1 r5.2 st5.1 st5.2
  have q4 := qstep (B * 90) z 1 1 (by omega) hz q5.1 q5.2
  have st3 := step (B * 56) z u3 u4 _ _ _ _ (by omega) q4.1 q4.2 r4.1 r4.2 st4.1 st4.2
  have q3 := qstep (B * 56) z _ _ (by omega) hz q4.1 q4.2
  have st2 := step (B * 30) z u2 u3 _ _ _ _ (by omega) q3.1 q3.2 r3.1 r3.2 st3.1 st3.2
  have q2 := qstep (B * 30) z _ _ (by omega) hz q3.1 q3.2
  have st1 := step (B * 12) z u1 u2 _ _ _ _ (by omega) q2.1 q2.2 r2.1 r2.2 st2.1 st2.2
  have q1 := qstep (B * 12) z _ _ (by omega) hz q2.1 q2.2
  have st0 := step (B * 2) z u0 u1 _ _ _ _ (by omega) q1.1 q1.2 r1.1 r1.2 st1.1 st1.2
  have q0 := qstep (B * 2) z _ _ (by omega) hz q1.1 q1.2
  have eM : B * 2 * (B * 12 * (B * 30 * (B * 56 * (B * 90 * 1)))) = M := by show _ = 3628800 * B ^ 5; grind
  have eq : B * 2 * (B * 12 * (B * 30 * (B * 56 * (B * 90 * 1)))) - z * (B * 12 * (B * 30 * (B * 56 * (B * 90 * 1))) - z * (B * 30 * (B * 56 * (B * 90 * 1)) - z * (B * 56 * (B * 90 * 1) - z * (B * 90 * 1 - z * 1)))) = q := by
    show _ = 3628800 * B ^ 5 - 1814400 * z * B ^ 4 + 151200 * z ^ 2 * B ^ 3 - 5040 * z ^ 3 * B ^ 2 + 90 * z ^ 4 * B - z ^ 5
    grind
  rw [eq, eM] at st0 q0
  have e12 : (2 : Int) + 2 + 2 + 2 + 2 + 2 = 12 := rfl
  rw [e12] at st0
  exact ⟨q0, st0⟩
/-- The squares add up to 1, nearly: in polynomials. -/
theorem poly_one (z B : Int) (hz : 0 ≤ z) (hB : z ≤ B) :
    let p := 39916800 * B ^ 5 - 6652800 * z * B ^ 4 + 332640 * z ^ 2 * B ^ 3 - 7920 * z ^ 3 * B ^ 2 + 110 * z ^ 4 * B - z ^ 5
    let q := 3628800 * B ^ 5 - 1814400 * z * B ^ 4 + 151200 * z ^ 2 * B ^ 3 - 5040 * z ^ 3 * B ^ 2 + 90 * z ^ 4 * B - z ^ 5;
    -(20000000 * B ^ 11) ≤ z * (p * p) + 121 * (B * (q * q)) - 1593350922240000 * B ^ 11 ∧ z * (p * p) + 121 * (B * (q * q)) - 1593350922240000 * B ^ 11 ≤ 20000000 * B ^ 11 := by
  intro p q
  have e : z * (p * p) + 121 * (B * (q * q)) - 1593350922240000 * B ^ 11 = -6652800 * (z ^ 6 * B ^ 5) + 2851200 * (z ^ 7 * B ^ 4) - 207900 * (z ^ 8 * B ^ 3) + 6160 * (z ^ 9 * B ^ 2) - 99 * (z ^ 10 * B ^ 1) + z ^ 11 * B ^ 0 := by
    show z * ((39916800 * B ^ 5 - 6652800 * z * B ^ 4 + 332640 * z ^ 2 * B ^ 3 - 7920 * z ^ 3 * B ^ 2 + 110 * z ^ 4 * B - z ^ 5) * (39916800 * B ^ 5 - 6652800 * z * B ^ 4 + 332640 * z ^ 2 * B ^ 3 - 7920 * z ^ 3 * B ^ 2 + 110 * z ^ 4 * B - z ^ 5)) + 121 * (B * ((3628800 * B ^ 5 - 1814400 * z * B ^ 4 + 151200 * z ^ 2 * B ^ 3 - 5040 * z ^ 3 * B ^ 2 + 90 * z ^ 4 * B - z ^ 5) * (3628800 * B ^ 5 - 1814400 * z * B ^ 4 + 151200 * z ^ 2 * B ^ 3 - 5040 * z ^ 3 * B ^ 2 + 90 * z ^ 4 * B - z ^ 5))) - 1593350922240000 * B ^ 11 = _
    grind
  rw [e]
  have h0 := pw z B hz hB 6 5
  have h1 := pw z B hz hB 7 4
  have h2 := pw z B hz hB 8 3
  have h3 := pw z B hz hB 9 2
  have h4 := pw z B hz hB 10 1
  have h5 := pw z B hz hB 11 0
  simp only [Nat.reduceAdd] at h0 h1 h2 h3 h4 h5
  generalize z ^ 6 * B ^ 5 = x0 at *
  generalize z ^ 7 * B ^ 4 = x1 at *
  generalize z ^ 8 * B ^ 3 = x2 at *
  generalize z ^ 9 * B ^ 2 = x3 at *
  generalize z ^ 10 * B ^ 1 = x4 at *
  generalize z ^ 11 * B ^ 0 = x5 at *
  generalize B ^ 11 = K at *
  omega

theorem sq_near (X P D K : Int) (hP0 : 0 ≤ P) (hPK : P ≤ K) (_hD : 0 ≤ D) (h0 : -D ≤ X - P) (h1 : X - P ≤ D) : -(D * (2 * K + D)) ≤ X * X - P * P ∧ X * X - P * P ≤ D * (2 * K + D) := by
  have e : X * X - P * P = (X - P) * (X + P) := by grind
  rw [e]
  have := prod_bd (X - P) (X + P) D (2 * K + D) (by omega) (by omega) (by omega) (by omega)
  exact this

/-- 16 times the sum of the squares differs from 2^60 by less than 2^37. -/
theorem circ_near (t : Int) (h0 : 0 ≤ t) (h1 : t ≤ 1073741824) :
    -8589934592 < sinq t * sinq t + cosq t * cosq t - 72057594037927936 ∧ sinq t * sinq t + cosq t * cosq t - 72057594037927936 < 8589934592 := by
  obtain ⟨B, hB⟩ : ∃ B : Int, B = 1152921504606846976 := ⟨_, rfl⟩
  obtain ⟨N, hN⟩ : ∃ N : Int, N = 1073741824 := ⟨_, rfl⟩
  have hNB : B = N * N := by rw [hB, hN]; rfl
  have s1 := series_S t B hB h0 h1
  have s2 := series_C t B hB h0 h1
  have hz : 0 ≤ t * t := Int.mul_nonneg h0 h0
  have hzB : t * t ≤ B := by
    have : t * t ≤ 1073741824 * 1073741824 := Int.mul_le_mul h1 h1 h0 (by omega)
    rw [hB]; exact this
  have s3 := poly_one (t * t) B hz hzB
  dsimp only at s1 s2 s3
  generalize hp : 39916800 * B ^ 5 - 6652800 * (t * t) * B ^ 4 + 332640 * (t * t) ^ 2 * B ^ 3 - 7920 * (t * t) ^ 3 * B ^ 2 + 110 * (t * t) ^ 4 * B - (t * t) ^ 5 = p at *
  generalize hq : 3628800 * B ^ 5 - 1814400 * (t * t) * B ^ 4 + 151200 * (t * t) ^ 2 * B ^ 3 - 5040 * (t * t) ^ 3 * B ^ 2 + 90 * (t * t) ^ 4 * B - (t * t) ^ 5 = q at *
  clear hp hq
  rw [show (1073741824 : Int) = N from hN.symm] at s2
  obtain ⟨⟨p0, p1⟩, p2, p3⟩ := s1
  obtain ⟨⟨q0, q1⟩, q2, q3⟩ := s2
  have eB : B ^ 11 = (B ^ 5 * B ^ 5) * B := by rw [← Int.pow_add, ← Int.pow_succ]
  have hB5 : 0 < B ^ 5 := Int.pow_pos (by omega)
  rw [eB] at s3
  generalize B ^ 5 = L at *
  have f1 : 4 * sinq t - 2 ≤ ser 31 t 1 t ∧ ser 31 t 1 t ≤ 4 * sinq t + 1 := by unfold sinq; omega
  have f2 : 4 * cosq t - 2 ≤ ser 31 N 0 t ∧ ser 31 N 0 t ≤ 4 * cosq t + 1 := by rw [hN]; unfold cosq; omega
  generalize ser 31 t 1 t = s at *
  generalize ser 31 N 0 t = c at *
  generalize sinq t = S at *
  generalize cosq t = C at *
  -- the sine, times 4 M
  have g1 : L * (4 * S - 2) ≤ L * s ∧ L * s ≤ L * (4 * S + 1) := ⟨Int.mul_le_mul_of_nonneg_left f1.1 (by omega), Int.mul_le_mul_of_nonneg_left f1.2 (by omega)⟩
  have g2 : L * (4 * C - 2) ≤ L * c ∧ L * c ≤ L * (4 * C + 1) := ⟨Int.mul_le_mul_of_nonneg_left f2.1 (by omega), Int.mul_le_mul_of_nonneg_left f2.2 (by omega)⟩
  rw [Int.mul_sub, Int.mul_add, show L * (4 * S) = 4 * (L * S) by grind] at g1
  rw [Int.mul_sub, Int.mul_add, show L * (4 * C) = 4 * (L * C) by grind] at g2
  rw [Int.mul_assoc] at p2 p3 q2 q3
  have tp : 0 ≤ t * p := Int.mul_nonneg h0 p0
  have tp1 : t * p ≤ N * (39916800 * L) := Int.mul_le_mul (by omega) p1 p0 (by omega)
  have tq : 0 ≤ N * q := Int.mul_nonneg (by omega) q0
  have tq1 : N * q ≤ N * (3628800 * L) := Int.mul_le_mul_of_nonneg_left q1 (by omega)
  have n1 := sq_near (159667200 * (L * S)) (t * p) (14 * (39916800 * L)) (N * (39916800 * L)) tp tp1 (by omega) (by omega) (by omega)
  have n2 := sq_near (159667200 * (L * C)) (11 * (N * q)) (14 * (39916800 * L)) (N * (39916800 * L)) (by omega) (by rw [show N * (3628800 * L) = 3628800 * (N * L) by grind] at tq1; rw [show N * (39916800 * L) = 39916800 * (N * L) by grind]; omega) (by omega) (by omega) (by omega)
  have e1 : t * p * (t * p) = t * t * (p * p) := by grind
  have e2 : 11 * (N * q) * (11 * (N * q)) = 121 * (B * (q * q)) := by rw [hNB]; grind
  have e3 : 159667200 * (L * S) * (159667200 * (L * S)) = L * L * (25493614755840000 * (S * S)) := by grind
  have e4 : 159667200 * (L * C) * (159667200 * (L * C)) = L * L * (25493614755840000 * (C * C)) := by grind
  have e5 : 14 * (39916800 * L) * (2 * (N * (39916800 * L)) + 14 * (39916800 * L)) = L * L * (14 * 39916800 * (2 * N * 39916800 + 14 * 39916800)) := by grind
  rw [e1, e3, e5] at n1
  rw [e2, e4, e5] at n2
  have e6 : 20000000 * (L * L * B) = L * L * (20000000 * B) := by grind
  have e7 : 1593350922240000 * (L * L * B) = L * L * (1593350922240000 * B) := by grind
  rw [e6, e7] at s3
  have hL2 : 0 < L * L := Int.mul_pos hB5 hB5
  generalize L * L = K at *
  clear e1 e2 e3 e4 e5 e6 e7 g1 g2 tp tp1 tq tq1 p0 p1 p2 p3 q0 q1 q2 q3 eB
  generalize t * t * (p * p) = x at *
  generalize 121 * (B * (q * q)) = y at *
  have u1 : K * (25493614755840000 * (S * S)) + K * (25493614755840000 * (C * C)) - K * (1593350922240000 * B) ≤ K * (14 * 39916800 * (2 * N * 39916800 + 14 * 39916800)) + K * (14 * 39916800 * (2 * N * 39916800 + 14 * 39916800)) + K * (20000000 * B) := by omega
  have u2 : K * (1593350922240000 * B) - K * (25493614755840000 * (S * S)) - K * (25493614755840000 * (C * C)) ≤ K * (14 * 39916800 * (2 * N * 39916800 + 14 * 39916800)) + K * (14 * 39916800 * (2 * N * 39916800 + 14 * 39916800)) + K * (20000000 * B) := by omega
  generalize hE : 14 * 39916800 * (2 * N * 39916800 + 14 * 39916800) = E at *
  generalize hx : 25493614755840000 * (S * S) = x' at *
  generalize hy : 25493614755840000 * (C * C) = y' at *
  replace u1 : K * (x' + y' - 1593350922240000 * B) ≤ K * (E + E + 20000000 * B) := by rw [Int.mul_sub, Int.mul_add, Int.mul_add, Int.mul_add]; exact u1
  replace u2 : K * (1593350922240000 * B - x' - y') ≤ K * (E + E + 20000000 * B) := by rw [Int.mul_sub, Int.mul_sub, Int.mul_add, Int.mul_add]; exact u2
  have v1 := Int.le_of_mul_le_mul_left u1 hL2
  have v2 := Int.le_of_mul_le_mul_left u2 hL2
  clear u1 u2
  subst hB hN hE hx hy
  omega

/-- 90 degrees more. -/
theorem quarter_more (a : Int) : cS (a + 94371840) = cC a ∧ cC (a + 94371840) = - cS a := by
  have hp : (a + 94371840) % 377487360 % 94371840 = a % 377487360 % 94371840 := by omega
  unfold cS cC
  rw [hp]
  generalize qS (a % 377487360 % 94371840) = s
  generalize qC (a % 377487360 % 94371840) = c
  by_cases h : a % 377487360 / 94371840 = 3
  · have h2 : (a + 94371840) % 377487360 / 94371840 = 0 := by omega
    rw [h, h2]
    show s = - (- s) ∧ c = - (- c)
    omega
  · have h2 : ((a + 94371840) % 377487360 / 94371840).toNat = (a % 377487360 / 94371840).toNat + 1 := by omega
    rw [h2]
    exact ⟨rfl, rfl⟩
theorem at_zero : qS 0 = 0 ∧ qC 0 = 268435456 := by decide +kernel
theorem roS_unit : ∀ k, roS 0 268435456 k = 0 ∨ roS 0 268435456 k = 268435456 ∨ roS 0 268435456 k = -268435456
  | 0 => .inl rfl
  | 1 => .inr (.inl rfl)
  | k + 2 => by
    have := roS_unit k
    simp only [roS]; omega
theorem quarter_exact (a : Int) (h : a % 94371840 = 0) : (cS a = 0 ∨ cS a = 268435456 ∨ cS a = -268435456) ∧ (cC a = 0 ∨ cC a = 268435456 ∨ cC a = -268435456) := by
  have hp : a % 377487360 % 94371840 = 0 := by omega
  unfold cS cC
  rw [hp, at_zero.1, at_zero.2]
  exact ⟨roS_unit _, roS_unit _⟩
theorem half_near : -2 ≤ qS 47185920 - qC 47185920 ∧ qS 47185920 - qC 47185920 ≤ 2 := by decide +kernel
theorem q_swap (p : Int) (h0 : 0 < p) (h1 : p < 94371840) (h : p ≠ 47185920) : qS (94371840 - p) = qC p ∧ qC (94371840 - p) = qS p := by
  unfold qS qC
  by_cases hp : 47185920 < p
  · rw [if_pos hp, if_pos hp, if_neg (by omega), if_neg (by omega)]; exact ⟨rfl, rfl⟩
  · rw [if_neg hp, if_neg hp, if_pos (by omega), if_pos (by omega)]; rw [show 94371840 - (94371840 - p) = p by omega]; exact ⟨rfl, rfl⟩
theorem minus_near (a : Int) : -2 ≤ cS (-a) + cS a ∧ cS (-a) + cS a ≤ 2 := by
  by_cases h0 : a % 94371840 = 0
  · have hp : a % 377487360 % 94371840 = 0 := by omega
    have hp' : (-a) % 377487360 % 94371840 = 0 := by omega
    unfold cS
    rw [hp, hp', at_zero.1, at_zero.2]
    have hq : a % 377487360 / 94371840 = 0 ∧ (-a) % 377487360 / 94371840 = 0 ∨ a % 377487360 / 94371840 = 1 ∧ (-a) % 377487360 / 94371840 = 3 ∨ a % 377487360 / 94371840 = 2 ∧ (-a) % 377487360 / 94371840 = 2 ∨ a % 377487360 / 94371840 = 3 ∧ (-a) % 377487360 / 94371840 = 1 := by omega
    rcases hq with ⟨e1, e2⟩ | ⟨e1, e2⟩ | ⟨e1, e2⟩ | ⟨e1, e2⟩ <;> rw [e1, e2] <;> decide +kernel
  · have hp' : (-a) % 377487360 % 94371840 = 94371840 - a % 377487360 % 94371840 := by omega
    have hq : a % 377487360 / 94371840 = 0 ∧ (-a) % 377487360 / 94371840 = 3 ∨ a % 377487360 / 94371840 = 1 ∧ (-a) % 377487360 / 94371840 = 2 ∨ a % 377487360 / 94371840 = 2 ∧ (-a) % 377487360 / 94371840 = 1 ∨ a % 377487360 / 94371840 = 3 ∧ (-a) % 377487360 / 94371840 = 0 := by omega
    have hn := half_near
    have h1 : 0 < a % 377487360 % 94371840 ∧ a % 377487360 % 94371840 < 94371840 := by omega
    unfold cS
    rw [hp']
    generalize a % 377487360 % 94371840 = p at *
    by_cases hh : p = 47185920
    · subst hh
      rw [show (94371840 : Int) - 47185920 = 47185920 by rfl]
      generalize qS 47185920 = s at *
      generalize qC 47185920 = c at *
      rcases hq with ⟨e1, e2⟩ | ⟨e1, e2⟩ | ⟨e1, e2⟩ | ⟨e1, e2⟩ <;> rw [e1, e2] <;> simp [roS] <;> omega
    · obtain ⟨w1, w2⟩ := q_swap p h1.1 h1.2 hh
      rw [w1, w2]
      rcases hq with ⟨e1, e2⟩ | ⟨e1, e2⟩ | ⟨e1, e2⟩ | ⟨e1, e2⟩ <;> rw [e1, e2] <;> simp [roS] <;> omega
theorem sq_neg' (x : Int) : -x * -x = x * x := by grind
theorem roS_sq (s c : Int) : ∀ k, roS s c k * roS s c k + roS s c (k + 1) * roS s c (k + 1) = s * s + c * c
  | 0 => rfl
  | k + 1 => by
    have := roS_sq s c k
    have e : roS s c (k + 1 + 1) = - roS s c k := rfl
    rw [e, sq_neg']; omega
theorem circle_near (a : Int) : -8589934592 < cS a * cS a + cC a * cC a - 72057594037927936 ∧ cS a * cS a + cC a * cC a - 72057594037927936 < 8589934592 := by
  unfold cS cC
  rw [roS_sq]
  have hp : 0 ≤ a % 377487360 % 94371840 ∧ a % 377487360 % 94371840 < 94371840 := by omega
  generalize a % 377487360 % 94371840 = p at *
  unfold qS qC
  split
  · have h := tt_bd (94371840 - p) (by omega) (by omega)
    have := circ_near (tt (94371840 - p)) h.1 (by omega)
    omega
  · have h := tt_bd p (by omega) (by omega)
    exact circ_near (tt p) h.1 (by omega)
end Fx
end Go.Proofs.YtanhomngnickfaaDoor
