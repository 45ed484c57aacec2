/-
  Contracts of the reference: Text.
-/
-- LAW 02
import Derived.Test.YtanhomngnickfaaDoorFxJ
import Derived.Test.YtanhomngnickfaaDoorFxK
import Derived.Deep.DeepCutAuto
namespace Go.Proofs.YtanhomngnickfaaDoor
open Go.RowKit

/-- The nearest digits, as the reference reckons them. -/
theorem near_neg (f p : Int) : -Fx.rnd (-f * p) 65536 = (2 * f * p + 65535) / 131072 := by
  have e : -f * p = -(f * p) := Int.neg_mul _ _
  have e2 : 2 * f * p = 2 * (f * p) := Int.mul_assoc _ _ _
  rw [e, e2]
  generalize f * p = x
  unfold Fx.rnd
  omega
theorem dec_len (n : Nat) (h : n ≤ 32768) : ∃ K, 1 ≤ K ∧ K ≤ 5 ∧ n < 10 ^ K ∧ (∀ k, k < K → 0 < n / 10 ^ k ∨ k < 1) ∧ Lib.decDigits n = Fx.pad K n := by
  by_cases h1 : n < 10
  · exact ⟨1, by omega, by omega, by simpa using h1, fun k hk => .inr hk, Fx.dec_small n h1⟩
  have key : ∀ K, 1 ≤ K → K ≤ 4 → 10 ^ K ≤ n → n < 10 ^ (K + 1) → ∃ K, 1 ≤ K ∧ K ≤ 5 ∧ n < 10 ^ K ∧ (∀ k, k < K → 0 < n / 10 ^ k ∨ k < 1) ∧ Lib.decDigits n = Fx.pad K n := by
    intro K a b c d
    refine ⟨K + 1, by omega, by omega, d, fun k hk => .inl ?_, Fx.dec_pad K n c d⟩
    have hp : 10 ^ k ≤ 10 ^ K := Nat.pow_le_pow_right (by omega) (by omega)
    have hp1 : 0 < 10 ^ k := Nat.pow_pos (by omega)
    exact Nat.div_pos (by omega) hp1
  by_cases h2 : n < 100
  · exact key 1 (by omega) (by omega) (by simpa using h1) (by simpa using h2)
  by_cases h3 : n < 1000
  · exact key 2 (by omega) (by omega) (by simpa using h2) (by simpa using h3)
  by_cases h4 : n < 10000
  · exact key 3 (by omega) (by omega) (by simpa using h3) (by simpa using h4)
  · exact key 4 (by omega) (by omega) (by simpa using h4) (by simp; omega)
theorem digits_front (m : Int) (w : World) (h0 : 0 ≤ m) (h1 : m ≤ 2147483647) :
    Calls Tryd.prog 60 #[.int .i64 (m / 65536), .int .i64 1] w fun e w' => e = .returned (.string ⟨(Lib.decDigits (m / 65536).toNat).toArray⟩) ∧ w = w' := by
  obtain ⟨K, k1, k2, k3, k4, k5⟩ := dec_len (m / 65536).toNat (by omega)
  rw [k5]
  have := digits_any (m / 65536).toNat 1 K w k3 k1 k4 (by omega) (by omega)
  rwa [show (((m / 65536).toNat : Nat) : Int) = m / 65536 by omega] at this
theorem digits_back (d : Int) (k : Nat) (w : World) (h0 : 0 ≤ d) (h1 : d < 10 ^ k) (hk : k ≤ 5) :
    Calls Tryd.prog 60 #[.int .i64 d, .int .i64 k] w fun e w' => e = .returned (.string ⟨(Fx.pad k d.toNat).toArray⟩) ∧ w = w' := by
  have hp := Fx.p10 k hk
  have e : ((10 ^ k : Nat) : Int) = 10 ^ k := by rw [Int.natCast_pow]; rfl
  have := digits_any d.toNat k k w (by omega) (by omega) (fun j hj => .inr hj) (by omega) (by omega)
  rwa [show ((d.toNat : Nat) : Int) = d by omega] at this
theorem ba_app1 (a b : List UInt8) : (⟨a.toArray⟩ : ByteArray) ++ ⟨#[46]⟩ ++ ⟨b.toArray⟩ = ⟨(a ++ 46 :: b).toArray⟩ := by
  apply ByteArray.ext; simp

/-- Behind k - 1 digits that did not do: k digits do, or they do not. -/
theorem ok_cases (f : Int) (k : Nat) (hk : k ≤ 5) (hk1 : 1 ≤ k) (h0 : 1 ≤ f) (h1 : f < 65536) (hn : ∀ j, 1 ≤ j → j < k → Fx.okN f j = false) :
    (Fx.rnd (65536 * Fx.dN f k) (10 ^ k) ≠ f ∧ k < 5 ∧ ∀ j, 1 ≤ j → j < k + 1 → Fx.okN f j = false) ∨ (Fx.rnd (65536 * Fx.dN f k) (10 ^ k) = f ∧ Fx.fN f = k ∧ Fx.dN f k < 10 ^ k) := by
  have e : dz f k = Fx.dN f k := by rw [dz, if_neg (by omega)]
  rcases dz_cases f k hk h0 h1 hn with ⟨a, b, c⟩ | ⟨a, b, _, d⟩
  · rw [e] at a; exact .inl ⟨a, b, c⟩
  · rw [e] at a; exact .inr ⟨a, b, d⟩

set_option maxRecDepth 100000 in
set_option maxHeartbeats 1600000 in
theorem rtext_neg (m : Int) (w : World) (hv : Fx.fxd (-m) = true) (hm : 1 ≤ m) (hm1 : m ≤ 2147483647) :
    Calls Tryd.prog 33 #[.int .i64 (-m)] w fun e w' => e = .returned (.tuple #[.string ⟨(Fx.txtF (-m)).toArray⟩, .int .i64 0]) ∧ Below w.heap.size w w' := by
  have HV := Lib.hid hv
  clear hv
  have LD := Lib.itoa_length_le ((m / 65536).toNat : Int) (by omega) (by omega)
  rw [itoa_dec _ _ rfl] at LD
  have hmx : max (-m) m = m := by omega
  have HD := Lib.hid (fun w => digits_front m w (by omega) hm1)
  by_cases hr : m % 65536 = 0
  · have hrb : (m % 65536 == 0) = true := by simpa using hr
    have HT : Hid (Fx.txtF (-m) = 45 :: Lib.decDigits (m / 65536).toNat) := by
      show _ = _
      unfold Fx.txtF; rw [if_pos (by omega), if_pos (by omega), show (-m).natAbs / 65536 = (m / 65536).toNat by omega]; simp
    clear hr
    generalize Lib.decDigits (m / 65536).toNat = D at *
    (go_enter Tryd.func33, Tryd.ntmps33; go_wp2_with fail; refine (is1_any _ (-m) _ (by simp) (by simp [go_sem])).mono ?_; rintro e w' ⟨rfl, hb⟩; have hsz := hb.size; simp at hsz; rw [HV.out]; go_wp2_with fail)
    all_goals
      refine (HD.out _).mono ?_; rintro e w2 ⟨rfl, rfl⟩
      go_wp2_with fail
      go_ret2
      exact ⟨ret_sa (by rw [HT.out]; try rw [ba_one]), (by repeat (first | exact Below.refl _ _ | refine Below.alloc ?_ (by first | (simp; done) | (simp; omega) | omega) _ | refine Below.trans ?_ (hb.mono (by first | (simp; done) | (simp; omega) | omega))))⟩
  · have hrb : (m % 65536 == 0) = false := by simpa using hr
    have FL := frac_len (m % 65536)
    have r0 : 1 ≤ m % 65536 := by omega
    have HF : Hid (Fx.frac (m % 65536) = Fx.pad (Fx.fN (m % 65536)) (Fx.dN (m % 65536) (Fx.fN (m % 65536))).toNat) := rfl
    have HT : Hid (Fx.txtF (-m) = 45 :: (Lib.decDigits (m / 65536).toNat ++ 46 :: Fx.frac (m % 65536))) := by
      show _ = _
      unfold Fx.txtF; rw [if_pos (by omega), if_neg (by omega), show (((-m).natAbs % 65536 : Nat) : Int) = m % 65536 by omega, show (-m).natAbs / 65536 = (m / 65536).toNat by omega]; simp
    clear hr
    generalize Lib.decDigits (m / 65536).toNat = D at *
    obtain ⟨f, hf⟩ : ∃ f, m % 65536 = f := ⟨_, rfl⟩
    have f1 : f < 65536 := by omega
    rw [hf] at HF HT FL r0 hrb
    (go_enter Tryd.func33, Tryd.ntmps33; go_wp2_with fail; refine (is1_any _ (-m) _ (by simp) (by simp [go_sem])).mono ?_; rintro e w' ⟨rfl, hb⟩; have hsz := hb.size; simp at hsz; rw [HV.out]; go_wp2_with fail)
    all_goals
      refine (HD.out _).mono ?_; rintro e w2 ⟨rfl, rfl⟩
      go_wp2_with fail
      rw [hf]
      go_loop [6, 7] (fun vn vq => ∃ (k : Nat) (p : Int), vn = .int .i64 k ∧ vq = .int .i64 p ∧ 1 ≤ k ∧ k ≤ 5 ∧ Hid (p = 10 ^ k) ∧ 1 ≤ p ∧ p ≤ 100000 ∧ Hid (∀ j, 1 ≤ j → j < k → Fx.okN f j = false)) (fun vn _ => 6 - (intOf vn).toNat)
      case atStart => exact ⟨1, 10, rfl, rfl, by omega, by omega, rfl, by omega, by omega, fun j a b => by omega⟩
      case round =>
        obtain ⟨k, p, rfl, rfl, hk1, hk, hp, p0, p1, hn⟩ := hrel
        have hcs := ok_cases f k hk hk1 r0 f1 hn.out
        obtain ⟨d0, d1⟩ := Fx.dN_bd f k hk (by omega) f1
        have ed : -Fx.rnd (-f * p) 65536 = Fx.dN f k := by rw [near_neg, hp.out]; rfl
        have HDB := Lib.hid (fun (h : Fx.dN f k < 10 ^ k) w => digits_back (Fx.dN f k) k w d0 h hk)
        rw [← hp.out] at hcs d1 HDB
        obtain ⟨d, hd⟩ : ∃ d, d = Fx.dN f k := ⟨_, rfl⟩
        rw [← hd] at hcs d0 d1 ed HDB
        have m0 : 0 ≤ f * p := Int.mul_nonneg (by omega) (by omega)
        have m1 : f * p ≤ 65536 * 100000 := Int.mul_le_mul (by omega) p1 (by omega) (by omega)
        have en : -f * p = -(f * p) := Int.neg_mul _ _
        have w1 : IntKind.i64.wrap (-f * p) = -f * p := IntWalk.i64_in _ (by omega)
        have HED := Lib.hid ed
        have hne : Fx.rnd (-f * p) 65536 = -d := by omega
        have HNE := Lib.hid hne
        have b0 : -4611686018427387904 ≤ -f * p := by omega
        have b1 : -f * p ≤ 4611686018427387904 := by omega
        have HB0 := Lib.hid (And.intro b0 b1)
        clear en ed hne m0 m1 b0 b1
        rcases hcs with ⟨c1, c2, c3⟩ | ⟨c1, c2, c3⟩
        · have HC3 := Lib.hid c3
          have c1b : (Fx.rnd (d * 65536) p == f) = false := by rw [Int.mul_comm]; simpa using c1
          have hq := Fx.p10 (k + 1) (by omega)
          have e1 : p * 10 = 10 ^ (k + 1) := by rw [hp.out, Int.pow_succ]
          have HQ := Lib.hid e1
          rw [← e1] at hq
          obtain ⟨q0, q1⟩ := hq
          clear c1 c3 e1 hn hp hd HD HDB
          go_wp2_with fail
          refine (near_any (-f * p) 65536 _ (by omega) (by omega) HB0.out.1 HB0.out.2).mono ?_; rintro e w3 ⟨rfl, rfl⟩
          rw [HNE.out]
          by_cases hdp : d < p
          · go_wp2_with fail
            refine (near_any (d * 65536) p _ (by omega) (by omega) (by omega) (by omega)).mono ?_; rintro e w3 ⟨rfl, rfl⟩
            go_wp2_with fail
            exact ⟨⟨k + 1, _, by go_num, rfl, by omega, by omega, HQ, q0, q1, HC3⟩, by simp [intOf]; omega⟩
          · go_wp2_with fail
            exact ⟨⟨k + 1, _, by go_num, rfl, by omega, by omega, HQ, q0, q1, HC3⟩, by simp [intOf]; omega⟩
        · have c1b : (Fx.rnd (d * 65536) p == f) = true := by rw [Int.mul_comm]; simpa using c1
          have HR : Hid (Fx.frac f = Fx.pad k d.toNat) := by rw [HF.out, c2, ← hd]; rfl
          have HL := Lib.hid (Fx.pad_len k d.toNat)
          have HDC := Lib.hid (HDB.out c3)
          clear c1 c2 hn hp hd HD HDB
          go_wp2_with fail
          refine (near_any (-f * p) 65536 _ (by omega) (by omega) HB0.out.1 HB0.out.2).mono ?_; rintro e w3 ⟨rfl, rfl⟩
          rw [HNE.out]
          go_wp2_with fail
          refine (near_any (d * 65536) p _ (by omega) (by omega) (by omega) (by omega)).mono ?_; rintro e w3 ⟨rfl, rfl⟩
          go_wp2_with fail
          refine (HDC.out _).mono ?_; rintro e w3 ⟨rfl, rfl⟩
          have PL := HL.out
          go_wp2_with fail
          go_ret2
          exact ⟨ret_sa (by rw [HT.out, HR.out]; (rw [ba_one, ba_app1]; rfl)), (by repeat (first | exact Below.refl _ _ | refine Below.alloc ?_ (by first | (simp; done) | (simp; omega) | omega) _ | refine Below.trans ?_ (hb.mono (by first | (simp; done) | (simp; omega) | omega))))⟩

set_option maxRecDepth 100000 in
set_option maxHeartbeats 1600000 in
theorem rtext_pos (m : Int) (w : World) (hv : Fx.fxd (m) = true) (hm : 0 ≤ m) (hm1 : m ≤ 2147483647) :
    Calls Tryd.prog 33 #[.int .i64 (m)] w fun e w' => e = .returned (.tuple #[.string ⟨(Fx.txtF (m)).toArray⟩, .int .i64 0]) ∧ Below w.heap.size w w' := by
  have HV := Lib.hid hv
  clear hv
  have LD := Lib.itoa_length_le ((m / 65536).toNat : Int) (by omega) (by omega)
  rw [itoa_dec _ _ rfl] at LD
  have hmx : max m (-m) = m := by omega
  have HD := Lib.hid (fun w => digits_front m w (by omega) hm1)
  by_cases hr : m % 65536 = 0
  · have hrb : (m % 65536 == 0) = true := by simpa using hr
    have HT : Hid (Fx.txtF (m) = Lib.decDigits (m / 65536).toNat) := by
      show _ = _
      unfold Fx.txtF; rw [if_neg (by omega), if_pos (by omega), show (m).natAbs / 65536 = (m / 65536).toNat by omega]; simp
    clear hr
    generalize Lib.decDigits (m / 65536).toNat = D at *
    (go_enter Tryd.func33, Tryd.ntmps33; go_wp2_with fail; refine (is1_any _ (m) _ (by simp) (by simp [go_sem])).mono ?_; rintro e w' ⟨rfl, hb⟩; have hsz := hb.size; simp at hsz; rw [HV.out]; go_wp2_with fail)
    all_goals
      refine (HD.out _).mono ?_; rintro e w2 ⟨rfl, rfl⟩
      go_wp2_with fail
      go_ret2
      exact ⟨ret_sa (by rw [HT.out]; try rw [ba_nil]), (by repeat (first | exact Below.refl _ _ | refine Below.alloc ?_ (by first | (simp; done) | (simp; omega) | omega) _ | refine Below.trans ?_ (hb.mono (by first | (simp; done) | (simp; omega) | omega))))⟩
  · have hrb : (m % 65536 == 0) = false := by simpa using hr
    have FL := frac_len (m % 65536)
    have r0 : 1 ≤ m % 65536 := by omega
    have HF : Hid (Fx.frac (m % 65536) = Fx.pad (Fx.fN (m % 65536)) (Fx.dN (m % 65536) (Fx.fN (m % 65536))).toNat) := rfl
    have HT : Hid (Fx.txtF (m) = (Lib.decDigits (m / 65536).toNat ++ 46 :: Fx.frac (m % 65536))) := by
      show _ = _
      unfold Fx.txtF; rw [if_neg (by omega), if_neg (by omega), show (((m).natAbs % 65536 : Nat) : Int) = m % 65536 by omega, show (m).natAbs / 65536 = (m / 65536).toNat by omega]; simp
    clear hr
    generalize Lib.decDigits (m / 65536).toNat = D at *
    obtain ⟨f, hf⟩ : ∃ f, m % 65536 = f := ⟨_, rfl⟩
    have f1 : f < 65536 := by omega
    rw [hf] at HF HT FL r0 hrb
    (go_enter Tryd.func33, Tryd.ntmps33; go_wp2_with fail; refine (is1_any _ (m) _ (by simp) (by simp [go_sem])).mono ?_; rintro e w' ⟨rfl, hb⟩; have hsz := hb.size; simp at hsz; rw [HV.out]; go_wp2_with fail)
    all_goals
      refine (HD.out _).mono ?_; rintro e w2 ⟨rfl, rfl⟩
      go_wp2_with fail
      rw [hf]
      go_loop [6, 7] (fun vn vq => ∃ (k : Nat) (p : Int), vn = .int .i64 k ∧ vq = .int .i64 p ∧ 1 ≤ k ∧ k ≤ 5 ∧ Hid (p = 10 ^ k) ∧ 1 ≤ p ∧ p ≤ 100000 ∧ Hid (∀ j, 1 ≤ j → j < k → Fx.okN f j = false)) (fun vn _ => 6 - (intOf vn).toNat)
      case atStart => exact ⟨1, 10, rfl, rfl, by omega, by omega, rfl, by omega, by omega, fun j a b => by omega⟩
      case round =>
        obtain ⟨k, p, rfl, rfl, hk1, hk, hp, p0, p1, hn⟩ := hrel
        have hcs := ok_cases f k hk hk1 r0 f1 hn.out
        obtain ⟨d0, d1⟩ := Fx.dN_bd f k hk (by omega) f1
        have ed : -Fx.rnd (-f * p) 65536 = Fx.dN f k := by rw [near_neg, hp.out]; rfl
        have HDB := Lib.hid (fun (h : Fx.dN f k < 10 ^ k) w => digits_back (Fx.dN f k) k w d0 h hk)
        rw [← hp.out] at hcs d1 HDB
        obtain ⟨d, hd⟩ : ∃ d, d = Fx.dN f k := ⟨_, rfl⟩
        rw [← hd] at hcs d0 d1 ed HDB
        have m0 : 0 ≤ f * p := Int.mul_nonneg (by omega) (by omega)
        have m1 : f * p ≤ 65536 * 100000 := Int.mul_le_mul (by omega) p1 (by omega) (by omega)
        have en : -f * p = -(f * p) := Int.neg_mul _ _
        have w1 : IntKind.i64.wrap (-f * p) = -f * p := IntWalk.i64_in _ (by omega)
        have HED := Lib.hid ed
        have hne : Fx.rnd (-f * p) 65536 = -d := by omega
        have HNE := Lib.hid hne
        have b0 : -4611686018427387904 ≤ -f * p := by omega
        have b1 : -f * p ≤ 4611686018427387904 := by omega
        have HB0 := Lib.hid (And.intro b0 b1)
        clear en ed hne m0 m1 b0 b1
        rcases hcs with ⟨c1, c2, c3⟩ | ⟨c1, c2, c3⟩
        · have HC3 := Lib.hid c3
          have c1b : (Fx.rnd (d * 65536) p == f) = false := by rw [Int.mul_comm]; simpa using c1
          have hq := Fx.p10 (k + 1) (by omega)
          have e1 : p * 10 = 10 ^ (k + 1) := by rw [hp.out, Int.pow_succ]
          have HQ := Lib.hid e1
          rw [← e1] at hq
          obtain ⟨q0, q1⟩ := hq
          clear c1 c3 e1 hn hp hd HD HDB
          go_wp2_with fail
          refine (near_any (-f * p) 65536 _ (by omega) (by omega) HB0.out.1 HB0.out.2).mono ?_; rintro e w3 ⟨rfl, rfl⟩
          rw [HNE.out]
          by_cases hdp : d < p
          · go_wp2_with fail
            refine (near_any (d * 65536) p _ (by omega) (by omega) (by omega) (by omega)).mono ?_; rintro e w3 ⟨rfl, rfl⟩
            go_wp2_with fail
            exact ⟨⟨k + 1, _, by go_num, rfl, by omega, by omega, HQ, q0, q1, HC3⟩, by simp [intOf]; omega⟩
          · go_wp2_with fail
            exact ⟨⟨k + 1, _, by go_num, rfl, by omega, by omega, HQ, q0, q1, HC3⟩, by simp [intOf]; omega⟩
        · have c1b : (Fx.rnd (d * 65536) p == f) = true := by rw [Int.mul_comm]; simpa using c1
          have HR : Hid (Fx.frac f = Fx.pad k d.toNat) := by rw [HF.out, c2, ← hd]; rfl
          have HL := Lib.hid (Fx.pad_len k d.toNat)
          have HDC := Lib.hid (HDB.out c3)
          clear c1 c2 hn hp hd HD HDB
          go_wp2_with fail
          refine (near_any (-f * p) 65536 _ (by omega) (by omega) HB0.out.1 HB0.out.2).mono ?_; rintro e w3 ⟨rfl, rfl⟩
          rw [HNE.out]
          go_wp2_with fail
          refine (near_any (d * 65536) p _ (by omega) (by omega) (by omega) (by omega)).mono ?_; rintro e w3 ⟨rfl, rfl⟩
          go_wp2_with fail
          refine (HDC.out _).mono ?_; rintro e w3 ⟨rfl, rfl⟩
          have PL := HL.out
          go_wp2_with fail
          go_ret2
          exact ⟨ret_sa (by rw [HT.out, HR.out]; (rw [ba_nil, ba_app1])), (by repeat (first | exact Below.refl _ _ | refine Below.alloc ?_ (by first | (simp; done) | (simp; omega) | omega) _ | refine Below.trans ?_ (hb.mono (by first | (simp; done) | (simp; omega) | omega))))⟩

theorem rtext_ok (a : Int) (w : World) (hv : Fx.fxd a = true) :
    Calls Tryd.prog 33 #[.int .i64 a] w fun e w' => e = .returned (.tuple #[.string ⟨(Fx.txtF a).toArray⟩, .int .i64 0]) ∧ Below w.heap.size w w' := by
  obtain ⟨x1, x2⟩ := Fx.fxd_bd hv
  by_cases hn : a < 0
  · obtain ⟨m, rfl⟩ : ∃ m, a = -m := ⟨-a, by omega⟩
    exact rtext_neg m w hv (by omega) (by omega)
  · exact rtext_pos a w hv (by omega) x2

set_option maxHeartbeats 400000 in
theorem rtext_any (a : Int) (w : World) :
    Calls Tryd.prog 33 #[.int .i64 a] w fun e w' => e = .returned (.tuple #[.string ⟨(txN a).toArray⟩, .int .i64 (txE a)]) ∧ Below w.heap.size w w' := by
  cases hv : Fx.fxd a
  · rw [txN, txE, hv, if_neg (by decide), if_neg (by decide)]
    have HV := Lib.hid hv
    clear hv
    go_enter Tryd.func33, Tryd.ntmps33
    go_wp2_with fail
    refine (is1_any _ a _ (by simp) (by simp [go_sem])).mono ?_; rintro e w' ⟨rfl, hb⟩; have hsz := hb.size; simp at hsz
    rw [HV.out]
    go_wp2_with fail
    go_ret2
    exact ⟨rfl, (by repeat (first | exact Below.refl _ _ | refine Below.alloc ?_ (by first | (simp; done) | (simp; omega) | omega) _ | refine Below.trans ?_ (hb.mono (by first | (simp; done) | (simp; omega) | omega))))⟩
  · rw [txN, txE, hv, if_pos rfl, if_pos rfl]
    exact rtext_ok a w hv
end Go.Proofs.YtanhomngnickfaaDoor
