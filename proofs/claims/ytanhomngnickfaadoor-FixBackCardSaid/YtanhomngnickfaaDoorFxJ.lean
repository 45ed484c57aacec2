/-
  Contracts of package fix: Text, and the digits behind its point.
-/
-- LAW 02
import Derived.Test.YtanhomngnickfaaDoorFxH
import Derived.Deep.DeepCutAuto
namespace Go.Proofs.YtanhomngnickfaaDoor
open Go.RowKit

/-- The digits behind the point at k of them; at 0 none. -/
def dz (f : Int) (k : Nat) : Int := if k = 0 then 0 else Fx.dN f k
theorem dz_zero (f : Int) : dz f 0 = 0 := rfl
theorem dz_succ (f : Int) (k : Nat) : dz f (k + 1) = (2 * f * (10 ^ k * 10) + 65535) / 131072 := by
  rw [dz, if_neg (by omega), Fx.dN, Int.pow_succ]
theorem dz_bd (f : Int) (k : Nat) (hk : k ≤ 5) (h0 : 1 ≤ f) (h1 : f < 65536) : 0 ≤ dz f k ∧ dz f k ≤ 100000 := by
  unfold dz
  split
  · omega
  · have := Fx.dN_bd f k hk (by omega) h1
    have := Fx.p10 k hk
    omega
theorem dz_ne (f : Int) (h0 : 1 ≤ f) : Fx.rnd (65536 * dz f 0) (10 ^ 0) ≠ f := by
  rw [dz_zero]
  have : Fx.rnd (65536 * 0) (10 ^ 0) = 0 := by decide
  rw [this]; omega
/-- Behind k digits: those do not give the rest, or they are the ones. -/
theorem dz_cases (f : Int) (k : Nat) (hk : k ≤ 5) (h0 : 1 ≤ f) (h1 : f < 65536) (hn : ∀ j, 1 ≤ j → j < k → Fx.okN f j = false) :
    (Fx.rnd (65536 * dz f k) (10 ^ k) ≠ f ∧ k < 5 ∧ ∀ j, 1 ≤ j → j < k + 1 → Fx.okN f j = false) ∨ (Fx.rnd (65536 * dz f k) (10 ^ k) = f ∧ Fx.fN f = k ∧ dz f k = Fx.dN f k ∧ Fx.dN f k < 10 ^ k) := by
  by_cases hk0 : k = 0
  · subst hk0
    exact .inl ⟨dz_ne f h0, by omega, fun j a b => by omega⟩
  have e : dz f k = Fx.dN f k := by rw [dz, if_neg hk0]
  rw [e]
  cases ho : Fx.okN f k
  · left
    refine ⟨of_decide_eq_false ho, ?_, fun j a b => ?_⟩
    · by_cases h5 : k = 5
      · subst h5; rw [Fx.ok5 f h0 h1] at ho; cases ho
      · omega
    · by_cases hj : j = k
      · subst hj; exact ho
      · exact hn j a (by omega)
  · exact .inr ⟨of_decide_eq_true ho, Fx.fN_eq f k (by omega) hk h0 h1 ho hn, rfl, Fx.ok_lt f k hk h1 ho⟩
theorem itoa_lead (k : Nat) (d p : Int) (hp : p = 10 ^ k) (h0 : 0 ≤ d) (h : d < p) : Lib.itoa (p + d) = 49 :: Fx.pad k d.toNat := by
  obtain ⟨n, rfl⟩ := Int.eq_ofNat_of_zero_le h0
  have e : p = ((10 ^ k : Nat) : Int) := by rw [hp, Int.natCast_pow]; rfl
  have hn : n < 10 ^ k := by omega
  unfold Lib.itoa
  rw [if_neg (by omega), show (p + (n : Int)).toNat = 10 ^ k + n by omega, Int.toNat_natCast]
  exact Fx.dec_lead k n hn

theorem ret_str {a b : ByteArray} (h : a = b) : Ending.returned (.string a) = .returned (.string b) := by rw [h]
theorem ext_tail (c : UInt8) (l : List UInt8) : (⟨(c :: l).toArray⟩ : ByteArray).extract 1 (l.length + 1) = ⟨l.toArray⟩ := by
  apply ByteArray.ext
  rw [ByteArray.data_extract]
  apply Array.ext'
  simp

set_option maxRecDepth 100000 in
set_option maxHeartbeats 800000 in
theorem decimals_any (f : Int) (w : World) (he : Env w) (h0 : 1 ≤ f) (h1 : f < 65536) :
    Calls Tryd.prog 59 #[.int .i64 f] w fun e w' => e = .returned (.string ⟨(Fx.frac f).toArray⟩) ∧ Below w.heap.size w w' := by
  have HE := Lib.hid he
  have HF : Hid (Fx.frac f = Fx.pad (Fx.fN f) (Fx.dN f (Fx.fN f)).toNat) := rfl
  clear he
  go_enter Tryd.func59, Tryd.ntmps59
  go_wp2
  go_loop [3, 4] (fun vd vp => ∃ (k : Nat) (d p : Int), vd = .int .i64 d ∧ vp = .int .i64 p ∧ k ≤ 5 ∧ Hid (d = dz f k) ∧ Hid (p = 10 ^ k) ∧ 0 ≤ d ∧ d ≤ 100000 ∧ 1 ≤ p ∧ p ≤ 100000 ∧ Hid (∀ j, 1 ≤ j → j < k → Fx.okN f j = false)) (fun _ vp => (100001 - intOf vp).toNat)
  case atStart => exact ⟨0, 0, 1, rfl, rfl, by omega, rfl, rfl, by omega, by omega, by omega, by omega, fun j a b => by omega⟩
  case round =>
    obtain ⟨k, d, p, rfl, rfl, hk, hd, hp, d0, d1, p0, p1, hn⟩ := hrel
    have hc := dz_cases f k hk h0 h1 hn.out
    rw [← hd.out, ← hp.out] at hc
    rcases hc with ⟨c1, c2, c3⟩ | ⟨c1, c2, c3, c4⟩
    · have HC3 := Lib.hid c3
      have c1b : (Fx.rnd (65536 * d) p == f) = false := by simpa using c1
      have c1c : (Fx.rnd (65536 * d) p != f) = true := by simpa using c1
      have hz := dz_bd f (k + 1) (by omega) h0 h1
      have hq := Fx.p10 (k + 1) (by omega)
      have e1 : p * 10 = 10 ^ (k + 1) := by rw [hp.out, Int.pow_succ]
      have e2 : (2 * f * (p * 10) + 65535) / 131072 = dz f (k + 1) := by rw [dz_succ, hp.out]
      have HZ := Lib.hid e2
      have HQ := Lib.hid e1
      rw [← e1] at hq
      rw [← e2] at hz
      obtain ⟨z0, z1⟩ := hz
      obtain ⟨q0, q1⟩ := hq
      have m0 : 0 ≤ f * (p * 10) := Int.mul_nonneg (by omega) (by omega)
      have m1 : 2 * f * (p * 10) ≤ 131072 * 1000000 := Int.mul_le_mul (by omega) (by omega) (by omega) (by omega)
      have m2 : 0 ≤ 2 * f * (p * 10) := Int.mul_nonneg (by omega) (by omega)
      have w1 : IntKind.i64.wrap (2 * f * (p * 10)) = 2 * f * (p * 10) := IntWalk.i64_in _ (by omega)
      clear c1 c3 e1 e2 hn hd hp m0
      go_wp2_with fail
      refine (units_any d p _ d0 (by omega) p0 (by omega)).mono ?_; rintro e w3 ⟨rfl, rfl⟩
      go_wp2_with fail
      have em : 2 * f * (p * 10) + 65536 - 1 = 2 * f * (p * 10) + 65535 := by omega
      refine ⟨⟨k + 1, _, _, rfl, rfl, by omega, ?_, HQ, by omega, by omega, by omega, by omega, HC3⟩, ?_⟩
      · exact (show _ = _ by rw [← HZ.out]; first | rfl | (congr 1))
      · simp [intOf]; omega
    · have HS := Lib.hid (itoa_lead k d p hp.out (by omega) (by rw [c3]; exact c4))
      have HR : Hid (Fx.frac f = Fx.pad k d.toNat) := by rw [HF.out, c2, ← c3]; rfl
      have HL := Lib.hid (Fx.pad_len k d.toNat)
      clear c2 c3 c4 hn hd hp
      go_wp2_with fail
      refine (units_any d p _ d0 (by omega) p0 (by omega)).mono ?_; rintro e w3 ⟨rfl, rfl⟩
      go_wp2_with fail
      refine (itoa_any (p + d) _ (by omega) (by omega) HE.out).mono ?_; rintro e w4 ⟨rfl, hb⟩
      rw [HS.out]
      go_wp2_with fail
      rw [ext_tail]
      go_ret
      exact ⟨ret_str (by rw [HR.out]), hb⟩

def txN (a : Int) : List UInt8 := if Fx.fxd a = true then Fx.txtF a else []
def txE (a : Int) : Int := if Fx.fxd a = true then 0 else 2
theorem itoa_dec (n : Int) (u : Nat) (h : n = (u : Int)) : Lib.itoa n = Lib.decDigits u := by
  subst h; unfold Lib.itoa; rw [if_neg (by omega)]; simp
theorem ret_sa {a b : ByteArray} {c : Int} (h : a = b) : Ending.returned (.tuple #[.string a, .int .i64 c]) = .returned (.tuple #[.string b, .int .i64 c]) := by rw [h]
theorem ba_nil (b : List UInt8) : (⟨#[]⟩ : ByteArray) ++ ⟨b.toArray⟩ = ⟨b.toArray⟩ := by
  apply ByteArray.ext; simp
theorem ba_one (c : UInt8) (b : List UInt8) : (⟨#[c]⟩ : ByteArray) ++ ⟨b.toArray⟩ = ⟨(c :: b).toArray⟩ := by
  apply ByteArray.ext; simp
theorem frac_len (f : Int) : (Fx.frac f).length ≤ 5 := by
  unfold Fx.frac; rw [Fx.pad_len]; exact (Fx.fN_bd f).2

set_option maxRecDepth 100000 in
set_option maxHeartbeats 800000 in
theorem text_neg (m : Int) (w : World) (he : Env w) (hv : Fx.fxd (-m) = true) (hm : 1 ≤ m) (hm1 : m ≤ 2147483647) :
    Calls Tryd.prog 32 #[.int .i64 (-m)] w fun e w' => e = .returned (.tuple #[.string ⟨(Fx.txtF (-m)).toArray⟩, .int .i64 0]) ∧ Below w.heap.size w w' := by
  have HV := Lib.hid hv
  have HE := Lib.hid he
  clear hv he
  have LD := Lib.itoa_length_le ((m / 65536).toNat : Int) (by omega) (by omega)
  rw [itoa_dec _ _ rfl] at LD
  have HI : Hid (Lib.itoa (m / 65536) = Lib.decDigits (m / 65536).toNat) := itoa_dec _ _ (by omega)
  by_cases hr : m % 65536 = 0
  · have hrb : (m % 65536 == 0) = true := by simpa using hr
    have hrc : (m % 65536 != 0) = false := by simpa using hr
    have HT : Hid (Fx.txtF (-m) = 45 :: Lib.decDigits (m / 65536).toNat) := by
      show _ = _
      unfold Fx.txtF; rw [if_pos (by omega), if_pos (by omega), show (-m).natAbs / 65536 = (m / 65536).toNat by omega]; simp
    clear hr
    generalize Lib.decDigits (m / 65536).toNat = D at *
    (go_enter Tryd.func32, Tryd.ntmps32; go_wp2_with fail; refine (fixed1_any _ (-m) _ (by simp) (by simp [go_sem])).mono ?_; rintro e w' ⟨rfl, hb⟩; have hsz := hb.size; simp at hsz; rw [HV.out]; go_wp2_with fail; refine (itoa_any (m / 65536) _ (by omega) (by omega) (HE.out.below (by repeat (first | exact Below.refl _ _ | refine Below.alloc ?_ (by first | (simp; done) | (simp; omega) | omega) _ | refine Below.trans ?_ (hb.mono (by first | (simp; done) | (simp; omega) | omega)))))).mono ?_; rintro e w2 ⟨rfl, hb2⟩; rw [HI.out]; have hb3 := (show Below w.heap.size w _ from (by repeat (first | exact Below.refl _ _ | refine Below.alloc ?_ (by first | (simp; done) | (simp; omega) | omega) _ | refine Below.trans ?_ (hb.mono (by first | (simp; done) | (simp; omega) | omega))))).trans (hb2.mono (by first | (simp; done) | (simp; omega) | omega)); clear hb2)
    go_wp2_with fail
    go_ret2
    exact ⟨ret_sa (by rw [HT.out]; try rw [ba_one]), hb3⟩
  · have hrb : (m % 65536 == 0) = false := by simpa using hr
    have hrc : (m % 65536 != 0) = true := by simpa using hr
    have FL := frac_len (m % 65536)
    have r0 : 1 ≤ m % 65536 := by omega
    have HT : Hid (Fx.txtF (-m) = 45 :: (Lib.decDigits (m / 65536).toNat ++ 46 :: Fx.frac (m % 65536))) := by
      show _ = _
      unfold Fx.txtF; rw [if_pos (by omega), if_neg (by omega), show (((-m).natAbs % 65536 : Nat) : Int) = m % 65536 by omega, show (-m).natAbs / 65536 = (m / 65536).toNat by omega]; simp
    clear hr
    generalize Lib.decDigits (m / 65536).toNat = D at *
    (go_enter Tryd.func32, Tryd.ntmps32; go_wp2_with fail; refine (fixed1_any _ (-m) _ (by simp) (by simp [go_sem])).mono ?_; rintro e w' ⟨rfl, hb⟩; have hsz := hb.size; simp at hsz; rw [HV.out]; go_wp2_with fail; refine (itoa_any (m / 65536) _ (by omega) (by omega) (HE.out.below (by repeat (first | exact Below.refl _ _ | refine Below.alloc ?_ (by first | (simp; done) | (simp; omega) | omega) _ | refine Below.trans ?_ (hb.mono (by first | (simp; done) | (simp; omega) | omega)))))).mono ?_; rintro e w2 ⟨rfl, hb2⟩; rw [HI.out]; have hb3 := (show Below w.heap.size w _ from (by repeat (first | exact Below.refl _ _ | refine Below.alloc ?_ (by first | (simp; done) | (simp; omega) | omega) _ | refine Below.trans ?_ (hb.mono (by first | (simp; done) | (simp; omega) | omega))))).trans (hb2.mono (by first | (simp; done) | (simp; omega) | omega)); clear hb2)
    go_wp2_with fail
    refine (decimals_any (m % 65536) _ (HE.out.below hb3) (by omega) (by omega)).mono ?_; rintro e w4 ⟨rfl, hb4⟩
    go_wp2_with fail
    go_ret2
    exact ⟨ret_sa (by rw [HT.out]; simp only [ba_app]; first | done | rfl), hb3.trans (hb4.mono hb3.size)⟩

set_option maxRecDepth 100000 in
set_option maxHeartbeats 800000 in
theorem text_pos (m : Int) (w : World) (he : Env w) (hv : Fx.fxd (m) = true) (hm : 0 ≤ m) (hm1 : m ≤ 2147483647) :
    Calls Tryd.prog 32 #[.int .i64 (m)] w fun e w' => e = .returned (.tuple #[.string ⟨(Fx.txtF (m)).toArray⟩, .int .i64 0]) ∧ Below w.heap.size w w' := by
  have HV := Lib.hid hv
  have HE := Lib.hid he
  clear hv he
  have LD := Lib.itoa_length_le ((m / 65536).toNat : Int) (by omega) (by omega)
  rw [itoa_dec _ _ rfl] at LD
  have HI : Hid (Lib.itoa (m / 65536) = Lib.decDigits (m / 65536).toNat) := itoa_dec _ _ (by omega)
  by_cases hr : m % 65536 = 0
  · have hrb : (m % 65536 == 0) = true := by simpa using hr
    have hrc : (m % 65536 != 0) = false := by simpa using hr
    have HT : Hid (Fx.txtF (m) = Lib.decDigits (m / 65536).toNat) := by
      show _ = _
      unfold Fx.txtF; rw [if_neg (by omega), if_pos (by omega), show (m).natAbs / 65536 = (m / 65536).toNat by omega]; simp
    clear hr
    generalize Lib.decDigits (m / 65536).toNat = D at *
    (go_enter Tryd.func32, Tryd.ntmps32; go_wp2_with fail; refine (fixed1_any _ (m) _ (by simp) (by simp [go_sem])).mono ?_; rintro e w' ⟨rfl, hb⟩; have hsz := hb.size; simp at hsz; rw [HV.out]; go_wp2_with fail; refine (itoa_any (m / 65536) _ (by omega) (by omega) (HE.out.below (by repeat (first | exact Below.refl _ _ | refine Below.alloc ?_ (by first | (simp; done) | (simp; omega) | omega) _ | refine Below.trans ?_ (hb.mono (by first | (simp; done) | (simp; omega) | omega)))))).mono ?_; rintro e w2 ⟨rfl, hb2⟩; rw [HI.out]; have hb3 := (show Below w.heap.size w _ from (by repeat (first | exact Below.refl _ _ | refine Below.alloc ?_ (by first | (simp; done) | (simp; omega) | omega) _ | refine Below.trans ?_ (hb.mono (by first | (simp; done) | (simp; omega) | omega))))).trans (hb2.mono (by first | (simp; done) | (simp; omega) | omega)); clear hb2)
    go_wp2_with fail
    go_ret2
    exact ⟨ret_sa (by rw [HT.out]; try rw [ba_nil]), hb3⟩
  · have hrb : (m % 65536 == 0) = false := by simpa using hr
    have hrc : (m % 65536 != 0) = true := by simpa using hr
    have FL := frac_len (m % 65536)
    have r0 : 1 ≤ m % 65536 := by omega
    have HT : Hid (Fx.txtF (m) = (Lib.decDigits (m / 65536).toNat ++ 46 :: Fx.frac (m % 65536))) := by
      show _ = _
      unfold Fx.txtF; rw [if_neg (by omega), if_neg (by omega), show (((m).natAbs % 65536 : Nat) : Int) = m % 65536 by omega, show (m).natAbs / 65536 = (m / 65536).toNat by omega]; simp
    clear hr
    generalize Lib.decDigits (m / 65536).toNat = D at *
    (go_enter Tryd.func32, Tryd.ntmps32; go_wp2_with fail; refine (fixed1_any _ (m) _ (by simp) (by simp [go_sem])).mono ?_; rintro e w' ⟨rfl, hb⟩; have hsz := hb.size; simp at hsz; rw [HV.out]; go_wp2_with fail; refine (itoa_any (m / 65536) _ (by omega) (by omega) (HE.out.below (by repeat (first | exact Below.refl _ _ | refine Below.alloc ?_ (by first | (simp; done) | (simp; omega) | omega) _ | refine Below.trans ?_ (hb.mono (by first | (simp; done) | (simp; omega) | omega)))))).mono ?_; rintro e w2 ⟨rfl, hb2⟩; rw [HI.out]; have hb3 := (show Below w.heap.size w _ from (by repeat (first | exact Below.refl _ _ | refine Below.alloc ?_ (by first | (simp; done) | (simp; omega) | omega) _ | refine Below.trans ?_ (hb.mono (by first | (simp; done) | (simp; omega) | omega))))).trans (hb2.mono (by first | (simp; done) | (simp; omega) | omega)); clear hb2)
    go_wp2_with fail
    refine (decimals_any (m % 65536) _ (HE.out.below hb3) (by omega) (by omega)).mono ?_; rintro e w4 ⟨rfl, hb4⟩
    go_wp2_with fail
    go_ret2
    exact ⟨ret_sa (by rw [HT.out]; simp only [ba_app]; first | done | rfl), hb3.trans (hb4.mono hb3.size)⟩

theorem text_ok (a : Int) (w : World) (he : Env w) (hv : Fx.fxd a = true) :
    Calls Tryd.prog 32 #[.int .i64 a] w fun e w' => e = .returned (.tuple #[.string ⟨(Fx.txtF a).toArray⟩, .int .i64 0]) ∧ Below w.heap.size w w' := by
  obtain ⟨x1, x2⟩ := Fx.fxd_bd hv
  by_cases hn : a < 0
  · obtain ⟨m, rfl⟩ : ∃ m, a = -m := ⟨-a, by omega⟩
    exact text_neg m w he hv (by omega) (by omega)
  · exact text_pos a w he hv (by omega) x2

set_option maxHeartbeats 400000 in
theorem text_any (a : Int) (w : World) (he : Env w) :
    Calls Tryd.prog 32 #[.int .i64 a] w fun e w' => e = .returned (.tuple #[.string ⟨(txN a).toArray⟩, .int .i64 (txE a)]) ∧ Below w.heap.size w w' := by
  cases hv : Fx.fxd a
  · rw [txN, txE, hv, if_neg (by decide), if_neg (by decide)]
    have HV := Lib.hid hv
    clear hv he
    go_enter Tryd.func32, Tryd.ntmps32
    go_wp2_with fail
    refine (fixed1_any _ a _ (by simp) (by simp [go_sem])).mono ?_; rintro e w' ⟨rfl, hb⟩; have hsz := hb.size; simp at hsz
    rw [HV.out]
    go_wp2_with fail
    go_ret2
    exact ⟨rfl, (by repeat (first | exact Below.refl _ _ | refine Below.alloc ?_ (by first | (simp; done) | (simp; omega) | omega) _ | refine Below.trans ?_ (hb.mono (by first | (simp; done) | (simp; omega) | omega))))⟩
  · rw [txN, txE, hv, if_pos rfl, if_pos rfl]
    exact text_ok a w he hv
end Go.Proofs.YtanhomngnickfaaDoor
