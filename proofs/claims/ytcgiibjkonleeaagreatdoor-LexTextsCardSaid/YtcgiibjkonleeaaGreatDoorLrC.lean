/-
  Contracts of the reference of layer 3: numbers in decimals.
-/
import Derived.Test.YtcgiibjkonleeaaGreatDoorLrB
namespace Go.Proofs.YtcgiibjkonleeaaGreatDoor
open Go.RowKit

def digV (b : Bool) (s : List UInt8) : Value := .tuple #[.string ⟨s.toArray⟩, .bool b]
theorem ret_dig {a : ByteArray} {s : List UInt8} {b c : Bool} (h : a = ⟨s.toArray⟩) (h2 : b = c) : Ending.returned (.tuple #[.string a, .bool b]) = .returned (digV c s) := by rw [h, h2]; rfl
theorem vld_one {x : Int} (h0 : 0 ≤ x) (h1 : x ≤ 2147483647) : Nm.vld x 1 = true := by
  unfold Nm.vld
  rw [decide_eq_true_eq]
  exact ⟨by omega, by omega, by omega, by omega, by simp [Nm.gcdn]⟩
theorem txt_one {x : Int} (h : 0 ≤ x) : txt x 1 = Lib.decDigits x.toNat := by
  obtain ⟨n, rfl⟩ : ∃ n : Nat, x = n := ⟨x.toNat, by omega⟩
  rw [txt, if_pos rfl, Lib.itoa_nonneg]; rfl
set_option maxHeartbeats 4000000 in
theorem rdig_inv (p q : Int) (w : World) (h1 : -9223372036854775808 ≤ p) (h2 : p ≤ 9223372036854775807) (h3 : -9223372036854775808 ≤ q) (h4 : q ≤ 9223372036854775807) (hv : Nm.vld p q = false) :
    Calls Tryz.prog 35 #[.agg #[.int .i64 p, .int .i64 q]] w fun e w' => e = .returned (digV false []) ∧ Below w.heap.size w w' := by
  have HV := Lib.hid (fun W => rvalid_any p q W h1 h2 h3 h4)
  rw [hv] at HV
  clear hv
  go_enter Tryz.func35, Tryz.ntmps35
  go_wp2_with fail
  refine (HV.out _).mono ?_; rintro e w1 ⟨rfl, hb⟩; have hz1 := hb.size; simp at hz1; have h2 := (hb.block w.heap.size (by simp)).trans (heap_alloc_new w _); have B1 := Lib.hid (((Below.refl w.heap.size w).alloc (Nat.le_refl _) (.cells #[.int .i64 p, .int .i64 q] 36)).trans (hb.mono (by simp))); have K1 := Lib.hid h2; obtain ⟨⟨z0, z1⟩, hlt⟩ := blk2 h2; clear hb h2
  clear z0 z1
  go_wp2_with fail
  go_ret2
  exact ⟨rfl, B1.out⟩
set_option maxHeartbeats 4000000 in
theorem rdig_neg (p q : Int) (w : World) (hv : Nm.vld p q = true) (hp : p < 0) :
    Calls Tryz.prog 35 #[.agg #[.int .i64 p, .int .i64 q]] w fun e w' => e = .returned (digV false []) ∧ Below w.heap.size w w' := by
  obtain ⟨q1, q2, p1, p2⟩ := vld_pos hv
  have HV := Lib.hid (fun W => rvalid_any p q W (by omega) (by omega) (by omega) (by omega))
  rw [hv] at HV
  clear hv
  go_enter Tryz.func35, Tryz.ntmps35
  go_wp2_with fail
  refine (HV.out _).mono ?_; rintro e w1 ⟨rfl, hb⟩; have hz1 := hb.size; simp at hz1; have h2 := (hb.block w.heap.size (by simp)).trans (heap_alloc_new w _); have B1 := Lib.hid (((Below.refl w.heap.size w).alloc (Nat.le_refl _) (.cells #[.int .i64 p, .int .i64 q] 36)).trans (hb.mono (by simp))); have K1 := Lib.hid h2; obtain ⟨⟨z0, z1⟩, hlt⟩ := blk2 h2; clear hb h2
  go_wp2_with fail
  go_ret2
  exact ⟨rfl, B1.out⟩
set_option maxHeartbeats 4000000 in
theorem rdig_big (p q : Int) (w : World) (hv : Nm.vld p q = true) (hp : 0 ≤ p) (hb9 : 1000000000 ≤ p / q) :
    Calls Tryz.prog 35 #[.agg #[.int .i64 p, .int .i64 q]] w fun e w' => e = .returned (digV false []) ∧ Below w.heap.size w w' := by
  obtain ⟨q1, q2, p1, p2⟩ := vld_pos hv; have HV := Lib.hid (fun W => rvalid_any p q W (by omega) (by omega) (by omega) (by omega)); have hW0 : 0 ≤ p / q := Int.ediv_nonneg hp (by omega); have hW1 : p / q ≤ p := Int.ediv_le_self q hp; have HT := Lib.hid (fun W => rtext_ok (p / q) 1 W (vld_one hW0 (by omega))); have hm0 := Int.emod_nonneg p (show q ≠ 0 by omega); have hm1 := Int.emod_lt_of_pos p (show 0 < q by omega); have htx := txt_one hW0; rw [htx] at HT
  have hlen : 9 < (⟨(Lib.decDigits (p / q).toNat).toArray⟩ : ByteArray).size := by rw [ba_size]; exact Lx.dec_long 9 _ (by omega)
  have hlen2 : (⟨(Lib.decDigits (p / q).toNat).toArray⟩ : ByteArray).size ≤ 21 := by rw [ba_size]; exact dec_lenN _ (by omega)
  rw [hv] at HV
  generalize hW : p / q = W0 at *
  generalize (⟨(Lib.decDigits W0.toNat).toArray⟩ : ByteArray) = S at HT hlen hlen2
  clear hv htx
  go_enter Tryz.func35, Tryz.ntmps35
  go_wp2_with fail
  refine (HV.out _).mono ?_; rintro e w1 ⟨rfl, hb⟩; have hz1 := hb.size; simp at hz1; have h2 := (hb.block w.heap.size (by simp)).trans (heap_alloc_new w _); have B1 := Lib.hid (((Below.refl w.heap.size w).alloc (Nat.le_refl _) (.cells #[.int .i64 p, .int .i64 q] 36)).trans (hb.mono (by simp))); have K1 := Lib.hid h2; obtain ⟨⟨z0, z1⟩, hlt⟩ := blk2 h2; clear hb h2
  go_wp2_with fail
  refine (HT.out _).mono ?_; rintro e w2 ⟨rfl, hb⟩; have h2 := (hb.block w.heap.size (by omega)).trans K1.out; have B2 := Lib.hid (B1.out.trans (hb.mono B1.out.size)); obtain ⟨⟨z0, z1⟩, hlt⟩ := blk2 h2; clear hb h2 K1
  go_wp2_with fail
  go_ret2
  exact ⟨rfl, B2.out⟩
set_option maxHeartbeats 4000000 in
theorem rdig_whole (p q : Int) (w : World) (hv : Nm.vld p q = true) (hp : 0 ≤ p) (hb9 : p / q < 1000000000) (hm : p % q = 0) :
    Calls Tryz.prog 35 #[.agg #[.int .i64 p, .int .i64 q]] w fun e w' => e = .returned (digV true (Lx.spellN p q)) ∧ Below w.heap.size w w' := by
  have HS := Lib.hid (Lx.digs_whole hv hp hb9 hm).2
  obtain ⟨q1, q2, p1, p2⟩ := vld_pos hv; have HV := Lib.hid (fun W => rvalid_any p q W (by omega) (by omega) (by omega) (by omega)); have hW0 : 0 ≤ p / q := Int.ediv_nonneg hp (by omega); have hW1 : p / q ≤ p := Int.ediv_le_self q hp; have HT := Lib.hid (fun W => rtext_ok (p / q) 1 W (vld_one hW0 (by omega))); have hm0 := Int.emod_nonneg p (show q ≠ 0 by omega); have hm1 := Int.emod_lt_of_pos p (show 0 < q by omega); have htx := txt_one hW0; rw [htx] at HT
  have hlen2 : (⟨(Lib.decDigits (p / q).toNat).toArray⟩ : ByteArray).size ≤ 9 := by rw [ba_size]; exact Lx.dec_short 8 _ (by omega)
  have HE : Hid ((⟨(Lib.decDigits (p / q).toNat).toArray⟩ : ByteArray) = ⟨(Lx.spellN p q).toArray⟩) := by
    show _ = _
    rw [HS.out, ← htx, txt, if_pos rfl]
  rw [hv] at HV
  generalize hW : p / q = W0 at *
  generalize (⟨(Lib.decDigits W0.toNat).toArray⟩ : ByteArray) = S at HT hlen2 HE
  have e1 : (p % q == 0) = true := by simpa using hm
  generalize hM : p % q = M at *
  clear hv htx HS
  go_enter Tryz.func35, Tryz.ntmps35
  go_wp2_with fail
  refine (HV.out _).mono ?_; rintro e w1 ⟨rfl, hb⟩; have hz1 := hb.size; simp at hz1; have h2 := (hb.block w.heap.size (by simp)).trans (heap_alloc_new w _); have B1 := Lib.hid (((Below.refl w.heap.size w).alloc (Nat.le_refl _) (.cells #[.int .i64 p, .int .i64 q] 36)).trans (hb.mono (by simp))); have K1 := Lib.hid h2; obtain ⟨⟨z0, z1⟩, hlt⟩ := blk2 h2; clear hb h2
  go_wp2_with fail
  refine (HT.out _).mono ?_; rintro e w2 ⟨rfl, hb⟩; have h2 := (hb.block w.heap.size (by omega)).trans K1.out; have B2 := Lib.hid (B1.out.trans (hb.mono B1.out.size)); obtain ⟨⟨z0, z1⟩, hlt⟩ := blk2 h2; clear hb h2 K1
  go_wp2_with fail
  go_ret2
  exact ⟨ret_dig HE.out rfl, B2.out⟩
/-- What holds at each round of Digits' loop. -/
structure DRnd (p q : Int) (W : List UInt8) (i : Nat) (r : Int) (S : ByteArray) (G : List UInt8) : Prop where
  r0 : 0 < r
  r1 : r < q
  len : G.length = i
  dg : dig G = true
  val : ((dval G : Nat) : Int) * q + r = p % q * ((10 ^ i : Nat) : Int)
  str : S = ⟨(W ++ 46 :: G).toArray⟩
set_option maxRecDepth 100000 in
set_option maxHeartbeats 8000000 in
theorem rdig_loop (p q : Int) (w : World) (hv : Nm.vld p q = true) (hp : 0 ≤ p) (hb9 : p / q < 1000000000) (hm : p % q ≠ 0) :
    Calls Tryz.prog 35 #[.agg #[.int .i64 p, .int .i64 q]] w fun e w' => e = .returned (digV (Lx.decB p q) (if Lx.decB p q = true then Lx.spellN p q else [])) ∧ Below w.heap.size w w' := by
  obtain ⟨q1, q2, p1, p2⟩ := vld_pos hv; have HV := Lib.hid (fun W => rvalid_any p q W (by omega) (by omega) (by omega) (by omega)); have hW0 : 0 ≤ p / q := Int.ediv_nonneg hp (by omega); have hW1 : p / q ≤ p := Int.ediv_le_self q hp; have HT := Lib.hid (fun W => rtext_ok (p / q) 1 W (vld_one hW0 (by omega))); have hm0 := Int.emod_nonneg p (show q ≠ 0 by omega); have hm1 := Int.emod_lt_of_pos p (show 0 < q by omega); have htx := txt_one hW0; rw [htx] at HT
  have hlen2 : (Lib.decDigits (p / q).toNat).length ≤ 9 := Lx.dec_short 8 _ (by omega)
  have HIT : Hid (Lib.itoa (p / q) = Lib.decDigits (p / q).toNat) := by rw [← htx, txt, if_pos rfl]; rfl
  have HSP := Lib.hid (fun G c => Lx.digs_spell hv hp hb9 G c)
  have HNO := Lib.hid (fun r D => Lx.digs_no (r := r) hv D)
  obtain ⟨WL, hWL⟩ : ∃ WL, WL = Lib.decDigits (p / q).toNat := ⟨_, rfl⟩
  rw [← hWL] at HT hlen2 HIT
  have R0 : Hid (DRnd p q WL 0 (p % q) ((⟨WL.toArray⟩ : ByteArray) ++ ⟨#[46]⟩) []) := ⟨by omega, hm1, rfl, rfl, by simp [dval, dvalFrom], by apply ByteArray.ext; simp⟩
  have hs1 : (⟨WL.toArray⟩ : ByteArray).size ≤ 9 := hlen2
  rw [hv] at HV
  have e1 : (p % q == 0) = false := by simpa using hm
  obtain ⟨T, hT⟩ : ∃ T, T = (if Lx.decB p q = true then Lx.spellN p q else []) := ⟨_, rfl⟩
  rw [← hT]
  generalize hSP : Lx.spellN p q = SP at *
  generalize hDB : Lx.decB p q = DB at *
  generalize hW : p / q = W0 at *
  have HTT := Lib.hid hT
  clear hv htx hWL hm hT hSP hDB
  go_enter Tryz.func35, Tryz.ntmps35
  go_wp2_with fail
  refine (HV.out _).mono ?_; rintro e w1 ⟨rfl, hb⟩; have hz1 := hb.size; simp at hz1; have h2 := (hb.block w.heap.size (by simp)).trans (heap_alloc_new w _); have B1 := Lib.hid (((Below.refl w.heap.size w).alloc (Nat.le_refl _) (.cells #[.int .i64 p, .int .i64 q] 36)).trans (hb.mono (by simp))); have K1 := Lib.hid h2; obtain ⟨⟨z0, z1⟩, hlt⟩ := blk2 h2; clear hb h2
  go_wp2_with fail
  refine (HT.out _).mono ?_; rintro e w2 ⟨rfl, hb⟩; have h2 := (hb.block w.heap.size (by omega)).trans K1.out; have B2 := Lib.hid (B1.out.trans (hb.mono B1.out.size)); obtain ⟨⟨z0, z1⟩, hlt⟩ := blk2 h2; clear hb h2 K1
  go_wp2_with fail
  go_loop [6, 4, 7] (fun vr vs vi => ∃ (i : Nat) (r : Int) (S : ByteArray) (G : List UInt8), vi = .int .i64 i ∧ vr = .int .i64 r ∧ vs = .string S ∧ i ≤ 5 ∧ S.size ≤ 10 + i ∧ Hid (DRnd p q WL i r S G)) (fun _ _ vi => 5 - (intOf vi).toNat)
  case atStart => exact ⟨0, _, _, _, rfl, rfl, rfl, by omega, by rw [ByteArray.size_append]; show (⟨WL.toArray⟩ : ByteArray).size + 1 ≤ 10; omega, R0.out⟩
  case round =>
    obtain ⟨i, r, S, G, rfl, rfl, rfl, hi, hsz, hrd⟩ := hrel
    have H := hrd
    clear hrd R0
    have r0 := H.out.r0
    have r1 := H.out.r1
    by_cases hi5 : i < 5
    · obtain ⟨d, hd, hd10, m0, m1, hdp, hdig, hval⟩ := Lx.digs_step (by omega) r0 r1 H.out.len H.out.dg H.out.val
      have HDP := Lib.hid hdp
      have HDG := Lib.hid hdig
      have HVL := Lib.hid hval
      have hen0 := encN ⟨d, hd10⟩
      obtain ⟨dgt, hdg⟩ : ∃ b : ByteArray, b = ⟨#[UInt8.ofNat (48 + d)]⟩ := ⟨_, rfl⟩
      have hen : Utf8.encode (48 + (d : Int)) = dgt := by rw [hdg]; exact hen0
      have hsd : dgt.size = 1 := by rw [hdg]; rfl
      obtain ⟨z, hz⟩ : ∃ z : Int, (d : Int) = z := ⟨_, rfl⟩
      have z0 : 0 ≤ z := by omega
      have z1 : z < 10 := by omega
      rw [hz] at hen hd
      clear hz
      have HST : Hid (S ++ dgt = ⟨(WL ++ 46 :: (G ++ [UInt8.ofNat (48 + d)])).toArray⟩) := by
        show _ = _
        rw [H.out.str, hdg]; apply ByteArray.ext; simp
      have hss : (S ++ dgt).size ≤ 10 + (i + 1) := by rw [ByteArray.size_append]; omega
      obtain ⟨X, hX⟩ : ∃ X, r * 10 % q = X := ⟨_, rfl⟩
      rw [hX] at m0 m1 HDP HVL
      have HD10 := Lib.hid hd10
      clear hdp hdig hval hen0 hdg hd10
      by_cases hx0 : X = 0
      · have ex : (X == 0) = true := by simpa using hx0
        have RES : Hid (DB = true ∧ SP = WL ++ 46 :: (G ++ [UInt8.ofNat (48 + d)])) := by
          have hd0 := HDP.out hx0
          have hd10 := HD10.out
          have hl := H.out.len
          have hv2 := HVL.out
          have := HSP.out G (UInt8.ofNat (48 + d)) HDG.out (by intro e; have := congrArg UInt8.toNat e; rw [UInt8.toNat_ofNat'] at this; have h48 : (48 : UInt8).toNat = 48 := rfl; omega) (by rw [List.length_append]; simp; omega) (by rw [hx0, Int.add_zero] at hv2; rw [hv2, List.length_append, hl]; rfl)
          rw [HIT.out] at this
          exact this
        go_wp2_with fail
        go_ret2
        refine ⟨ret_dig ?_ RES.out.1.symm, B2.out⟩
        rw [HTT.out, RES.out.1, if_pos rfl, RES.out.2]
        exact HST.out
      · have ex : (X == 0) = false := by simpa using hx0
        have NX : Hid (DRnd p q WL (i + 1) X (S ++ dgt) (G ++ [UInt8.ofNat (48 + d)])) := ⟨by omega, m1, by rw [List.length_append, H.out.len]; rfl, HDG.out, HVL.out, HST.out⟩
        go_wp2_with fail
        go_round
        case rel => exact ⟨i + 1, _, _, G ++ [UInt8.ofNat (48 + d)], by go_num, rfl, rfl, by omega, hss, by rw [hX]; exact NX.out⟩
        case measure => simp [intOf]; omega
    · have hdb : Hid (DB = false) := by
        have hv2 := H.out.val
        have : i = 5 := by omega
        rw [this] at hv2
        exact HNO.out r (dval G) hv2 r0 r1
      go_wp2_with fail
      go_ret2
      exact ⟨ret_dig (by rw [HTT.out, hdb.out]; rfl) hdb.out.symm, B2.out⟩
/-- Digits of a number. -/
theorem rdig_any (p q : Int) (w : World) (h1 : -9223372036854775808 ≤ p) (h2 : p ≤ 9223372036854775807) (h3 : -9223372036854775808 ≤ q) (h4 : q ≤ 9223372036854775807) :
    Calls Tryz.prog 35 #[.agg #[.int .i64 p, .int .i64 q]] w fun e w' => e = .returned (digV (Lx.decB p q) (if Lx.decB p q = true then Lx.spellN p q else [])) ∧ Below w.heap.size w w' := by
  cases hv : Nm.vld p q
  · have hd : Lx.decB p q = false := by unfold Lx.decB; rw [hv]; rfl
    rw [hd]; exact rdig_inv p q w h1 h2 h3 h4 hv
  by_cases hp : 0 ≤ p
  · by_cases h9 : p / q < 1000000000
    · by_cases hm : p % q = 0
      · have hd := (Lx.digs_whole hv hp h9 hm).1
        rw [hd, if_pos rfl]; exact rdig_whole p q w hv hp h9 hm
      · exact rdig_loop p q w hv hp h9 hm
    · have hd : Lx.decB p q = false := by unfold Lx.decB; simp [h9]
      rw [hd]; exact rdig_big p q w hv hp (by omega)
  · have hd : Lx.decB p q = false := by unfold Lx.decB; simp [hp]
    rw [hd]; exact rdig_neg p q w hv (by omega)
end Go.Proofs.YtcgiibjkonleeaaGreatDoor
