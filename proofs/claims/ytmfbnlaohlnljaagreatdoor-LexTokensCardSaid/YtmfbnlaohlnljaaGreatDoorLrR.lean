/-
  Contracts of the reference of layer 3: the token with which a string begins: strings between quotation marks.
-/
import Derived.Test.YtmfbnlaohlnljaaGreatDoorLrQ
namespace Go.Proofs.YtmfbnlaohlnljaaGreatDoor
open Go.RowKit

/-- Where a string ends, as the walk sees it: E is the place of the next quotation mark, or the end. -/
structure StrPre (l : List UInt8) (s : ByteArray) (E : Nat) : Prop where
  at0 : ∀ h : 0 < s.size, ((s[0].toNat : Int) == 34) = true
  pos : 1 ≤ E
  le : E ≤ s.size
  on : ∀ k, 1 ≤ k → k < E → ∀ h : k < s.size, ((s[k].toNat : Int) == 34) = false ∧ ((s[k].toNat : Int) != 34) = true
  stop : ∀ h : E < s.size, ((s[E].toNat : Int) == 34) = true ∧ ((s[E].toNat : Int) != 34) = false
  mid : s.extract 1 E = ⟨((l.drop 1).take (E - 1)).toArray⟩
theorem getD_drop1 (l : List UInt8) (k : Nat) (h : 1 ≤ k) : l.getD k 0 = (l.drop 1).getD (k - 1) 0 := by
  rw [List.getD, List.getD, List.getElem?_drop, show 1 + (k - 1) = k by omega]
theorem u8_34 {c : UInt8} (h : c = 34) : ((c.toNat : Int) == 34) = true ∧ ((c.toNat : Int) != 34) = false := by subst h; decide
theorem u8_n34 {c : UInt8} (h : c ≠ 34) : ((c.toNat : Int) == 34) = false ∧ ((c.toNat : Int) != 34) = true := by
  have h2 : ¬ (c.toNat : Int) = 34 := fun e => h (UInt8.toNat_inj.1 (by have : ((34 : UInt8).toNat : Int) = 34 := rfl; omega))
  exact ⟨by simpa using h2, by simpa using h2⟩
theorem strPre (l : List UInt8) (hne : l ≠ []) (hq : l.getD 0 0 = 34) : StrPre l ⟨l.toArray⟩ (Lx.runN Lx.notQ (l.drop 1) + 1) := by
  have hle := Lx.runN_le Lx.notQ (l.drop 1)
  rw [List.length_drop] at hle
  have hpos : 0 < l.length := List.length_pos_iff.2 hne
  have get : ∀ k (h : k < (⟨l.toArray⟩ : ByteArray).size), (⟨l.toArray⟩ : ByteArray)[k] = l.getD k 0 := fun k h => ba_get _ k h
  refine ⟨fun h => ?_, by omega, by rw [ba_size]; omega, fun k h1 h2 h => ?_, fun h => ?_, ?_⟩
  · rw [get 0 h]; exact (u8_34 hq).1
  · rw [get k h, getD_drop1 l k h1]
    refine u8_n34 ?_
    have := Lx.runN_at Lx.notQ (l.drop 1) (k - 1) (by omega)
    simpa [Lx.notQ] using this
  · rw [get _ h, getD_drop1 l _ (by omega)]
    refine u8_34 ?_
    rw [ba_size] at h
    have := Lx.runN_stop Lx.notQ (l.drop 1) (by rw [List.length_drop]; omega)
    simpa [Lx.notQ] using this
  · rw [ext_list]
    congr 2
    rw [show Lx.runN Lx.notQ (l.drop 1) + 1 - 1 = Lx.runN Lx.notQ (l.drop 1) by omega]
    rw [List.drop_take]
    rfl
set_option maxRecDepth 100000 in
set_option maxHeartbeats 8000000 in
theorem rone_str_open (l : List UInt8) (w : World) (hl : l.length ≤ 20000) (hne : l ≠ []) (hlet : Lx.runN Lx.letter l = 0) (hnum : Lx.numeral l = 0) (hq : l.getD 0 0 = 34) (hend : Lx.runN Lx.notQ (l.drop 1) = (l.drop 1).length) :
    Calls Tryz.prog 30 #[.string ⟨l.toArray⟩] w fun e w' => e = .returned (roneV (Lx.One.bad 1 10) l) ∧ Below w.heap.size w w' := by
  have HL := Lib.hid (fun W => rletters_any ⟨l.toArray⟩ W (by rw [ba_size]; unfold maxLen; omega))
  have HNM := Lib.hid (fun W => rnumber_any ⟨l.toArray⟩ W (by rw [ba_size]; unfold maxLen; omega))
  have h22 : (Lx.numParts l).2.2 = false := (Lx.numParts_eq l).2.1.trans (decide_eq_false (by omega))
  simp only at HL HNM
  rw [hlet] at HL
  rw [h22] at HNM
  have P := strPre l hne hq
  have hpos : 0 < l.length := List.length_pos_iff.2 hne
  have HPL := Lib.hid (fun W => rplain_any ⟨((l.drop 1).take (Lx.runN Lx.notQ (l.drop 1))).toArray⟩ W (by rw [ba_size, List.length_take, List.length_drop]; unfold maxLen; omega))
  have HFS := Lib.hid (fun W => rfirst_any ⟨l.toArray⟩ W (by rw [ba_size]; unfold maxLen; omega))
  simp only at HPL
  obtain ⟨E, hE⟩ : ∃ E, E = Lx.runN Lx.notQ (l.drop 1) + 1 := ⟨_, rfl⟩
  have hE1 : Lx.runN Lx.notQ (l.drop 1) = E - 1 := by omega
  rw [← hE] at P
  rw [hE1] at HPL
  have HX1 := Lib.hid (ext_head l 1)
  have HX40 := Lib.hid (ext_head l (min l.length 40))
  obtain ⟨s, hs⟩ : ∃ s : ByteArray, s = ⟨l.toArray⟩ := ⟨_, rfl⟩
  have hz : s.size = l.length := by rw [hs]; rfl
  rw [← hs] at HL HNM P HX1 HX40 HFS ⊢
  obtain ⟨T, hT⟩ : ∃ T : ByteArray, T = ⟨((l.drop 1).take (E - 1)).toArray⟩ := ⟨_, rfl⟩
  rw [← hT] at HPL
  have hmid : s.extract 1 E = T := by rw [hT]; exact P.mid
  have hsz0 : 0 < s.size := by omega
  have c0 := P.at0 hsz0
  have hE0 := P.pos
  have hEle := P.le
  have hsl : s.size ≤ 20000 := by omega
  have HON := Lib.hid P.on
  have HSTOP := Lib.hid P.stop

  have hEs : E = s.size := by rw [List.length_drop] at hend; omega
  have hx := HX1.out
  obtain ⟨F, hF⟩ : ∃ F : ByteArray, F = ⟨(l.take 1).toArray⟩ := ⟨_, rfl⟩
  rw [← hF] at hx
  have HF := Lib.hid hF
  have b1 : ((E : Int) == (s.size : Int)) = true := by simp; omega
  have b2 : ¬ E < s.size := by omega
  have HEs := Lib.hid hEs
  clear hF hT hs hz hEs hmid P hE hE1 h22 hpos hq hne hend HX1 HX40 HFS HSTOP
  generalize (Lx.numParts l).1 = f at HNM
  generalize (Lx.numParts l).2.1 = b at HNM
  go_enter Tryz.func30, Tryz.ntmps30
  go_wp2_with fail
  refine (HL.out _).mono ?_; rintro e w' ⟨rfl, rfl⟩
  go_wp2_with fail
  refine (HNM.out _).mono ?_; rintro e w' ⟨rfl, rfl⟩
  go_wp2_with fail
  go_loop [12] (fun v => ∃ k : Nat, v = .int .i64 k ∧ 1 ≤ k ∧ k ≤ E) (fun v => E - (intOf v).toNat)
  case atStart => exact ⟨1, rfl, by omega, by omega⟩
  case round =>
    obtain ⟨k, rfl, hk1, hk⟩ := hrel
    by_cases hlt : k < E
    · obtain ⟨e1, e2⟩ := HON.out k hk1 hlt (by omega)
      have hks : k < s.size := by omega
      go_wp2_with fail
      go_round
      case rel => exact ⟨k + 1, by go_num, by omega, by omega⟩
      case measure => simp [intOf]; omega

    · obtain rfl : k = E := by omega
      clear hlt hk hk1
      go_wp2_with fail
      go_region
      go_wp2_with fail
      exact bodyPost_ret (v := roneV (Lx.One.bad 1 10) l) (by simp [results, Tryz.results30, go_sem, roneV, tokV, faultV, Lx.One.bad]; exact HF.out) rfl ⟨rfl, (((Below.refl _ _).alloc (Nat.le_refl _) _).alloc (by simp) _).drew⟩
set_option maxRecDepth 100000 in
set_option maxHeartbeats 8000000 in
theorem rone_str_bad (l : List UInt8) (w : World) (hl : l.length ≤ 20000) (hne : l ≠ []) (hlet : Lx.runN Lx.letter l = 0) (hnum : Lx.numeral l = 0) (hq : l.getD 0 0 = 34) (hend : Lx.runN Lx.notQ (l.drop 1) < (l.drop 1).length) (hall : Lx.allB Lx.quot ((l.drop 1).take (Lx.runN Lx.notQ (l.drop 1))) = false) :
    Calls Tryz.prog 30 #[.string ⟨l.toArray⟩] w fun e w' => e = .returned (roneV (Lx.One.bad 1 10) l) ∧ Below w.heap.size w w' := by
  have HL := Lib.hid (fun W => rletters_any ⟨l.toArray⟩ W (by rw [ba_size]; unfold maxLen; omega))
  have HNM := Lib.hid (fun W => rnumber_any ⟨l.toArray⟩ W (by rw [ba_size]; unfold maxLen; omega))
  have h22 : (Lx.numParts l).2.2 = false := (Lx.numParts_eq l).2.1.trans (decide_eq_false (by omega))
  simp only at HL HNM
  rw [hlet] at HL
  rw [h22] at HNM
  have P := strPre l hne hq
  have hpos : 0 < l.length := List.length_pos_iff.2 hne
  have HPL := Lib.hid (fun W => rplain_any ⟨((l.drop 1).take (Lx.runN Lx.notQ (l.drop 1))).toArray⟩ W (by rw [ba_size, List.length_take, List.length_drop]; unfold maxLen; omega))
  have HFS := Lib.hid (fun W => rfirst_any ⟨l.toArray⟩ W (by rw [ba_size]; unfold maxLen; omega))
  simp only at HPL
  obtain ⟨E, hE⟩ : ∃ E, E = Lx.runN Lx.notQ (l.drop 1) + 1 := ⟨_, rfl⟩
  have hE1 : Lx.runN Lx.notQ (l.drop 1) = E - 1 := by omega
  rw [← hE] at P
  rw [hE1] at HPL
  have HX1 := Lib.hid (ext_head l 1)
  have HX40 := Lib.hid (ext_head l (min l.length 40))
  obtain ⟨s, hs⟩ : ∃ s : ByteArray, s = ⟨l.toArray⟩ := ⟨_, rfl⟩
  have hz : s.size = l.length := by rw [hs]; rfl
  rw [← hs] at HL HNM P HX1 HX40 HFS ⊢
  obtain ⟨T, hT⟩ : ∃ T : ByteArray, T = ⟨((l.drop 1).take (E - 1)).toArray⟩ := ⟨_, rfl⟩
  rw [← hT] at HPL
  have hmid : s.extract 1 E = T := by rw [hT]; exact P.mid
  have hsz0 : 0 < s.size := by omega
  have c0 := P.at0 hsz0
  have hE0 := P.pos
  have hEle := P.le
  have hsl : s.size ≤ 20000 := by omega
  have HON := Lib.hid P.on
  have HSTOP := Lib.hid P.stop

  have hEs : E < s.size := by rw [List.length_drop] at hend; omega
  rw [hE1] at hall
  have hTl : T.data.toList = (l.drop 1).take (E - 1) := by rw [hT]
  rw [hall] at HPL
  have hx := HX1.out
  obtain ⟨F, hF⟩ : ∃ F : ByteArray, F = ⟨(l.take 1).toArray⟩ := ⟨_, rfl⟩
  rw [← hF] at hx
  have HF := Lib.hid hF
  have b1 : ((E : Int) == (s.size : Int)) = false := by simp; omega
  clear hF hT hTl hs hz P hE hE1 h22 hpos hq hne hend hall HX1 HX40 HFS
  generalize (Lx.numParts l).1 = f at HNM
  generalize (Lx.numParts l).2.1 = b at HNM
  go_enter Tryz.func30, Tryz.ntmps30
  go_wp2_with fail
  refine (HL.out _).mono ?_; rintro e w' ⟨rfl, rfl⟩
  go_wp2_with fail
  refine (HNM.out _).mono ?_; rintro e w' ⟨rfl, rfl⟩
  go_wp2_with fail
  go_loop [12] (fun v => ∃ k : Nat, v = .int .i64 k ∧ 1 ≤ k ∧ k ≤ E) (fun v => E - (intOf v).toNat)
  case atStart => exact ⟨1, rfl, by omega, by omega⟩
  case round =>
    obtain ⟨k, rfl, hk1, hk⟩ := hrel
    by_cases hlt : k < E
    · obtain ⟨e1, e2⟩ := HON.out k hk1 hlt (by omega)
      have hks : k < s.size := by omega
      go_wp2_with fail
      go_round
      case rel => exact ⟨k + 1, by go_num, by omega, by omega⟩
      case measure => simp [intOf]; omega

    · obtain rfl : k = E := by omega
      obtain ⟨e1, e2⟩ := HSTOP.out hEs
      clear hlt hk hk1
      go_wp2_with fail
      refine (HPL.out _).mono ?_; rintro e w' ⟨rfl, rfl⟩
      go_wp2_with fail
      go_region
      go_wp2_with fail
      exact bodyPost_ret (v := roneV (Lx.One.bad 1 10) l) (by simp [results, Tryz.results30, go_sem, roneV, tokV, faultV, Lx.One.bad]; exact HF.out) rfl ⟨rfl, (((Below.refl _ _).alloc (Nat.le_refl _) _).alloc (by simp) _).drew⟩
set_option maxRecDepth 100000 in
set_option maxHeartbeats 8000000 in
theorem rone_str_long (l : List UInt8) (w : World) (hl : l.length ≤ 20000) (hne : l ≠ []) (hlet : Lx.runN Lx.letter l = 0) (hnum : Lx.numeral l = 0) (hq : l.getD 0 0 = 34) (hend : Lx.runN Lx.notQ (l.drop 1) < (l.drop 1).length) (hall : Lx.allB Lx.quot ((l.drop 1).take (Lx.runN Lx.notQ (l.drop 1))) = true) (h100 : 100 < Lx.runN Lx.notQ (l.drop 1)) :
    Calls Tryz.prog 30 #[.string ⟨l.toArray⟩] w fun e w' => e = .returned (roneV (Lx.One.bad (Lx.runN Lx.notQ (l.drop 1) + 2) 3) l) ∧ Below w.heap.size w w' := by
  have HL := Lib.hid (fun W => rletters_any ⟨l.toArray⟩ W (by rw [ba_size]; unfold maxLen; omega))
  have HNM := Lib.hid (fun W => rnumber_any ⟨l.toArray⟩ W (by rw [ba_size]; unfold maxLen; omega))
  have h22 : (Lx.numParts l).2.2 = false := (Lx.numParts_eq l).2.1.trans (decide_eq_false (by omega))
  simp only at HL HNM
  rw [hlet] at HL
  rw [h22] at HNM
  have P := strPre l hne hq
  have hpos : 0 < l.length := List.length_pos_iff.2 hne
  have HPL := Lib.hid (fun W => rplain_any ⟨((l.drop 1).take (Lx.runN Lx.notQ (l.drop 1))).toArray⟩ W (by rw [ba_size, List.length_take, List.length_drop]; unfold maxLen; omega))
  have HFS := Lib.hid (fun W => rfirst_any ⟨l.toArray⟩ W (by rw [ba_size]; unfold maxLen; omega))
  simp only at HPL
  obtain ⟨E, hE⟩ : ∃ E, E = Lx.runN Lx.notQ (l.drop 1) + 1 := ⟨_, rfl⟩
  have hE1 : Lx.runN Lx.notQ (l.drop 1) = E - 1 := by omega
  rw [← hE] at P
  rw [hE1] at HPL
  have HX1 := Lib.hid (ext_head l 1)
  have HX40 := Lib.hid (ext_head l (min l.length 40))
  obtain ⟨s, hs⟩ : ∃ s : ByteArray, s = ⟨l.toArray⟩ := ⟨_, rfl⟩
  have hz : s.size = l.length := by rw [hs]; rfl
  rw [← hs] at HL HNM P HX1 HX40 HFS ⊢
  obtain ⟨T, hT⟩ : ∃ T : ByteArray, T = ⟨((l.drop 1).take (E - 1)).toArray⟩ := ⟨_, rfl⟩
  rw [← hT] at HPL
  have hmid : s.extract 1 E = T := by rw [hT]; exact P.mid
  have hsz0 : 0 < s.size := by omega
  have c0 := P.at0 hsz0
  have hE0 := P.pos
  have hEle := P.le
  have hsl : s.size ≤ 20000 := by omega
  have HON := Lib.hid P.on
  have HSTOP := Lib.hid P.stop

  have hEs : E < s.size := by rw [List.length_drop] at hend; omega
  rw [hE1] at hall
  rw [hall] at HPL
  have h101 : 101 < E := by omega
  have HFX : Hid (∀ W, Calls Tryz.prog 58 #[.string s] W fun e w' => e = .returned (.string ⟨(l.take 40).toArray⟩) ∧ W = w') := fun W => by
    have := HFS.out W
    rw [hz, HX40.out, show min l.length 40 = 40 by omega] at this
    exact this
  obtain ⟨F, hF⟩ : ∃ F : ByteArray, F = ⟨(l.take 40).toArray⟩ := ⟨_, rfl⟩
  rw [← hF] at HFX
  have HR : Hid (roneV (Lx.One.bad (Lx.runN Lx.notQ (l.drop 1) + 2) 3) l = .tuple #[tokV ⟨0, [], 0, 0⟩ 0 0, .int .i64 0, .agg #[.int .i64 3, .string F, .int .i64 0, .int .i64 0]]) := by
    show _ = _
    rw [hF, roneV, Lx.One.bad, if_neg (show ¬ (3 : Int) = 0 by decide), faultV, show min (Lx.runN Lx.notQ (l.drop 1) + 2) 40 = 40 by omega]
  obtain ⟨R, hR⟩ : ∃ R, R = roneV (Lx.One.bad (Lx.runN Lx.notQ (l.drop 1) + 2) 3) l := ⟨_, rfl⟩
  rw [← hR] at HR ⊢
  have b1 : ((E : Int) == (s.size : Int)) = false := by simp; omega
  clear hF hT hs hz P hE hE1 h22 hpos hq hne hend hall HX1 HX40 HFS hR h100
  generalize (Lx.numParts l).1 = f at HNM
  generalize (Lx.numParts l).2.1 = b at HNM
  go_enter Tryz.func30, Tryz.ntmps30
  go_wp2_with fail
  refine (HL.out _).mono ?_; rintro e w' ⟨rfl, rfl⟩
  go_wp2_with fail
  refine (HNM.out _).mono ?_; rintro e w' ⟨rfl, rfl⟩
  go_wp2_with fail
  go_loop [12] (fun v => ∃ k : Nat, v = .int .i64 k ∧ 1 ≤ k ∧ k ≤ E) (fun v => E - (intOf v).toNat)
  case atStart => exact ⟨1, rfl, by omega, by omega⟩
  case round =>
    obtain ⟨k, rfl, hk1, hk⟩ := hrel
    by_cases hlt : k < E
    · obtain ⟨e1, e2⟩ := HON.out k hk1 hlt (by omega)
      have hks : k < s.size := by omega
      go_wp2_with fail
      go_round
      case rel => exact ⟨k + 1, by go_num, by omega, by omega⟩
      case measure => simp [intOf]; omega

    · obtain rfl : k = E := by omega
      obtain ⟨e1, e2⟩ := HSTOP.out hEs
      clear hlt hk hk1
      go_wp2_with fail
      refine (HPL.out _).mono ?_; rintro e w' ⟨rfl, rfl⟩
      go_wp2_with fail
      refine (HFX.out _).mono ?_; rintro e w' ⟨rfl, rfl⟩
      go_wp2_with fail
      exact bodyPost_ret (v := R) (by rw [HR.out]; simp [results, Tryz.results30, go_sem, tokV]) rfl ⟨rfl, (((Below.refl _ _).alloc (Nat.le_refl _) _).alloc (by simp) _)⟩
set_option maxRecDepth 100000 in
set_option maxHeartbeats 8000000 in
theorem rone_str_ok (l : List UInt8) (w : World) (hl : l.length ≤ 20000) (hne : l ≠ []) (hlet : Lx.runN Lx.letter l = 0) (hnum : Lx.numeral l = 0) (hq : l.getD 0 0 = 34) (hend : Lx.runN Lx.notQ (l.drop 1) < (l.drop 1).length) (hall : Lx.allB Lx.quot ((l.drop 1).take (Lx.runN Lx.notQ (l.drop 1))) = true) (h100 : ¬ 100 < Lx.runN Lx.notQ (l.drop 1)) :
    Calls Tryz.prog 30 #[.string ⟨l.toArray⟩] w fun e w' => e = .returned (roneV ⟨⟨3, (l.drop 1).take (Lx.runN Lx.notQ (l.drop 1)), 0, 0⟩, Lx.runN Lx.notQ (l.drop 1) + 2, 0⟩ l) ∧ Below w.heap.size w w' := by
  have HL := Lib.hid (fun W => rletters_any ⟨l.toArray⟩ W (by rw [ba_size]; unfold maxLen; omega))
  have HNM := Lib.hid (fun W => rnumber_any ⟨l.toArray⟩ W (by rw [ba_size]; unfold maxLen; omega))
  have h22 : (Lx.numParts l).2.2 = false := (Lx.numParts_eq l).2.1.trans (decide_eq_false (by omega))
  simp only at HL HNM
  rw [hlet] at HL
  rw [h22] at HNM
  have P := strPre l hne hq
  have hpos : 0 < l.length := List.length_pos_iff.2 hne
  have HPL := Lib.hid (fun W => rplain_any ⟨((l.drop 1).take (Lx.runN Lx.notQ (l.drop 1))).toArray⟩ W (by rw [ba_size, List.length_take, List.length_drop]; unfold maxLen; omega))
  have HFS := Lib.hid (fun W => rfirst_any ⟨l.toArray⟩ W (by rw [ba_size]; unfold maxLen; omega))
  simp only at HPL
  obtain ⟨E, hE⟩ : ∃ E, E = Lx.runN Lx.notQ (l.drop 1) + 1 := ⟨_, rfl⟩
  have hE1 : Lx.runN Lx.notQ (l.drop 1) = E - 1 := by omega
  rw [← hE] at P
  rw [hE1] at HPL
  have HX1 := Lib.hid (ext_head l 1)
  have HX40 := Lib.hid (ext_head l (min l.length 40))
  obtain ⟨s, hs⟩ : ∃ s : ByteArray, s = ⟨l.toArray⟩ := ⟨_, rfl⟩
  have hz : s.size = l.length := by rw [hs]; rfl
  rw [← hs] at HL HNM P HX1 HX40 HFS ⊢
  obtain ⟨T, hT⟩ : ∃ T : ByteArray, T = ⟨((l.drop 1).take (E - 1)).toArray⟩ := ⟨_, rfl⟩
  rw [← hT] at HPL
  have hmid : s.extract 1 E = T := by rw [hT]; exact P.mid
  have hsz0 : 0 < s.size := by omega
  have c0 := P.at0 hsz0
  have hE0 := P.pos
  have hEle := P.le
  have hsl : s.size ≤ 20000 := by omega
  have HON := Lib.hid P.on
  have HSTOP := Lib.hid P.stop

  have hEs : E < s.size := by rw [List.length_drop] at hend; omega
  rw [hE1] at hall
  rw [hall] at HPL
  have h101 : ¬ 101 < E := by omega
  have HR : Hid (roneV ⟨⟨3, (l.drop 1).take (Lx.runN Lx.notQ (l.drop 1)), 0, 0⟩, Lx.runN Lx.notQ (l.drop 1) + 2, 0⟩ l = .tuple #[.agg #[.int .i64 3, .string T, .int .i64 0, .int .i64 0, .int .i64 0, .int .i64 0], .int .i64 ((E : Int) + 1), faultV 0 [] 0 0]) := by
    show _ = _
    rw [hT, roneV, if_pos rfl, tokV, hE1, show ((E - 1 + 2 : Nat) : Int) = (E : Int) + 1 by omega]
  obtain ⟨R, hR⟩ : ∃ R, R = roneV ⟨⟨3, (l.drop 1).take (Lx.runN Lx.notQ (l.drop 1)), 0, 0⟩, Lx.runN Lx.notQ (l.drop 1) + 2, 0⟩ l := ⟨_, rfl⟩
  rw [← hR] at HR ⊢
  have b1 : ((E : Int) == (s.size : Int)) = false := by simp; omega
  clear hT hs hz P hE hE1 h22 hpos hq hne hend hall HX1 HX40 HFS hR h100
  generalize (Lx.numParts l).1 = f at HNM
  generalize (Lx.numParts l).2.1 = b at HNM
  go_enter Tryz.func30, Tryz.ntmps30
  go_wp2_with fail
  refine (HL.out _).mono ?_; rintro e w' ⟨rfl, rfl⟩
  go_wp2_with fail
  refine (HNM.out _).mono ?_; rintro e w' ⟨rfl, rfl⟩
  go_wp2_with fail
  go_loop [12] (fun v => ∃ k : Nat, v = .int .i64 k ∧ 1 ≤ k ∧ k ≤ E) (fun v => E - (intOf v).toNat)
  case atStart => exact ⟨1, rfl, by omega, by omega⟩
  case round =>
    obtain ⟨k, rfl, hk1, hk⟩ := hrel
    by_cases hlt : k < E
    · obtain ⟨e1, e2⟩ := HON.out k hk1 hlt (by omega)
      have hks : k < s.size := by omega
      go_wp2_with fail
      go_round
      case rel => exact ⟨k + 1, by go_num, by omega, by omega⟩
      case measure => simp [intOf]; omega

    · obtain rfl : k = E := by omega
      obtain ⟨e1, e2⟩ := HSTOP.out hEs
      clear hlt hk hk1
      go_wp2_with fail
      refine (HPL.out _).mono ?_; rintro e w' ⟨rfl, rfl⟩
      go_wp2_with fail
      exact bodyPost_ret (v := R) (by rw [HR.out]; simp [results, Tryz.results30, go_sem, faultV]) rfl ⟨rfl, (((Below.refl _ _).alloc (Nat.le_refl _) _).alloc (by simp) _)⟩
end Go.Proofs.YtmfbnlaohlnljaaGreatDoor
