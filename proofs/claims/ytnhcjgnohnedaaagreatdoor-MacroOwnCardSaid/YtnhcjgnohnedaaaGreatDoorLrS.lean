/-
  Contracts of the reference of layer 3: the token with which a string begins: strings between quotation marks.
  Contracts of the reference of layer 3: the token with which a string begins: signs.
  Contracts of the reference of layer 3: the token with which a string begins: no sign.
  Contracts of the reference of layer 3: the token with which a string begins, whatever it is.
-/
import Derived.Test.YtnhcjgnohnedaaaGreatDoorLrQ
import Derived.BigRegion
namespace Go.Proofs.YtnhcjgnohnedaaaGreatDoor
open Go.RowKit

/-- Where a string ends, as the walk sees it: E is the place of the next quotation mark, or the end. -/
structure StrPre (l : List UInt8) (s : ByteArray) (E : Nat) : Prop where
  at0 : ∀ h : 0 < s.size, ((s[0].toNat : Int) == 34) = true
  pos : 1 ≤ E
  le : E ≤ s.size
  on : ∀ k, 1 ≤ k → k < E → ∀ h : k < s.size, ((s[k].toNat : Int) == 34) = false ∧ ((s[k].toNat : Int) != 34) = true
  stop : ∀ h : E < s.size, ((s[E].toNat : Int) == 34) = true ∧ ((s[E].toNat : Int) != 34) = false
  mid : s.extract 1 E = ⟨((l.drop 1).take (E - 1)).toArray⟩
theorem getD_drop1 (l : List UInt8) (k : Nat) (h : 1 ≤ k) : l.getD k 0 = (l.drop 1).getD (k - 1) 0 := by
  rw [List.getD, List.getD, List.getElem?_drop, show 1 + (k - 1) = k by omega]
theorem u8_34 {c : UInt8} (h : c = 34) : ((c.toNat : Int) == 34) = true ∧ ((c.toNat : Int) != 34) = false := by subst h; decide
theorem u8_n34 {c : UInt8} (h : c ≠ 34) : ((c.toNat : Int) == 34) = false ∧ ((c.toNat : Int) != 34) = true := by
  have h2 : ¬ (c.toNat : Int) = 34 := fun e => h (UInt8.toNat_inj.1 (by have : ((34 : UInt8).toNat : Int) = 34 := rfl; omega))
  exact ⟨by simpa using h2, by simpa using h2⟩
theorem strPre (l : List UInt8) (hne : l ≠ []) (hq : l.getD 0 0 = 34) : StrPre l ⟨l.toArray⟩ (Lx.runN Lx.notQ (l.drop 1) + 1) := by
  have hle := Lx.runN_le Lx.notQ (l.drop 1)
  rw [List.length_drop] at hle
  have hpos : 0 < l.length := List.length_pos_iff.2 hne
  have get : ∀ k (h : k < (⟨l.toArray⟩ : ByteArray).size), (⟨l.toArray⟩ : ByteArray)[k] = l.getD k 0 := fun k h => ba_get _ k h
  refine ⟨fun h => ?_, by omega, by rw [ba_size]; omega, fun k h1 h2 h => ?_, fun h => ?_, ?_⟩
  · rw [get 0 h]; exact (u8_34 hq).1
  · rw [get k h, getD_drop1 l k h1]
    refine u8_n34 ?_
    have := Lx.runN_at Lx.notQ (l.drop 1) (k - 1) (by omega)
    simpa [Lx.notQ] using this
  · rw [get _ h, getD_drop1 l _ (by omega)]
    refine u8_34 ?_
    rw [ba_size] at h
    have := Lx.runN_stop Lx.notQ (l.drop 1) (by rw [List.length_drop]; omega)
    simpa [Lx.notQ] using this
  · rw [ext_list]
    congr 2
    rw [show Lx.runN Lx.notQ (l.drop 1) + 1 - 1 = Lx.runN Lx.notQ (l.drop 1) by omega]
    rw [List.drop_take]
    rfl
set_option maxRecDepth 100000 in
set_option maxHeartbeats 8000000 in
theorem rone_str_open (l : List UInt8) (w : World) (hl : l.length ≤ 20000) (hne : l ≠ []) (hlet : Lx.runN Lx.letter l = 0) (hnum : Lx.numeral l = 0) (hq : l.getD 0 0 = 34) (hend : Lx.runN Lx.notQ (l.drop 1) = (l.drop 1).length) :
    Calls Tryz.prog 49 #[.string ⟨l.toArray⟩] w fun e w' => e = .returned (roneV (Lx.One.bad 1 10) l) ∧ Below w.heap.size w w' := by
  have HL := Lib.hid (fun W => rletters_any ⟨l.toArray⟩ W (by rw [ba_size]; unfold maxLen; omega))
  have HNM := Lib.hid (fun W => rnumber_any ⟨l.toArray⟩ W (by rw [ba_size]; unfold maxLen; omega))
  have h22 : (Lx.numParts l).2.2 = false := (Lx.numParts_eq l).2.1.trans (decide_eq_false (by omega))
  simp only at HL HNM
  rw [hlet] at HL
  rw [h22] at HNM
  have P := strPre l hne hq
  have hpos : 0 < l.length := List.length_pos_iff.2 hne
  have HPL := Lib.hid (fun W => rplain_any ⟨((l.drop 1).take (Lx.runN Lx.notQ (l.drop 1))).toArray⟩ W (by rw [ba_size, List.length_take, List.length_drop]; unfold maxLen; omega))
  have HFS := Lib.hid (fun W => rfirst_any ⟨l.toArray⟩ W (by rw [ba_size]; unfold maxLen; omega))
  simp only at HPL
  obtain ⟨E, hE⟩ : ∃ E, E = Lx.runN Lx.notQ (l.drop 1) + 1 := ⟨_, rfl⟩
  have hE1 : Lx.runN Lx.notQ (l.drop 1) = E - 1 := by omega
  rw [← hE] at P
  rw [hE1] at HPL
  have HX1 := Lib.hid (ext_head l 1)
  have HX40 := Lib.hid (ext_head l (min l.length 40))
  obtain ⟨s, hs⟩ : ∃ s : ByteArray, s = ⟨l.toArray⟩ := ⟨_, rfl⟩
  have hz : s.size = l.length := by rw [hs]; rfl
  rw [← hs] at HL HNM P HX1 HX40 HFS ⊢
  obtain ⟨T, hT⟩ : ∃ T : ByteArray, T = ⟨((l.drop 1).take (E - 1)).toArray⟩ := ⟨_, rfl⟩
  rw [← hT] at HPL
  have hmid : s.extract 1 E = T := by rw [hT]; exact P.mid
  have hsz0 : 0 < s.size := by omega
  have c0 := P.at0 hsz0
  have hE0 := P.pos
  have hEle := P.le
  have hsl : s.size ≤ 20000 := by omega
  have HON := Lib.hid P.on
  have HSTOP := Lib.hid P.stop

  have hEs : E = s.size := by rw [List.length_drop] at hend; omega
  have hx := HX1.out
  obtain ⟨F, hF⟩ : ∃ F : ByteArray, F = ⟨(l.take 1).toArray⟩ := ⟨_, rfl⟩
  rw [← hF] at hx
  have HF := Lib.hid hF
  have b1 : ((E : Int) == (s.size : Int)) = true := by simp; omega
  have b2 : ¬ E < s.size := by omega
  have HEs := Lib.hid hEs
  clear hF hT hs hz hEs hmid P hE hE1 h22 hpos hq hne hend HX1 HX40 HFS HSTOP
  generalize (Lx.numParts l).1 = f at HNM
  generalize (Lx.numParts l).2.1 = b at HNM
  go_enter Tryz.func49, Tryz.ntmps49
  go_wp2_with fail
  refine (HL.out _).mono ?_; rintro e w' ⟨rfl, rfl⟩
  go_wp2_with fail
  refine (HNM.out _).mono ?_; rintro e w' ⟨rfl, rfl⟩
  go_wp2_with fail
  go_loop [12] (fun v => ∃ k : Nat, v = .int .i64 k ∧ 1 ≤ k ∧ k ≤ E) (fun v => E - (intOf v).toNat)
  case atStart => exact ⟨1, rfl, by omega, by omega⟩
  case round =>
    obtain ⟨k, rfl, hk1, hk⟩ := hrel
    by_cases hlt : k < E
    · obtain ⟨e1, e2⟩ := HON.out k hk1 hlt (by omega)
      have hks : k < s.size := by omega
      go_wp2_with fail
      go_round
      case rel => exact ⟨k + 1, by go_num, by omega, by omega⟩
      case measure => simp [intOf]; omega

    · obtain rfl : k = E := by omega
      clear hlt hk hk1
      go_wp2_with fail
      go_region
      go_wp2_with fail
      exact bodyPost_ret (v := roneV (Lx.One.bad 1 10) l) (by simp [results, Tryz.results49, go_sem, roneV, tokV, faultV, Lx.One.bad]; exact HF.out) rfl ⟨rfl, (((Below.refl _ _).alloc (Nat.le_refl _) _).alloc (by simp) _).drew⟩
set_option maxRecDepth 100000 in
set_option maxHeartbeats 8000000 in
theorem rone_str_bad (l : List UInt8) (w : World) (hl : l.length ≤ 20000) (hne : l ≠ []) (hlet : Lx.runN Lx.letter l = 0) (hnum : Lx.numeral l = 0) (hq : l.getD 0 0 = 34) (hend : Lx.runN Lx.notQ (l.drop 1) < (l.drop 1).length) (hall : Lx.allB Lx.quot ((l.drop 1).take (Lx.runN Lx.notQ (l.drop 1))) = false) :
    Calls Tryz.prog 49 #[.string ⟨l.toArray⟩] w fun e w' => e = .returned (roneV (Lx.One.bad 1 10) l) ∧ Below w.heap.size w w' := by
  have HL := Lib.hid (fun W => rletters_any ⟨l.toArray⟩ W (by rw [ba_size]; unfold maxLen; omega))
  have HNM := Lib.hid (fun W => rnumber_any ⟨l.toArray⟩ W (by rw [ba_size]; unfold maxLen; omega))
  have h22 : (Lx.numParts l).2.2 = false := (Lx.numParts_eq l).2.1.trans (decide_eq_false (by omega))
  simp only at HL HNM
  rw [hlet] at HL
  rw [h22] at HNM
  have P := strPre l hne hq
  have hpos : 0 < l.length := List.length_pos_iff.2 hne
  have HPL := Lib.hid (fun W => rplain_any ⟨((l.drop 1).take (Lx.runN Lx.notQ (l.drop 1))).toArray⟩ W (by rw [ba_size, List.length_take, List.length_drop]; unfold maxLen; omega))
  have HFS := Lib.hid (fun W => rfirst_any ⟨l.toArray⟩ W (by rw [ba_size]; unfold maxLen; omega))
  simp only at HPL
  obtain ⟨E, hE⟩ : ∃ E, E = Lx.runN Lx.notQ (l.drop 1) + 1 := ⟨_, rfl⟩
  have hE1 : Lx.runN Lx.notQ (l.drop 1) = E - 1 := by omega
  rw [← hE] at P
  rw [hE1] at HPL
  have HX1 := Lib.hid (ext_head l 1)
  have HX40 := Lib.hid (ext_head l (min l.length 40))
  obtain ⟨s, hs⟩ : ∃ s : ByteArray, s = ⟨l.toArray⟩ := ⟨_, rfl⟩
  have hz : s.size = l.length := by rw [hs]; rfl
  rw [← hs] at HL HNM P HX1 HX40 HFS ⊢
  obtain ⟨T, hT⟩ : ∃ T : ByteArray, T = ⟨((l.drop 1).take (E - 1)).toArray⟩ := ⟨_, rfl⟩
  rw [← hT] at HPL
  have hmid : s.extract 1 E = T := by rw [hT]; exact P.mid
  have hsz0 : 0 < s.size := by omega
  have c0 := P.at0 hsz0
  have hE0 := P.pos
  have hEle := P.le
  have hsl : s.size ≤ 20000 := by omega
  have HON := Lib.hid P.on
  have HSTOP := Lib.hid P.stop

  have hEs : E < s.size := by rw [List.length_drop] at hend; omega
  rw [hE1] at hall
  have hTl : T.data.toList = (l.drop 1).take (E - 1) := by rw [hT]
  rw [hall] at HPL
  have hx := HX1.out
  obtain ⟨F, hF⟩ : ∃ F : ByteArray, F = ⟨(l.take 1).toArray⟩ := ⟨_, rfl⟩
  rw [← hF] at hx
  have HF := Lib.hid hF
  have b1 : ((E : Int) == (s.size : Int)) = false := by simp; omega
  clear hF hT hTl hs hz P hE hE1 h22 hpos hq hne hend hall HX1 HX40 HFS
  generalize (Lx.numParts l).1 = f at HNM
  generalize (Lx.numParts l).2.1 = b at HNM
  go_enter Tryz.func49, Tryz.ntmps49
  go_wp2_with fail
  refine (HL.out _).mono ?_; rintro e w' ⟨rfl, rfl⟩
  go_wp2_with fail
  refine (HNM.out _).mono ?_; rintro e w' ⟨rfl, rfl⟩
  go_wp2_with fail
  go_loop [12] (fun v => ∃ k : Nat, v = .int .i64 k ∧ 1 ≤ k ∧ k ≤ E) (fun v => E - (intOf v).toNat)
  case atStart => exact ⟨1, rfl, by omega, by omega⟩
  case round =>
    obtain ⟨k, rfl, hk1, hk⟩ := hrel
    by_cases hlt : k < E
    · obtain ⟨e1, e2⟩ := HON.out k hk1 hlt (by omega)
      have hks : k < s.size := by omega
      go_wp2_with fail
      go_round
      case rel => exact ⟨k + 1, by go_num, by omega, by omega⟩
      case measure => simp [intOf]; omega

    · obtain rfl : k = E := by omega
      obtain ⟨e1, e2⟩ := HSTOP.out hEs
      clear hlt hk hk1
      go_wp2_with fail
      refine (HPL.out _).mono ?_; rintro e w' ⟨rfl, rfl⟩
      go_wp2_with fail
      go_region
      go_wp2_with fail
      exact bodyPost_ret (v := roneV (Lx.One.bad 1 10) l) (by simp [results, Tryz.results49, go_sem, roneV, tokV, faultV, Lx.One.bad]; exact HF.out) rfl ⟨rfl, (((Below.refl _ _).alloc (Nat.le_refl _) _).alloc (by simp) _).drew⟩
set_option maxRecDepth 100000 in
set_option maxHeartbeats 8000000 in
theorem rone_str_long (l : List UInt8) (w : World) (hl : l.length ≤ 20000) (hne : l ≠ []) (hlet : Lx.runN Lx.letter l = 0) (hnum : Lx.numeral l = 0) (hq : l.getD 0 0 = 34) (hend : Lx.runN Lx.notQ (l.drop 1) < (l.drop 1).length) (hall : Lx.allB Lx.quot ((l.drop 1).take (Lx.runN Lx.notQ (l.drop 1))) = true) (h100 : 100 < Lx.runN Lx.notQ (l.drop 1)) :
    Calls Tryz.prog 49 #[.string ⟨l.toArray⟩] w fun e w' => e = .returned (roneV (Lx.One.bad (Lx.runN Lx.notQ (l.drop 1) + 2) 3) l) ∧ Below w.heap.size w w' := by
  have HL := Lib.hid (fun W => rletters_any ⟨l.toArray⟩ W (by rw [ba_size]; unfold maxLen; omega))
  have HNM := Lib.hid (fun W => rnumber_any ⟨l.toArray⟩ W (by rw [ba_size]; unfold maxLen; omega))
  have h22 : (Lx.numParts l).2.2 = false := (Lx.numParts_eq l).2.1.trans (decide_eq_false (by omega))
  simp only at HL HNM
  rw [hlet] at HL
  rw [h22] at HNM
  have P := strPre l hne hq
  have hpos : 0 < l.length := List.length_pos_iff.2 hne
  have HPL := Lib.hid (fun W => rplain_any ⟨((l.drop 1).take (Lx.runN Lx.notQ (l.drop 1))).toArray⟩ W (by rw [ba_size, List.length_take, List.length_drop]; unfold maxLen; omega))
  have HFS := Lib.hid (fun W => rfirst_any ⟨l.toArray⟩ W (by rw [ba_size]; unfold maxLen; omega))
  simp only at HPL
  obtain ⟨E, hE⟩ : ∃ E, E = Lx.runN Lx.notQ (l.drop 1) + 1 := ⟨_, rfl⟩
  have hE1 : Lx.runN Lx.notQ (l.drop 1) = E - 1 := by omega
  rw [← hE] at P
  rw [hE1] at HPL
  have HX1 := Lib.hid (ext_head l 1)
  have HX40 := Lib.hid (ext_head l (min l.length 40))
  obtain ⟨s, hs⟩ : ∃ s : ByteArray, s = ⟨l.toArray⟩ := ⟨_, rfl⟩
  have hz : s.size = l.length := by rw [hs]; rfl
  rw [← hs] at HL HNM P HX1 HX40 HFS ⊢
  obtain ⟨T, hT⟩ : ∃ T : ByteArray, T = ⟨((l.drop 1).take (E - 1)).toArray⟩ := ⟨_, rfl⟩
  rw [← hT] at HPL
  have hmid : s.extract 1 E = T := by rw [hT]; exact P.mid
  have hsz0 : 0 < s.size := by omega
  have c0 := P.at0 hsz0
  have hE0 := P.pos
  have hEle := P.le
  have hsl : s.size ≤ 20000 := by omega
  have HON := Lib.hid P.on
  have HSTOP := Lib.hid P.stop

  have hEs : E < s.size := by rw [List.length_drop] at hend; omega
  rw [hE1] at hall
  rw [hall] at HPL
  have h101 : 101 < E := by omega
  have HFX : Hid (∀ W, Calls Tryz.prog 84 #[.string s] W fun e w' => e = .returned (.string ⟨(l.take 40).toArray⟩) ∧ W = w') := fun W => by
    have := HFS.out W
    rw [hz, HX40.out, show min l.length 40 = 40 by omega] at this
    exact this
  obtain ⟨F, hF⟩ : ∃ F : ByteArray, F = ⟨(l.take 40).toArray⟩ := ⟨_, rfl⟩
  rw [← hF] at HFX
  have HR : Hid (roneV (Lx.One.bad (Lx.runN Lx.notQ (l.drop 1) + 2) 3) l = .tuple #[tokV ⟨0, [], 0, 0⟩ 0 0, .int .i64 0, .agg #[.int .i64 3, .string F, .int .i64 0, .int .i64 0]]) := by
    show _ = _
    rw [hF, roneV, Lx.One.bad, if_neg (show ¬ (3 : Int) = 0 by decide), faultV, show min (Lx.runN Lx.notQ (l.drop 1) + 2) 40 = 40 by omega]
  obtain ⟨R, hR⟩ : ∃ R, R = roneV (Lx.One.bad (Lx.runN Lx.notQ (l.drop 1) + 2) 3) l := ⟨_, rfl⟩
  rw [← hR] at HR ⊢
  have b1 : ((E : Int) == (s.size : Int)) = false := by simp; omega
  clear hF hT hs hz P hE hE1 h22 hpos hq hne hend hall HX1 HX40 HFS hR h100
  generalize (Lx.numParts l).1 = f at HNM
  generalize (Lx.numParts l).2.1 = b at HNM
  go_enter Tryz.func49, Tryz.ntmps49
  go_wp2_with fail
  refine (HL.out _).mono ?_; rintro e w' ⟨rfl, rfl⟩
  go_wp2_with fail
  refine (HNM.out _).mono ?_; rintro e w' ⟨rfl, rfl⟩
  go_wp2_with fail
  go_loop [12] (fun v => ∃ k : Nat, v = .int .i64 k ∧ 1 ≤ k ∧ k ≤ E) (fun v => E - (intOf v).toNat)
  case atStart => exact ⟨1, rfl, by omega, by omega⟩
  case round =>
    obtain ⟨k, rfl, hk1, hk⟩ := hrel
    by_cases hlt : k < E
    · obtain ⟨e1, e2⟩ := HON.out k hk1 hlt (by omega)
      have hks : k < s.size := by omega
      go_wp2_with fail
      go_round
      case rel => exact ⟨k + 1, by go_num, by omega, by omega⟩
      case measure => simp [intOf]; omega

    · obtain rfl : k = E := by omega
      obtain ⟨e1, e2⟩ := HSTOP.out hEs
      clear hlt hk hk1
      go_wp2_with fail
      refine (HPL.out _).mono ?_; rintro e w' ⟨rfl, rfl⟩
      go_wp2_with fail
      refine (HFX.out _).mono ?_; rintro e w' ⟨rfl, rfl⟩
      go_wp2_with fail
      exact bodyPost_ret (v := R) (by rw [HR.out]; simp [results, Tryz.results49, go_sem, tokV]) rfl ⟨rfl, (((Below.refl _ _).alloc (Nat.le_refl _) _).alloc (by simp) _)⟩
set_option maxRecDepth 100000 in
set_option maxHeartbeats 8000000 in
theorem rone_str_ok (l : List UInt8) (w : World) (hl : l.length ≤ 20000) (hne : l ≠ []) (hlet : Lx.runN Lx.letter l = 0) (hnum : Lx.numeral l = 0) (hq : l.getD 0 0 = 34) (hend : Lx.runN Lx.notQ (l.drop 1) < (l.drop 1).length) (hall : Lx.allB Lx.quot ((l.drop 1).take (Lx.runN Lx.notQ (l.drop 1))) = true) (h100 : ¬ 100 < Lx.runN Lx.notQ (l.drop 1)) :
    Calls Tryz.prog 49 #[.string ⟨l.toArray⟩] w fun e w' => e = .returned (roneV ⟨⟨3, (l.drop 1).take (Lx.runN Lx.notQ (l.drop 1)), 0, 0⟩, Lx.runN Lx.notQ (l.drop 1) + 2, 0⟩ l) ∧ Below w.heap.size w w' := by
  have HL := Lib.hid (fun W => rletters_any ⟨l.toArray⟩ W (by rw [ba_size]; unfold maxLen; omega))
  have HNM := Lib.hid (fun W => rnumber_any ⟨l.toArray⟩ W (by rw [ba_size]; unfold maxLen; omega))
  have h22 : (Lx.numParts l).2.2 = false := (Lx.numParts_eq l).2.1.trans (decide_eq_false (by omega))
  simp only at HL HNM
  rw [hlet] at HL
  rw [h22] at HNM
  have P := strPre l hne hq
  have hpos : 0 < l.length := List.length_pos_iff.2 hne
  have HPL := Lib.hid (fun W => rplain_any ⟨((l.drop 1).take (Lx.runN Lx.notQ (l.drop 1))).toArray⟩ W (by rw [ba_size, List.length_take, List.length_drop]; unfold maxLen; omega))
  have HFS := Lib.hid (fun W => rfirst_any ⟨l.toArray⟩ W (by rw [ba_size]; unfold maxLen; omega))
  simp only at HPL
  obtain ⟨E, hE⟩ : ∃ E, E = Lx.runN Lx.notQ (l.drop 1) + 1 := ⟨_, rfl⟩
  have hE1 : Lx.runN Lx.notQ (l.drop 1) = E - 1 := by omega
  rw [← hE] at P
  rw [hE1] at HPL
  have HX1 := Lib.hid (ext_head l 1)
  have HX40 := Lib.hid (ext_head l (min l.length 40))
  obtain ⟨s, hs⟩ : ∃ s : ByteArray, s = ⟨l.toArray⟩ := ⟨_, rfl⟩
  have hz : s.size = l.length := by rw [hs]; rfl
  rw [← hs] at HL HNM P HX1 HX40 HFS ⊢
  obtain ⟨T, hT⟩ : ∃ T : ByteArray, T = ⟨((l.drop 1).take (E - 1)).toArray⟩ := ⟨_, rfl⟩
  rw [← hT] at HPL
  have hmid : s.extract 1 E = T := by rw [hT]; exact P.mid
  have hsz0 : 0 < s.size := by omega
  have c0 := P.at0 hsz0
  have hE0 := P.pos
  have hEle := P.le
  have hsl : s.size ≤ 20000 := by omega
  have HON := Lib.hid P.on
  have HSTOP := Lib.hid P.stop

  have hEs : E < s.size := by rw [List.length_drop] at hend; omega
  rw [hE1] at hall
  rw [hall] at HPL
  have h101 : ¬ 101 < E := by omega
  have HR : Hid (roneV ⟨⟨3, (l.drop 1).take (Lx.runN Lx.notQ (l.drop 1)), 0, 0⟩, Lx.runN Lx.notQ (l.drop 1) + 2, 0⟩ l = .tuple #[.agg #[.int .i64 3, .string T, .int .i64 0, .int .i64 0, .int .i64 0, .int .i64 0], .int .i64 ((E : Int) + 1), faultV 0 [] 0 0]) := by
    show _ = _
    rw [hT, roneV, if_pos rfl, tokV, hE1, show ((E - 1 + 2 : Nat) : Int) = (E : Int) + 1 by omega]
  obtain ⟨R, hR⟩ : ∃ R, R = roneV ⟨⟨3, (l.drop 1).take (Lx.runN Lx.notQ (l.drop 1)), 0, 0⟩, Lx.runN Lx.notQ (l.drop 1) + 2, 0⟩ l := ⟨_, rfl⟩
  rw [← hR] at HR ⊢
  have b1 : ((E : Int) == (s.size : Int)) = false := by simp; omega
  clear hT hs hz P hE hE1 h22 hpos hq hne hend hall HX1 HX40 HFS hR h100
  generalize (Lx.numParts l).1 = f at HNM
  generalize (Lx.numParts l).2.1 = b at HNM
  go_enter Tryz.func49, Tryz.ntmps49
  go_wp2_with fail
  refine (HL.out _).mono ?_; rintro e w' ⟨rfl, rfl⟩
  go_wp2_with fail
  refine (HNM.out _).mono ?_; rintro e w' ⟨rfl, rfl⟩
  go_wp2_with fail
  go_loop [12] (fun v => ∃ k : Nat, v = .int .i64 k ∧ 1 ≤ k ∧ k ≤ E) (fun v => E - (intOf v).toNat)
  case atStart => exact ⟨1, rfl, by omega, by omega⟩
  case round =>
    obtain ⟨k, rfl, hk1, hk⟩ := hrel
    by_cases hlt : k < E
    · obtain ⟨e1, e2⟩ := HON.out k hk1 hlt (by omega)
      have hks : k < s.size := by omega
      go_wp2_with fail
      go_round
      case rel => exact ⟨k + 1, by go_num, by omega, by omega⟩
      case measure => simp [intOf]; omega

    · obtain rfl : k = E := by omega
      obtain ⟨e1, e2⟩ := HSTOP.out hEs
      clear hlt hk hk1
      go_wp2_with fail
      refine (HPL.out _).mono ?_; rintro e w' ⟨rfl, rfl⟩
      go_wp2_with fail
      exact bodyPost_ret (v := R) (by rw [HR.out]; simp [results, Tryz.results49, go_sem, faultV]) rfl ⟨rfl, (((Below.refl _ _).alloc (Nat.le_refl _) _).alloc (by simp) _)⟩
end Go.Proofs.YtnhcjgnohnedaaaGreatDoor

namespace Go.Proofs.YtnhcjgnohnedaaaGreatDoor
open Go.RowKit

set_option maxRecDepth 100000 in
set_option maxHeartbeats 8000000 in
theorem rone_sign (l : List UInt8) (w : World) (hl : l.length ≤ 20000) (hne : l ≠ []) (hlet : Lx.runN Lx.letter l = 0) (hnum : Lx.numeral l = 0) (hq : l.getD 0 0 ≠ 34) (hs1 : Lx.sgn l ≠ []) :
    Calls Tryz.prog 49 #[.string ⟨l.toArray⟩] w fun e w' => e = .returned (roneV ⟨⟨4, Lx.sgn l, 0, 0⟩, (Lx.sgn l).length, 0⟩ l) ∧ Below w.heap.size w w' := by
  have HL := Lib.hid (fun W => rletters_any ⟨l.toArray⟩ W (by rw [ba_size]; unfold maxLen; omega))
  have HNM := Lib.hid (fun W => rnumber_any ⟨l.toArray⟩ W (by rw [ba_size]; unfold maxLen; omega))
  have HSG := Lib.hid (fun W => rsgn_any ⟨l.toArray⟩ W (by rw [ba_size]; unfold maxLen; omega))
  have h22 : (Lx.numParts l).2.2 = false := (Lx.numParts_eq l).2.1.trans (decide_eq_false (by omega))
  simp only at HL HNM HSG
  rw [hlet] at HL
  rw [h22] at HNM
  have hpos : 0 < l.length := List.length_pos_iff.2 hne
  obtain ⟨s, hs⟩ : ∃ s : ByteArray, s = ⟨l.toArray⟩ := ⟨_, rfl⟩
  have hz : s.size = l.length := by rw [hs]; rfl
  have hsz0 : 0 < s.size := by omega
  have hs0 : s[0] = l.getD 0 0 := by rw [ba_get s 0 hsz0, hs]
  have hc34 : ((s[0].toNat : Int) == 34) = false := by
    rw [hs0]
    exact u8_ne (fun e => hq (UInt8.toNat_inj.1 (by have : ((34 : UInt8).toNat : Int) = 34 := rfl; omega)))
  have hsl : (Lx.sgn l).length ≤ 4 ∧ 0 < (Lx.sgn l).length := by
    rcases Lx.sgn_mem l with h | h
    · exact absurd h hs1
    · have := Lx.sgs_small _ h.1; omega
  obtain ⟨S, hS⟩ : ∃ S : ByteArray, S = ⟨(Lx.sgn l).toArray⟩ := ⟨_, rfl⟩
  have hSz : S.size = (Lx.sgn l).length := by rw [hS]; rfl
  have hSe : S.toList.isEmpty = false := by rw [Lib.toList_data, hS]; simpa using hs1
  rw [← hs] at HL HNM HSG ⊢
  rw [← hS] at HSG
  have HS := Lib.hid hS
  have HSZ := Lib.hid hSz
  have hS4 : S.size ≤ 4 := by omega
  generalize (Lx.numParts l).1 = f at HNM
  generalize (Lx.numParts l).2.1 = b at HNM
  clear hs hS hSz hs0 hz hpos h22 hsl hs1 hq hne
  go_enter Tryz.func49, Tryz.ntmps49
  go_wp2_with fail
  refine (HL.out _).mono ?_; rintro e w' ⟨rfl, rfl⟩
  go_wp2_with fail
  refine (HNM.out _).mono ?_; rintro e w' ⟨rfl, rfl⟩
  go_wp2_with fail
  refine (HSG.out _).mono ?_; rintro e w1 ⟨rfl, hb⟩
  simp only [numV]; have hz1 := hb.size; simp at hz1; have K1 := Lib.hid ((hb.block w.heap.size (by simp; omega)).trans (blk_alloc (heap_alloc_new w (.cells #[.int .i64 0, .string ⟨#[]⟩, .int .i64 0, .int .i64 0, .int .i64 0, .int .i64 0] 41)) (.cells #[.int .i64 0, .string ⟨#[]⟩, .int .i64 0, .int .i64 0] 27))); have K2 := Lib.hid ((hb.block (w.heap.size + 1) (by simp)).trans (blk_new2 w (.cells #[.int .i64 0, .string ⟨#[]⟩, .int .i64 0, .int .i64 0, .int .i64 0, .int .i64 0] 41) (.cells #[.int .i64 0, .string ⟨#[]⟩, .int .i64 0, .int .i64 0] 27))); have B1 := Lib.hid ((((Below.refl w.heap.size w).alloc (Nat.le_refl _) (.cells #[.int .i64 0, .string ⟨#[]⟩, .int .i64 0, .int .i64 0, .int .i64 0, .int .i64 0] 41)).alloc (by simp) (.cells #[.int .i64 0, .string ⟨#[]⟩, .int .i64 0, .int .i64 0] 27)).trans (hb.mono (by simp; omega))); clear hb; obtain ⟨⟨x0, x1, x2, x3, x4, x5⟩, ⟨y0, y1, y2, y3, y4, y5⟩, xl⟩ := blk6 K1.out; obtain ⟨⟨u0, u1, u2, u3⟩, ⟨v0, v1, v2, v3⟩, ul⟩ := blk4 K2.out
  go_wp2_with fail
  have hT6 := set6 K1.out (.int .i64 4) (.string S) (.int .i64 0) (.int .i64 0) (.int .i64 0) (.int .i64 0)
  have hF6 := (far6 (w := w1) (show w.heap.size + 1 ≠ w.heap.size by omega) (.int .i64 4) (.string S) (.int .i64 0) (.int .i64 0) (.int .i64 0) (.int .i64 0)).trans K2.out
  obtain ⟨⟨q0, q1, q2, q3, q4, q5⟩, -, -⟩ := blk6 ((far4 (show w.heap.size ≠ w.heap.size + 1 by omega) (.int .i64 0) (.string ⟨#[]⟩) (.int .i64 0) (.int .i64 0)).trans hT6)
  obtain ⟨⟨r0, r1, r2, r3⟩, -, -⟩ := blk4 (set4 hF6 (.int .i64 0) (.string ⟨#[]⟩) (.int .i64 0) (.int .i64 0))
  have BF := below4 (below6 B1.out (Nat.le_refl _) (.int .i64 4) (.string S) (.int .i64 0) (.int .i64 0) (.int .i64 0) (.int .i64 0)) (b := w.heap.size + 1) (by omega) (.int .i64 0) (.string ⟨#[]⟩) (.int .i64 0) (.int .i64 0)

  exact bodyPost_ret (v := roneV ⟨⟨4, Lx.sgn l, 0, 0⟩, (Lx.sgn l).length, 0⟩ l) (by simp [results, Tryz.results49, go_sem, roneV, tokV, faultV, q0, q1, q2, q3, q4, q5, r0, r1, r2, r3]; exact ⟨HS.out, by have := HSZ.out; omega⟩) rfl ⟨rfl, BF⟩
end Go.Proofs.YtnhcjgnohnedaaaGreatDoor

namespace Go.Proofs.YtnhcjgnohnedaaaGreatDoor
open Go.RowKit

set_option maxRecDepth 100000 in
set_option maxHeartbeats 8000000 in
theorem rone_none (l : List UInt8) (w : World) (hl : l.length ≤ 20000) (hne : l ≠ []) (hlet : Lx.runN Lx.letter l = 0) (hnum : Lx.numeral l = 0) (hq : l.getD 0 0 ≠ 34) (hs1 : Lx.sgn l = []) :
    Calls Tryz.prog 49 #[.string ⟨l.toArray⟩] w fun e w' => e = .returned (roneV (Lx.One.bad 1 10) l) ∧ Below w.heap.size w w' := by
  have HL := Lib.hid (fun W => rletters_any ⟨l.toArray⟩ W (by rw [ba_size]; unfold maxLen; omega))
  have HNM := Lib.hid (fun W => rnumber_any ⟨l.toArray⟩ W (by rw [ba_size]; unfold maxLen; omega))
  have HSG := Lib.hid (fun W => rsgn_any ⟨l.toArray⟩ W (by rw [ba_size]; unfold maxLen; omega))
  have h22 : (Lx.numParts l).2.2 = false := (Lx.numParts_eq l).2.1.trans (decide_eq_false (by omega))
  simp only at HL HNM HSG
  rw [hlet] at HL
  rw [h22] at HNM
  have hpos : 0 < l.length := List.length_pos_iff.2 hne
  obtain ⟨s, hs⟩ : ∃ s : ByteArray, s = ⟨l.toArray⟩ := ⟨_, rfl⟩
  have hz : s.size = l.length := by rw [hs]; rfl
  have hsz0 : 0 < s.size := by omega
  have hs0 : s[0] = l.getD 0 0 := by rw [ba_get s 0 hsz0, hs]
  have hc34 : ((s[0].toNat : Int) == 34) = false := by
    rw [hs0]
    exact u8_ne (fun e => hq (UInt8.toNat_inj.1 (by have : ((34 : UInt8).toNat : Int) = 34 := rfl; omega)))
  have hx := ext_head l 1
  obtain ⟨F, hF⟩ : ∃ F : ByteArray, F = ⟨(l.take 1).toArray⟩ := ⟨_, rfl⟩
  rw [← hF] at hx
  have HF := Lib.hid hF
  rw [hs1] at HSG
  rw [← hs] at HL HNM HSG hx ⊢
  generalize (Lx.numParts l).1 = f at HNM
  generalize (Lx.numParts l).2.1 = b at HNM
  clear hs hs0 hz hpos h22 hs1 hq hne hF
  go_enter Tryz.func49, Tryz.ntmps49
  go_wp2_with fail
  refine (HL.out _).mono ?_; rintro e w' ⟨rfl, rfl⟩
  go_wp2_with fail
  refine (HNM.out _).mono ?_; rintro e w' ⟨rfl, rfl⟩
  go_wp2_with fail
  refine (HSG.out _).mono ?_; rintro e w1 ⟨rfl, hb⟩
  simp only [numV]; have hz1 := hb.size; simp at hz1; have K1 := Lib.hid ((hb.block w.heap.size (by simp; omega)).trans (blk_alloc (heap_alloc_new w (.cells #[.int .i64 0, .string ⟨#[]⟩, .int .i64 0, .int .i64 0, .int .i64 0, .int .i64 0] 41)) (.cells #[.int .i64 0, .string ⟨#[]⟩, .int .i64 0, .int .i64 0] 27))); have K2 := Lib.hid ((hb.block (w.heap.size + 1) (by simp)).trans (blk_new2 w (.cells #[.int .i64 0, .string ⟨#[]⟩, .int .i64 0, .int .i64 0, .int .i64 0, .int .i64 0] 41) (.cells #[.int .i64 0, .string ⟨#[]⟩, .int .i64 0, .int .i64 0] 27))); have B1 := Lib.hid ((((Below.refl w.heap.size w).alloc (Nat.le_refl _) (.cells #[.int .i64 0, .string ⟨#[]⟩, .int .i64 0, .int .i64 0, .int .i64 0, .int .i64 0] 41)).alloc (by simp) (.cells #[.int .i64 0, .string ⟨#[]⟩, .int .i64 0, .int .i64 0] 27)).trans (hb.mono (by simp; omega))); clear hb; obtain ⟨⟨x0, x1, x2, x3, x4, x5⟩, ⟨y0, y1, y2, y3, y4, y5⟩, xl⟩ := blk6 K1.out; obtain ⟨⟨u0, u1, u2, u3⟩, ⟨v0, v1, v2, v3⟩, ul⟩ := blk4 K2.out
  go_wp2_with fail
  go_region
  go_wp2_with fail
  have hT6 := set6 K1.out (.int .i64 0) (.string ⟨#[]⟩) (.int .i64 0) (.int .i64 0) (.int .i64 0) (.int .i64 0)
  have hF6 := (far6 (w := w1) (show w.heap.size + 1 ≠ w.heap.size by omega) (.int .i64 0) (.string ⟨#[]⟩) (.int .i64 0) (.int .i64 0) (.int .i64 0) (.int .i64 0)).trans K2.out
  obtain ⟨⟨q0, q1, q2, q3, q4, q5⟩, -, -⟩ := blk6 ((far4 (show w.heap.size ≠ w.heap.size + 1 by omega) (.int .i64 10) (.string F) (.int .i64 0) (.int .i64 0)).trans hT6)
  obtain ⟨⟨r0, r1, r2, r3⟩, -, -⟩ := blk4 (set4 hF6 (.int .i64 10) (.string F) (.int .i64 0) (.int .i64 0))
  have BF := below4 (below6 B1.out (Nat.le_refl _) (.int .i64 0) (.string ⟨#[]⟩) (.int .i64 0) (.int .i64 0) (.int .i64 0) (.int .i64 0)) (b := w.heap.size + 1) (by omega) (.int .i64 10) (.string F) (.int .i64 0) (.int .i64 0)
  exact bodyPost_ret (v := roneV (Lx.One.bad 1 10) l) (by simp [results, Tryz.results49, go_sem, roneV, tokV, faultV, Lx.One.bad, q0, q1, q2, q3, q4, q5, r0, r1, r2, r3]; exact HF.out) rfl ⟨rfl, BF.drew⟩
end Go.Proofs.YtnhcjgnohnedaaaGreatDoor

namespace Go.Proofs.YtnhcjgnohnedaaaGreatDoor
open Go.RowKit

theorem rone_any (l : List UInt8) (w : World) (hl : l.length ≤ 20000) (hne : l ≠ []) :
    Calls Tryz.prog 49 #[.string ⟨l.toArray⟩] w fun e w' => e = .returned (roneV (Lx.first l) l) ∧ Below w.heap.size w w' := by
  by_cases hlet : 0 < Lx.runN Lx.letter l
  · by_cases h40 : 40 < Lx.runN Lx.letter l
    · rw [Lx.first, if_pos hlet, if_pos h40]
      exact rone_long l w hl h40
    · rw [Lx.first, if_pos hlet, if_neg h40]
      exact rone_name l w hl hlet (by omega)
  have hlet0 : Lx.runN Lx.letter l = 0 := by omega
  by_cases hnum : 0 < Lx.numeral l
  · rw [Lx.first, if_neg hlet, if_pos hnum]
    obtain ⟨n1, n2⟩ := Lx.num_lens l
    have hN : (l.take (Lx.numeral l)).length = Lx.numeral l := by rw [List.length_take]; have := Lx.numeral_le l; omega
    by_cases hlim : 9 < (Lx.numParts l).1 ∨ 5 < (Lx.numParts l).2.1
    · have e : Lx.numOf (l.take (Lx.numeral l)) = Lx.One.bad (Lx.numeral l) 3 := by
        rw [← n1, ← n2] at hlim
        simp only [Lx.numOf]
        rw [if_pos hlim, hN]
      rw [e]
      exact rone_num_lim l w hl hlet0 hnum hlim
    · have hd := Lx.decV_numeral l hnum
      have e : ∃ P Q E, (E = 0 ∧ Lx.numOf (l.take (Lx.numeral l)) = ⟨⟨2, [], P, Q⟩, Lx.numeral l, 0⟩) ∨ (E = 17 ∧ Lx.numOf (l.take (Lx.numeral l)) = Lx.One.bad (Lx.numeral l) 17) := by
        have hlim2 := hlim
        rw [← n1, ← n2] at hlim2
        simp only [Lx.numOf]
        rw [if_neg hlim2, hN]
        by_cases hz : Nm.mkE (dval ((l.take (Lx.numeral l)).take (Lx.runN Lx.digit (l.take (Lx.numeral l))) ++ (l.take (Lx.numeral l)).drop (Lx.runN Lx.digit (l.take (Lx.numeral l)) + 1))) ((10 ^ ((l.take (Lx.numeral l)).drop (Lx.runN Lx.digit (l.take (Lx.numeral l)) + 1)).length : Nat) : Int) = 0
        · exact ⟨_, _, 0, Or.inl ⟨rfl, if_pos hz⟩⟩
        · exact ⟨0, 0, 17, Or.inr ⟨rfl, if_neg hz⟩⟩
      obtain ⟨P, Q, E, ⟨-, e⟩ | ⟨-, e⟩⟩ := e
      · rw [e] at hd ⊢
        rw [if_neg (show ¬ (0 : Int) = 3 by decide)] at hd
        exact rone_num_ok l P Q w hl hlet0 hnum hlim hd
      · rw [e] at hd ⊢
        rw [if_neg (show ¬ (Lx.One.bad (Lx.numeral l) 17).e = 3 from fun h => absurd (show (17 : Int) = 3 from h) (by decide))] at hd
        exact rone_num_err l 0 0 17 (by decide) w hl hlet0 hnum hlim hd
  have hnum0 : Lx.numeral l = 0 := by omega
  by_cases hq : l.getD 0 0 = 34
  · rw [Lx.first, if_neg hlet, if_neg hnum, if_pos hq]
    simp only [Lx.strOf]
    have hle := Lx.runN_le Lx.notQ (l.drop 1)
    by_cases hend : Lx.runN Lx.notQ (l.drop 1) = (l.drop 1).length
    · rw [if_pos (Or.inl hend)]
      exact rone_str_open l w hl hne hlet0 hnum0 hq hend
    · cases hall : Lx.allB Lx.quot ((l.drop 1).take (Lx.runN Lx.notQ (l.drop 1)))
      · rw [if_pos (Or.inr rfl)]
        exact rone_str_bad l w hl hne hlet0 hnum0 hq (by omega) hall
      · rw [if_neg (by rintro (h | h); exact hend h; cases h)]
        by_cases h100 : 100 < Lx.runN Lx.notQ (l.drop 1)
        · rw [if_pos h100]
          exact rone_str_long l w hl hne hlet0 hnum0 hq (by omega) hall h100
        · rw [if_neg h100]
          exact rone_str_ok l w hl hne hlet0 hnum0 hq (by omega) hall h100
  · rw [Lx.first, if_neg hlet, if_neg hnum, if_neg hq]
    by_cases hs : Lx.sgn l = []
    · rw [if_pos hs]
      exact rone_none l w hl hne hlet0 hnum0 hq hs
    · rw [if_neg hs]
      exact rone_sign l w hl hne hlet0 hnum0 hq hs
end Go.Proofs.YtnhcjgnohnedaaaGreatDoor
