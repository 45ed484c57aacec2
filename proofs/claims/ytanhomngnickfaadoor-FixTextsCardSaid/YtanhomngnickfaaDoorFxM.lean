/-
  Contracts of the reference: Parse.
-/
-- LAW 02
import Derived.Test.YtanhomngnickfaaDoorFxK
import Derived.Test.YtanhomngnickfaaDoorFxCut
import Derived.Deep.DeepCutAuto
namespace Go.Proofs.YtanhomngnickfaaDoor
open Go.RowKit

/-- What stands behind the sign: the string, and where its point is. -/
structure Behind (t : ByteArray) (wh pt : List UInt8) (pd : Bool) : Prop where
  sz : t.size = wh.length + (if pd = true then pt.length + 1 else 0)
  no : ∀ k, k < wh.length → ∀ h : k < t.size, ∃ c : UInt8, t[k] = c ∧ (c.toNat : Int) ≠ 46
  dot : pd = true → ∀ h : wh.length < t.size, t[wh.length] = 46
  front : t.extract 0 wh.length = ⟨wh.toArray⟩
  back : pd = true → t.extract (wh.length + 1) t.size = ⟨pt.toArray⟩
  nopt : pd = false → pt = []
theorem behind_of (r wh pt : List UInt8) (pd : Bool) (h : Lib.cut r [46] = (wh, pt, pd)) : Behind ⟨r.toArray⟩ wh pt pd := by
  have hsz : (⟨r.toArray⟩ : ByteArray).size = r.length := by rw [Lib.size_eq]
  have hex : ∀ a b, ((⟨r.toArray⟩ : ByteArray).extract a b) = ⟨((r.drop a).take (b - a)).toArray⟩ := by
    intro a b
    apply ByteArray.ext
    rw [ByteArray.data_extract]
    apply Array.ext'
    simp
  have hget : ∀ k (h : k < (⟨r.toArray⟩ : ByteArray).size), (⟨r.toArray⟩ : ByteArray)[k] = r.getD k 0 := fun k h => sget _ k h
  have h46 : (46 : UInt8).toNat = 46 := rfl
  rcases Fx.cut_spec r wh pt pd h with ⟨rfl, rfl, hn⟩ | ⟨rfl, rfl, rfl, hn⟩
  · refine ⟨by rw [hsz]; simp, fun k hk h => ⟨_, hget k h, ?_⟩, fun _ h => ?_, ?_, fun _ => ?_, (fun h => by cases h)⟩
    · rw [getD_at _ _ (by simp; omega), List.getElem_append_left hk]
      intro e
      exact hn wh[k] (List.getElem_mem hk) (UInt8.toNat_inj.1 (by omega))
    · rw [hget _ h, getD_at _ _ (by simp), List.getElem_append_right (Nat.le_refl _)]; simp
    · rw [hex]; simp
    · rw [hex, hsz, List.drop_append, List.drop_eq_nil_of_le (by omega)]
      simp only [List.length_append, List.length_cons, List.nil_append]
      rw [show wh.length + 1 - wh.length = 1 by omega, List.drop_one, List.tail_cons, show wh.length + (pt.length + 1) - (wh.length + 1) = pt.length by omega, List.take_length]
  · refine ⟨by rw [hsz]; simp, fun k hk h => ⟨_, hget k h, ?_⟩, (fun h => by cases h), ?_, (fun h => by cases h), fun _ => rfl⟩
    · rw [getD_at _ _ hk]
      intro e
      exact hn _ (List.getElem_mem hk) (UInt8.toNat_inj.1 (by omega))
    · rw [hex]; simp

set_option maxRecDepth 100000 in
set_option maxHeartbeats 1600000 in
theorem rparse_neg_no (s t : ByteArray) (hs0 : 1 ≤ s.size) (hs1 : ∀ h : 0 < s.size, s[0] = 45) (hx : s.extract 1 s.size = t) (wh pt : List UInt8) (hl : wh.length ≤ 10000 ∧ pt.length ≤ 10000) (n : Int) (hn : Fx.whV wh = n) (hnb : -1 ≤ n ∧ n ≤ 999999999) (wl : Nat) (hwl : wl = wh.length) (X E : Int) (w : World)
    (hB : Behind t wh pt false) (hres : (n < 0 → X = 0 ∧ E = 30) ∧ (¬ n < 0 → X = Fx.tolN (-(n * 65536)) ∧ E = Fx.tolE (-(n * 65536)))) :
    Calls Tryd.prog 35 #[.string s] w fun e w' => e = .returned (.tuple #[.int .i64 X, .int .i64 E]) ∧ Below w.heap.size w w' := by
  have tz : t.size = wl := by have := hB.sz; simp at this; omega
  have HW := Lib.hid (fun w => whole_of wh w n hl.1 hn)
  have HF : Hid (t.extract 0 wl = ⟨wh.toArray⟩) := by rw [hwl]; exact hB.front
  have HG : Hid (∀ k, k < wl → ∀ h : k < t.size, ∃ c : UInt8, t[k] = c ∧ (c.toNat : Int) ≠ 46) := by rw [hwl]; exact hB.no
  have HN := Lib.hid hres
  obtain ⟨n0, n1⟩ := hnb
  have wl1 : wl ≤ 10000 := by omega
  have HW0 : Hid (wl = 0 → ∀ w, Calls Tryd.prog 65 #[.string ByteArray.empty] w fun e w' => e = .returned (.int .i64 n) ∧ w = w') := fun h w => by
    have e : wh = [] := List.length_eq_zero_iff.1 (by omega)
    have := HW.out w
    rw [e] at this
    exact this
  clear hB hres hwl hl hn
  have h0 : 0 < s.size := by omega
  have hs2 := hs1 h0
  clear hs1
  go_enter Tryd.func35, Tryd.ntmps35
  go_wp2_with fail
  go_loop [5] (fun vi => ∃ k : Nat, vi = .int .i64 k ∧ k ≤ wl) (fun vi => wl - (intOf vi).toNat)
  case atStart => exact ⟨0, rfl, by omega⟩
  case round =>
    obtain ⟨k, rfl, hk⟩ := hrel
    by_cases hkn : k < wl
    · obtain ⟨c, hc, hcn⟩ := HG.out k hkn (by omega)
      have hcb : ((c.toNat : Int) == 46) = false := by simpa using hcn
      have hcc : ((c.toNat : Int) != 46) = true := by simpa using hcn
      clear hcn
      go_wp2_with fail
      exact ⟨⟨k + 1, by go_num, by omega⟩, by simp [intOf]; omega⟩
    · have e : k = wl := by omega
      subst e
      clear hkn hk
      have tf := HF.out
      by_cases hk0 : 0 < k
      · go_wp2_with fail
        refine (HW.out _).mono ?_; rintro e w1 ⟨rfl, rfl⟩
        by_cases hneg : n < 0
        · have HR := Lib.hid (HN.out.1 hneg)
          go_wp2_with fail
          go_ret2
          exact ⟨ret_two HR.out.1.symm HR.out.2.symm, Below.refl _ _⟩
        · have HR := Lib.hid (HN.out.2 (by omega))
          have r0 : Fx.rnd 0 1 = 0 := by decide
          go_wp2_with fail
          refine (near_any 0 1 _ (by omega) (by omega) (by omega) (by omega)).mono ?_; rintro e w3 ⟨rfl, rfl⟩
          go_wp2_with fail
          refine (told_any (-(n * 65536)) _).mono ?_; rintro e w4 ⟨rfl, hb4⟩
          go_wp2_with fail
          go_ret2
          exact ⟨ret_two HR.out.1.symm HR.out.2.symm, hb4⟩
      · have hk00 : k = 0 := by omega
        subst hk00
        go_wp2_with fail
        refine (HW0.out (by first | rfl | trivial) _).mono ?_; rintro e w1 ⟨rfl, rfl⟩
        by_cases hneg : n < 0
        · have HR := Lib.hid (HN.out.1 hneg)
          go_wp2_with fail
          go_ret2
          exact ⟨ret_two HR.out.1.symm HR.out.2.symm, Below.refl _ _⟩
        · have HR := Lib.hid (HN.out.2 (by omega))
          have r0 : Fx.rnd 0 1 = 0 := by decide
          go_wp2_with fail
          refine (near_any 0 1 _ (by omega) (by omega) (by omega) (by omega)).mono ?_; rintro e w3 ⟨rfl, rfl⟩
          go_wp2_with fail
          refine (told_any (-(n * 65536)) _).mono ?_; rintro e w4 ⟨rfl, hb4⟩
          go_wp2_with fail
          go_ret2
          exact ⟨ret_two HR.out.1.symm HR.out.2.symm, hb4⟩

set_option maxRecDepth 100000 in
set_option maxHeartbeats 1600000 in
theorem rparse_pos_no (t : ByteArray) (hs0 : 1 ≤ t.size) (c0 : UInt8) (hs1 : ∀ h : 0 < t.size, t[0] = c0) (hc0 : c0 ≠ 45) (wh pt : List UInt8) (hl : wh.length ≤ 10000 ∧ pt.length ≤ 10000) (n : Int) (hn : Fx.whV wh = n) (hnb : -1 ≤ n ∧ n ≤ 999999999) (wl : Nat) (hwl : wl = wh.length) (X E : Int) (w : World)
    (hB : Behind t wh pt false) (hres : (n < 0 → X = 0 ∧ E = 30) ∧ (¬ n < 0 → X = Fx.tolN (n * 65536) ∧ E = Fx.tolE (n * 65536))) :
    Calls Tryd.prog 35 #[.string t] w fun e w' => e = .returned (.tuple #[.int .i64 X, .int .i64 E]) ∧ Below w.heap.size w w' := by
  have tz : t.size = wl := by have := hB.sz; simp at this; omega
  have HW := Lib.hid (fun w => whole_of wh w n hl.1 hn)
  have HF : Hid (t.extract 0 wl = ⟨wh.toArray⟩) := by rw [hwl]; exact hB.front
  have HG : Hid (∀ k, k < wl → ∀ h : k < t.size, ∃ c : UInt8, t[k] = c ∧ (c.toNat : Int) ≠ 46) := by rw [hwl]; exact hB.no
  have HN := Lib.hid hres
  obtain ⟨n0, n1⟩ := hnb
  have wl1 : wl ≤ 10000 := by omega
  have HW0 : Hid (wl = 0 → ∀ w, Calls Tryd.prog 65 #[.string ByteArray.empty] w fun e w' => e = .returned (.int .i64 n) ∧ w = w') := fun h w => by
    have e : wh = [] := List.length_eq_zero_iff.1 (by omega)
    have := HW.out w
    rw [e] at this
    exact this
  clear hB hres hwl hl hn
  have h0 : 0 < t.size := by omega
  have hs2 := hs1 h0
  have hcn0 : ((c0.toNat : Int) == 45) = false := by
    simp
    intro e
    exact hc0 (UInt8.toNat_inj.1 (by have : (45 : UInt8).toNat = 45 := rfl; omega))
  clear hs1 hc0
  go_enter Tryd.func35, Tryd.ntmps35
  go_wp2_with fail
  go_loop [5] (fun vi => ∃ k : Nat, vi = .int .i64 k ∧ k ≤ wl) (fun vi => wl - (intOf vi).toNat)
  case atStart => exact ⟨0, rfl, by omega⟩
  case round =>
    obtain ⟨k, rfl, hk⟩ := hrel
    by_cases hkn : k < wl
    · obtain ⟨c, hc, hcn⟩ := HG.out k hkn (by omega)
      have hcb : ((c.toNat : Int) == 46) = false := by simpa using hcn
      have hcc : ((c.toNat : Int) != 46) = true := by simpa using hcn
      clear hcn
      go_wp2_with fail
      exact ⟨⟨k + 1, by go_num, by omega⟩, by simp [intOf]; omega⟩
    · have e : k = wl := by omega
      subst e
      clear hkn hk
      have tf := HF.out
      by_cases hk0 : 0 < k
      · go_wp2_with fail
        refine (HW.out _).mono ?_; rintro e w1 ⟨rfl, rfl⟩
        by_cases hneg : n < 0
        · have HR := Lib.hid (HN.out.1 hneg)
          go_wp2_with fail
          go_ret2
          exact ⟨ret_two HR.out.1.symm HR.out.2.symm, Below.refl _ _⟩
        · have HR := Lib.hid (HN.out.2 (by omega))
          have r0 : Fx.rnd 0 1 = 0 := by decide
          go_wp2_with fail
          refine (near_any 0 1 _ (by omega) (by omega) (by omega) (by omega)).mono ?_; rintro e w3 ⟨rfl, rfl⟩
          go_wp2_with fail
          refine (told_any (n * 65536) _).mono ?_; rintro e w4 ⟨rfl, hb4⟩
          go_wp2_with fail
          go_ret2
          exact ⟨ret_two HR.out.1.symm HR.out.2.symm, hb4⟩
      · exfalso; omega
set_option maxRecDepth 100000 in
set_option maxHeartbeats 1600000 in
theorem rparse_nil_no (t : ByteArray) (hs0 : t.size = 0) (wh pt : List UInt8) (hl : wh.length ≤ 10000 ∧ pt.length ≤ 10000) (n : Int) (hn : Fx.whV wh = n) (hnb : -1 ≤ n ∧ n ≤ 999999999) (wl : Nat) (hwl : wl = wh.length) (X E : Int) (w : World)
    (hB : Behind t wh pt false) (hres : (n < 0 → X = 0 ∧ E = 30) ∧ (¬ n < 0 → X = Fx.tolN (n * 65536) ∧ E = Fx.tolE (n * 65536))) :
    Calls Tryd.prog 35 #[.string t] w fun e w' => e = .returned (.tuple #[.int .i64 X, .int .i64 E]) ∧ Below w.heap.size w w' := by
  have tz : t.size = wl := by have := hB.sz; simp at this; omega
  have HW := Lib.hid (fun w => whole_of wh w n hl.1 hn)
  have HF : Hid (t.extract 0 wl = ⟨wh.toArray⟩) := by rw [hwl]; exact hB.front
  have HG : Hid (∀ k, k < wl → ∀ h : k < t.size, ∃ c : UInt8, t[k] = c ∧ (c.toNat : Int) ≠ 46) := by rw [hwl]; exact hB.no
  have HN := Lib.hid hres
  obtain ⟨n0, n1⟩ := hnb
  have wl1 : wl ≤ 10000 := by omega
  have HW0 : Hid (wl = 0 → ∀ w, Calls Tryd.prog 65 #[.string ByteArray.empty] w fun e w' => e = .returned (.int .i64 n) ∧ w = w') := fun h w => by
    have e : wh = [] := List.length_eq_zero_iff.1 (by omega)
    have := HW.out w
    rw [e] at this
    exact this
  clear hB hres hwl hl hn
  go_enter Tryd.func35, Tryd.ntmps35
  go_wp2_with fail
  go_loop [5] (fun vi => ∃ k : Nat, vi = .int .i64 k ∧ k ≤ wl) (fun vi => wl - (intOf vi).toNat)
  case atStart => exact ⟨0, rfl, by omega⟩
  case round =>
    obtain ⟨k, rfl, hk⟩ := hrel
    by_cases hkn : k < wl
    · exfalso; omega
    · have e : k = wl := by omega
      subst e
      clear hkn hk
      have tf := HF.out
      by_cases hk0 : 0 < k
      · exfalso; omega
      · have hk00 : k = 0 := by omega
        subst hk00
        go_wp2_with fail
        refine (HW0.out (by first | rfl | trivial) _).mono ?_; rintro e w1 ⟨rfl, rfl⟩
        by_cases hneg : n < 0
        · have HR := Lib.hid (HN.out.1 hneg)
          go_wp2_with fail
          go_ret2
          exact ⟨ret_two HR.out.1.symm HR.out.2.symm, Below.refl _ _⟩
        · have HR := Lib.hid (HN.out.2 (by omega))
          have r0 : Fx.rnd 0 1 = 0 := by decide
          go_wp2_with fail
          refine (near_any 0 1 _ (by omega) (by omega) (by omega) (by omega)).mono ?_; rintro e w3 ⟨rfl, rfl⟩
          go_wp2_with fail
          refine (told_any (n * 65536) _).mono ?_; rintro e w4 ⟨rfl, hb4⟩
          go_wp2_with fail
          go_ret2
          exact ⟨ret_two HR.out.1.symm HR.out.2.symm, hb4⟩

set_option maxRecDepth 100000 in
set_option maxHeartbeats 1600000 in
theorem rparse_neg_pt (s t : ByteArray) (hs0 : 1 ≤ s.size) (hs1 : ∀ h : 0 < s.size, s[0] = 45) (hx : s.extract 1 s.size = t) (wh pt : List UInt8) (hl : wh.length ≤ 10000 ∧ pt.length ≤ 10000) (n : Int) (hn : Fx.whV wh = n) (hnb : -1 ≤ n ∧ n ≤ 999999999) (wl : Nat) (hwl : wl = wh.length) (X E : Int) (w : World)
    (hB : Behind t wh pt true) (m : Int) (hm : m = if wl = 0 then 0 else n) (f : Int) (hf : Fx.whV pt = f) (hfb : -1 ≤ f ∧ f ≤ 999999999) (pl : Nat) (hpl : pl = pt.length) (hpl9 : f < 0 ∨ pl ≤ 9 ∧ 0 ≤ Fx.rnd (f * 65536) (10 ^ pl) ∧ Fx.rnd (f * 65536) (10 ^ pl) ≤ 65537000000000) (hres : (m < 0 → X = 0 ∧ E = 30) ∧ (f < 0 → X = 0 ∧ E = 30) ∧ (¬ m < 0 → ¬ f < 0 → X = Fx.tolN (-(m * 65536 + Fx.rnd (f * 65536) (10 ^ pl))) ∧ E = Fx.tolE (-(m * 65536 + Fx.rnd (f * 65536) (10 ^ pl))))) :
    Calls Tryd.prog 35 #[.string s] w fun e w' => e = .returned (.tuple #[.int .i64 X, .int .i64 E]) ∧ Below w.heap.size w w' := by
  have tz : t.size = wl + (pl + 1) := by have := hB.sz; simp at this; omega
  have HW := Lib.hid (fun w => whole_of wh w n hl.1 hn)
  have HWP := Lib.hid (fun w => whole_of pt w f hl.2 hf)
  have HF : Hid (t.extract 0 wl = ⟨wh.toArray⟩) := by rw [hwl]; exact hB.front
  have HBK : Hid (t.extract (wl + 1) (wl + (pl + 1)) = ⟨pt.toArray⟩) := by rw [← tz, hwl]; exact hB.back rfl
  have HG : Hid (∀ k, k < wl → ∀ h : k < t.size, ∃ c : UInt8, t[k] = c ∧ (c.toNat : Int) ≠ 46) := by rw [hwl]; exact hB.no
  have HDOT : Hid (∀ h : wl < t.size, t[wl] = 46) := by subst hwl; exact hB.dot rfl
  have HN := Lib.hid hres
  have HPL := Lib.hid hpl9
  have HM := Lib.hid hm
  have wl1 : wl ≤ 10000 := by omega
  have pl1 : pl ≤ 10000 := by omega
  obtain ⟨n0, n1⟩ := hnb
  obtain ⟨f0, f1⟩ := hfb
  have m0 : -1 ≤ m := by rw [hm]; split <;> omega
  have m1 : m ≤ 999999999 := by rw [hm]; split <;> omega
  clear hB hres hpl9 hm hwl hl hn hpl hf
  have h0 : 0 < s.size := by omega
  have hs2 := hs1 h0
  clear hs1
  go_enter Tryd.func35, Tryd.ntmps35
  go_wp2_with fail
  go_loop [5] (fun vi => ∃ k : Nat, vi = .int .i64 k ∧ k ≤ wl) (fun vi => wl - (intOf vi).toNat)
  case atStart => exact ⟨0, rfl, by omega⟩
  case round =>
    obtain ⟨k, rfl, hk⟩ := hrel
    by_cases hkn : k < wl
    · obtain ⟨c, hc, hcn⟩ := HG.out k hkn (by omega)
      have hcb : ((c.toNat : Int) == 46) = false := by simpa using hcn
      have hcc : ((c.toNat : Int) != 46) = true := by simpa using hcn
      clear hcn
      go_wp2_with fail
      exact ⟨⟨k + 1, by go_num, by omega⟩, by simp [intOf]; omega⟩
    · have e : k = wl := by omega
      subst e
      clear hkn hk
      have hdot := HDOT.out (by omega)
      have tf := HF.out
      clear HDOT HG HF
      have hbk : ((k : Int) == (k : Int) + ((pl : Int) + 1)) = false := by simp; omega
      go_upto_region 8 with fail
      go_cut [41] (fun q wx => (∃ bb : Bool, q = .bool bb ∧ (bb = true ↔ 0 < k)) ∧ w = wx)
      case first =>
        by_cases hk0 : 0 < k
        · go_wp2_with fail
          go_meet
          exact ⟨⟨true, rfl, by simp [hk0]⟩, rfl⟩
        · go_wp2_with fail
          go_meet
          exact ⟨⟨false, rfl, by simp [hk0]⟩, rfl⟩
      case rest =>
      obtain ⟨⟨bb, rfl, hbb⟩, rfl⟩ := hcut
      have HBB := Lib.hid hbb
      clear hbb
      go_upto_if 41 with fail
      go_cut [6] (fun q wx => q = .int .i64 m ∧ w = wx)
      case first =>
        cases bb
        · have hk0 : ¬ 0 < k := fun h => by have := HBB.out.2 h; cases this
          have hmn : m = 0 := by rw [HM.out, if_pos (by omega)]
          subst hmn
          clear HM HBB
          go_wp2_with fail
          go_meet
          exact ⟨rfl, rfl⟩
        · have hk0 : 0 < k := HBB.out.1 rfl
          have hmn : m = n := by rw [HM.out, if_neg (by omega)]
          subst hmn
          clear HM HBB
          go_wp2_with fail
          refine (HW.out _).mono ?_; rintro e w1 ⟨rfl, rfl⟩
          go_wp2_with fail
          go_meet
          exact ⟨rfl, rfl⟩
      case rest =>
        obtain ⟨rfl, rfl⟩ := hcut
        clear HBB
        clear HM HW tf
        by_cases hneg : m < 0
        · have HR := Lib.hid (HN.out.1 hneg)
          go_wp2_with fail
          go_ret2
          exact ⟨ret_two HR.out.1.symm HR.out.2.symm, Below.refl _ _⟩
        have tb := HBK.out
        go_wp2_with fail
        refine (HWP.out _).mono ?_; rintro e w1 ⟨rfl, rfl⟩
        by_cases hfneg : f < 0
        · have HR := Lib.hid (HN.out.2.1 hfneg)
          go_wp2_with fail
          go_ret2
          exact ⟨ret_two HR.out.1.symm HR.out.2.symm, Below.refl _ _⟩
        have HR := Lib.hid (HN.out.2.2 (by omega) (by omega))
        have hp9 := HPL.out.resolve_left hfneg
        obtain ⟨pl9, rr0, rr1⟩ := hp9
        clear HN HPL tb HBK HWP
        go_wp2_with fail
        go_loop [8, 9] (fun vq vi => ∃ (j : Nat) (q : Int), vi = .int .i64 ((k : Int) + 1 + j) ∧ vq = .int .i64 q ∧ j ≤ pl ∧ Hid (q = 10 ^ j) ∧ 1 ≤ q ∧ q ≤ 1000000000) (fun _ vi => (20002 - intOf vi).toNat)
        case atStart => exact ⟨0, 1, by simp, rfl, by omega, rfl, by omega, by omega⟩
        case round =>
          obtain ⟨j, q, rfl, rfl, hj, hq, q0, q1⟩ := hrel
          by_cases hjn : j < pl
          · have hnx := Fx.p10n (j + 1) (by omega)
            have hq2 : q * 10 = 10 ^ (j + 1) := by rw [hq.out, Int.pow_succ]
            have HQ := Lib.hid hq2
            have q2 : q * 10 ≤ 1000000000 := by rw [hq2]; exact hnx.2
            clear hnx hq2
            go_wp2_with fail
            exact ⟨⟨j + 1, q * 10, (by first | (congr 1; done) | (congr 1; omega)), by first | rfl | go_num, by omega, HQ, by omega, q2⟩, by simp [intOf]; omega⟩
          · have e : j = pl := by omega
            subst e
            rw [← hq.out] at HR rr0 rr1
            go_wp2_with fail
            refine (near_any (f * 65536) q _ (by omega) (by omega) (by omega) (by omega)).mono ?_; rintro e w3 ⟨rfl, rfl⟩
            go_wp2_with fail
            refine (told_any (-(m * 65536 + Fx.rnd (f * 65536) q)) _).mono ?_; rintro e w4 ⟨rfl, hb4⟩
            go_wp2_with fail
            go_ret2
            exact ⟨ret_two HR.out.1.symm HR.out.2.symm, hb4⟩

set_option maxRecDepth 100000 in
set_option maxHeartbeats 1600000 in
theorem rparse_pos_pt (t : ByteArray) (hs0 : 1 ≤ t.size) (c0 : UInt8) (hs1 : ∀ h : 0 < t.size, t[0] = c0) (hc0 : c0 ≠ 45) (wh pt : List UInt8) (hl : wh.length ≤ 10000 ∧ pt.length ≤ 10000) (n : Int) (hn : Fx.whV wh = n) (hnb : -1 ≤ n ∧ n ≤ 999999999) (wl : Nat) (hwl : wl = wh.length) (X E : Int) (w : World)
    (hB : Behind t wh pt true) (m : Int) (hm : m = if wl = 0 then 0 else n) (f : Int) (hf : Fx.whV pt = f) (hfb : -1 ≤ f ∧ f ≤ 999999999) (pl : Nat) (hpl : pl = pt.length) (hpl9 : f < 0 ∨ pl ≤ 9 ∧ 0 ≤ Fx.rnd (f * 65536) (10 ^ pl) ∧ Fx.rnd (f * 65536) (10 ^ pl) ≤ 65537000000000) (hres : (m < 0 → X = 0 ∧ E = 30) ∧ (f < 0 → X = 0 ∧ E = 30) ∧ (¬ m < 0 → ¬ f < 0 → X = Fx.tolN (m * 65536 + Fx.rnd (f * 65536) (10 ^ pl)) ∧ E = Fx.tolE (m * 65536 + Fx.rnd (f * 65536) (10 ^ pl)))) :
    Calls Tryd.prog 35 #[.string t] w fun e w' => e = .returned (.tuple #[.int .i64 X, .int .i64 E]) ∧ Below w.heap.size w w' := by
  have tz : t.size = wl + (pl + 1) := by have := hB.sz; simp at this; omega
  have HW := Lib.hid (fun w => whole_of wh w n hl.1 hn)
  have HWP := Lib.hid (fun w => whole_of pt w f hl.2 hf)
  have HF : Hid (t.extract 0 wl = ⟨wh.toArray⟩) := by rw [hwl]; exact hB.front
  have HBK : Hid (t.extract (wl + 1) (wl + (pl + 1)) = ⟨pt.toArray⟩) := by rw [← tz, hwl]; exact hB.back rfl
  have HG : Hid (∀ k, k < wl → ∀ h : k < t.size, ∃ c : UInt8, t[k] = c ∧ (c.toNat : Int) ≠ 46) := by rw [hwl]; exact hB.no
  have HDOT : Hid (∀ h : wl < t.size, t[wl] = 46) := by subst hwl; exact hB.dot rfl
  have HN := Lib.hid hres
  have HPL := Lib.hid hpl9
  have HM := Lib.hid hm
  have wl1 : wl ≤ 10000 := by omega
  have pl1 : pl ≤ 10000 := by omega
  obtain ⟨n0, n1⟩ := hnb
  obtain ⟨f0, f1⟩ := hfb
  have m0 : -1 ≤ m := by rw [hm]; split <;> omega
  have m1 : m ≤ 999999999 := by rw [hm]; split <;> omega
  clear hB hres hpl9 hm hwl hl hn hpl hf
  have h0 : 0 < t.size := by omega
  have hs2 := hs1 h0
  have hcn0 : ((c0.toNat : Int) == 45) = false := by
    simp
    intro e
    exact hc0 (UInt8.toNat_inj.1 (by have : (45 : UInt8).toNat = 45 := rfl; omega))
  clear hs1 hc0
  go_enter Tryd.func35, Tryd.ntmps35
  go_wp2_with fail
  go_loop [5] (fun vi => ∃ k : Nat, vi = .int .i64 k ∧ k ≤ wl) (fun vi => wl - (intOf vi).toNat)
  case atStart => exact ⟨0, rfl, by omega⟩
  case round =>
    obtain ⟨k, rfl, hk⟩ := hrel
    by_cases hkn : k < wl
    · obtain ⟨c, hc, hcn⟩ := HG.out k hkn (by omega)
      have hcb : ((c.toNat : Int) == 46) = false := by simpa using hcn
      have hcc : ((c.toNat : Int) != 46) = true := by simpa using hcn
      clear hcn
      go_wp2_with fail
      exact ⟨⟨k + 1, by go_num, by omega⟩, by simp [intOf]; omega⟩
    · have e : k = wl := by omega
      subst e
      clear hkn hk
      have hdot := HDOT.out (by omega)
      have tf := HF.out
      clear HDOT HG HF
      have hbk : ((k : Int) == (k : Int) + ((pl : Int) + 1)) = false := by simp; omega
      go_upto_region 8 with fail
      go_cut [41] (fun q wx => (∃ bb : Bool, q = .bool bb ∧ (bb = true ↔ 0 < k)) ∧ w = wx)
      case first =>
        by_cases hk0 : 0 < k
        · go_wp2_with fail
          go_meet
          exact ⟨⟨true, rfl, by simp [hk0]⟩, rfl⟩
        · go_wp2_with fail
          go_meet
          exact ⟨⟨false, rfl, by simp [hk0]⟩, rfl⟩
      case rest =>
      obtain ⟨⟨bb, rfl, hbb⟩, rfl⟩ := hcut
      have HBB := Lib.hid hbb
      clear hbb
      go_upto_if 41 with fail
      go_cut [6] (fun q wx => q = .int .i64 m ∧ w = wx)
      case first =>
        cases bb
        · have hk0 : ¬ 0 < k := fun h => by have := HBB.out.2 h; cases this
          have hmn : m = 0 := by rw [HM.out, if_pos (by omega)]
          subst hmn
          clear HM HBB
          go_wp2_with fail
          go_meet
          exact ⟨rfl, rfl⟩
        · have hk0 : 0 < k := HBB.out.1 rfl
          have hmn : m = n := by rw [HM.out, if_neg (by omega)]
          subst hmn
          clear HM HBB
          go_wp2_with fail
          refine (HW.out _).mono ?_; rintro e w1 ⟨rfl, rfl⟩
          go_wp2_with fail
          go_meet
          exact ⟨rfl, rfl⟩
      case rest =>
        obtain ⟨rfl, rfl⟩ := hcut
        clear HBB
        clear HM HW tf
        by_cases hneg : m < 0
        · have HR := Lib.hid (HN.out.1 hneg)
          go_wp2_with fail
          go_ret2
          exact ⟨ret_two HR.out.1.symm HR.out.2.symm, Below.refl _ _⟩
        have tb := HBK.out
        go_wp2_with fail
        refine (HWP.out _).mono ?_; rintro e w1 ⟨rfl, rfl⟩
        by_cases hfneg : f < 0
        · have HR := Lib.hid (HN.out.2.1 hfneg)
          go_wp2_with fail
          go_ret2
          exact ⟨ret_two HR.out.1.symm HR.out.2.symm, Below.refl _ _⟩
        have HR := Lib.hid (HN.out.2.2 (by omega) (by omega))
        have hp9 := HPL.out.resolve_left hfneg
        obtain ⟨pl9, rr0, rr1⟩ := hp9
        clear HN HPL tb HBK HWP
        go_wp2_with fail
        go_loop [8, 9] (fun vq vi => ∃ (j : Nat) (q : Int), vi = .int .i64 ((k : Int) + 1 + j) ∧ vq = .int .i64 q ∧ j ≤ pl ∧ Hid (q = 10 ^ j) ∧ 1 ≤ q ∧ q ≤ 1000000000) (fun _ vi => (20002 - intOf vi).toNat)
        case atStart => exact ⟨0, 1, by simp, rfl, by omega, rfl, by omega, by omega⟩
        case round =>
          obtain ⟨j, q, rfl, rfl, hj, hq, q0, q1⟩ := hrel
          by_cases hjn : j < pl
          · have hnx := Fx.p10n (j + 1) (by omega)
            have hq2 : q * 10 = 10 ^ (j + 1) := by rw [hq.out, Int.pow_succ]
            have HQ := Lib.hid hq2
            have q2 : q * 10 ≤ 1000000000 := by rw [hq2]; exact hnx.2
            clear hnx hq2
            go_wp2_with fail
            exact ⟨⟨j + 1, q * 10, (by first | (congr 1; done) | (congr 1; omega)), by first | rfl | go_num, by omega, HQ, by omega, q2⟩, by simp [intOf]; omega⟩
          · have e : j = pl := by omega
            subst e
            rw [← hq.out] at HR rr0 rr1
            go_wp2_with fail
            refine (near_any (f * 65536) q _ (by omega) (by omega) (by omega) (by omega)).mono ?_; rintro e w3 ⟨rfl, rfl⟩
            go_wp2_with fail
            refine (told_any (m * 65536 + Fx.rnd (f * 65536) q) _).mono ?_; rintro e w4 ⟨rfl, hb4⟩
            go_wp2_with fail
            go_ret2
            exact ⟨ret_two HR.out.1.symm HR.out.2.symm, hb4⟩

end Go.Proofs.YtanhomngnickfaaDoor
