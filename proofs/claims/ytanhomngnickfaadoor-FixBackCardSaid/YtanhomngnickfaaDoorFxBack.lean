/-
  The walk of FixBack: it returns true at any integers.
-/
-- LAW 02
import Derived.Test.YtanhomngnickfaaDoorFxAwake
import Derived.Test.YtanhomngnickfaaDoorFxK
import Derived.Test.YtanhomngnickfaaDoorFxBackM
import Derived.Deep.DeepCutAuto
import Derived.BigQuiet
namespace Go.Proofs.YtanhomngnickfaaDoor
open Go.RowKit

set_option maxRecDepth 100000 in
set_option maxHeartbeats 2000000 in
/-- No fixed number. -/
theorem back_no (a turn : Int) (w : World) (he : Env w) (hv : a < -2147483647 ∨ 2147483647 < a)
    (c1 : ∀ w, Env w → Calls Tryd.prog 32 #[.int .i64 a] w fun e w' => e = .returned (.tuple #[.string ⟨#[]⟩, .int .i64 2]) ∧ Below w.heap.size w w') :
    Calls Tryd.prog 11 #[.int .i64 a, .int .u8 turn] w fun e w' => e = .returned (.bool true) ∧ Below w.heap.size w w' := by
  have hB := Below.refl w.heap.size w
  have HE := Lib.hid he
  have C1 := Lib.hid c1
  clear he c1
  by_cases h1 : a < -2147483647
  · go_enter Tryd.func11, Tryd.ntmps11
    go_wp2_with fail
    refine (C1.out _ (HE.out.below hB)).mono ?_; rintro e w' ⟨rfl, hb1⟩; replace hB := hB.trans (hb1.mono hB.size); clear hb1; go_wp2_with fail
    refine (awake_any _ (HE.out.below hB)).mono ?_; rintro e w' ⟨rfl, hb1⟩; replace hB := hB.trans (hb1.mono hB.size); clear hb1; go_wp2_with fail
    go_ret
    exact ⟨rfl, hB⟩
  · have h2 : 2147483647 < a := by omega
    go_enter Tryd.func11, Tryd.ntmps11
    go_wp2_with fail
    refine (C1.out _ (HE.out.below hB)).mono ?_; rintro e w' ⟨rfl, hb1⟩; replace hB := hB.trans (hb1.mono hB.size); clear hb1; go_wp2_with fail
    refine (awake_any _ (HE.out.below hB)).mono ?_; rintro e w' ⟨rfl, hb1⟩; replace hB := hB.trans (hb1.mono hB.size); clear hb1; go_wp2_with fail
    go_ret
    exact ⟨rfl, hB⟩

set_option maxRecDepth 100000 in
set_option maxHeartbeats 2000000 in
/-- A whole number. -/
theorem back_whole (a turn : Int) (s : ByteArray) (w : World) (he : Env w) (x1 : -2147483647 ≤ a) (x2 : a ≤ 2147483647) (hz : (a.tmod 65536 == 0) = true) (L : Nat) (hL : s.size = L) (hL9 : L ≤ 100)
    (hG : ∀ k, k < L → ∀ h : k < s.size, ∃ c : UInt8, s[k] = c ∧ (c.toNat : Int) ≠ 46)
    (c1 : ∀ w, Env w → Calls Tryd.prog 32 #[.int .i64 a] w fun e w' => e = .returned (.tuple #[.string s, .int .i64 0]) ∧ Below w.heap.size w w')
    (c2 : ∀ w, Env w → Calls Tryd.prog 34 #[.string s] w fun e w' => e = .returned (.tuple #[.int .i64 a, .int .i64 0]) ∧ Below w.heap.size w w') :
    Calls Tryd.prog 11 #[.int .i64 a, .int .u8 turn] w fun e w' => e = .returned (.bool true) ∧ Below w.heap.size w w' := by
  have hB := Below.refl w.heap.size w
  have HE := Lib.hid he
  have C1 := Lib.hid c1
  have C2 := Lib.hid c2
  have HG := Lib.hid hG
  clear he c1 c2 hG
  go_enter Tryd.func11, Tryd.ntmps11
  go_wp2_with fail
  refine (C1.out _ (HE.out.below hB)).mono ?_; rintro e w' ⟨rfl, hb1⟩; replace hB := hB.trans (hb1.mono hB.size); clear hb1; go_wp2_with fail
  refine (C2.out _ (HE.out.below hB)).mono ?_; rintro e w' ⟨rfl, hb1⟩; replace hB := hB.trans (hb1.mono hB.size); clear hb1; go_wp2_with fail
  go_loop [9, 10] (fun vp vi => ∃ k : Nat, vi = .int .i64 k ∧ k ≤ L ∧ vp = .int .i64 (-1)) (fun _ vi => L - (intOf vi).toNat)
  case atStart => exact ⟨0, rfl, by omega, rfl⟩
  case round =>
    obtain ⟨k, rfl, hk, rfl⟩ := hrel
    by_cases hkn : k < L
    · obtain ⟨c, hc, hcn⟩ := HG.out k hkn (by omega)
      have hcb : ((c.toNat : Int) == 46) = false := by simpa using hcn
      have hcc : ((c.toNat : Int) != 46) = true := by simpa using hcn
      clear hcn
      go_wp2_with fail
      exact ⟨⟨k + 1, by go_num, by omega, rfl⟩, by simp [intOf] <;> omega⟩
    · go_wp2_with fail
      refine (awake_any _ (HE.out.below hB)).mono ?_; rintro e w' ⟨rfl, hb1⟩; replace hB := hB.trans (hb1.mono hB.size); clear hb1; go_wp2_with fail
      go_ret
      exact ⟨rfl, hB⟩

set_option maxRecDepth 100000 in
set_option maxHeartbeats 4000000 in
/-- One digit behind the point. -/
theorem back_one (a turn y g : Int) (s v : ByteArray) (p : Nat) (w : World) (he : Env w) (x1 : -2147483647 ≤ a) (x2 : a ≤ 2147483647) (hz : (a.tmod 65536 == 0) = false) (hL : s.size = p + 2) (hp9 : p ≤ 100)
    (hG : ∀ k, k < p + 2 → k ≠ p → ∀ h : k < s.size, ∃ c : UInt8, s[k] = c ∧ (c.toNat : Int) ≠ 46) (hD : ∀ h : p < s.size, s[p] = 46)
    (hv : s.extract 0 p = v) (hyg : ¬ (g = 0 ∧ y = a))
    (c1 : ∀ w, Env w → Calls Tryd.prog 32 #[.int .i64 a] w fun e w' => e = .returned (.tuple #[.string s, .int .i64 0]) ∧ Below w.heap.size w w')
    (c2 : ∀ w, Env w → Calls Tryd.prog 34 #[.string s] w fun e w' => e = .returned (.tuple #[.int .i64 a, .int .i64 0]) ∧ Below w.heap.size w w')
    (c3 : ∀ w, Env w → Calls Tryd.prog 34 #[.string v] w fun e w' => e = .returned (.tuple #[.int .i64 y, .int .i64 g]) ∧ Below w.heap.size w w') :
    Calls Tryd.prog 11 #[.int .i64 a, .int .u8 turn] w fun e w' => e = .returned (.bool true) ∧ Below w.heap.size w w' := by
  have hB := Below.refl w.heap.size w
  have HE := Lib.hid he
  have C1 := Lib.hid c1
  have C2 := Lib.hid c2
  have C3 := Lib.hid c3
  have HG := Lib.hid hG
  have HD := Lib.hid hD
  have HV := Lib.hid hv
  have HYG := Lib.hid hyg
  clear he c1 c2 c3 hG hD hv hyg
  go_enter Tryd.func11, Tryd.ntmps11
  go_wp2_with fail
  refine (C1.out _ (HE.out.below hB)).mono ?_; rintro e w' ⟨rfl, hb1⟩; replace hB := hB.trans (hb1.mono hB.size); clear hb1; go_wp2_with fail
  refine (C2.out _ (HE.out.below hB)).mono ?_; rintro e w' ⟨rfl, hb1⟩; replace hB := hB.trans (hb1.mono hB.size); clear hb1; go_wp2_with fail
  go_loop [9, 10] (fun vp vi => ∃ (k : Nat) (q : Int), vi = .int .i64 k ∧ k ≤ p + 2 ∧ vp = .int .i64 q ∧ (k ≤ p ∧ q = -1 ∨ p < k ∧ q = p)) (fun _ vi => p + 2 - (intOf vi).toNat)
  case atStart => exact ⟨0, -1, rfl, by omega, rfl, by omega⟩
  case round =>
    obtain ⟨k, q, rfl, hk, rfl, hq⟩ := hrel
    by_cases hkn : k < p + 2
    · by_cases hkp : k = p
      · subst hkp
        have hd := HD.out (by omega)
        clear hq
        go_wp2_with fail
        exact ⟨⟨k + 1, k, by go_num, by omega, rfl, by omega⟩, by simp [intOf] <;> omega⟩
      · obtain ⟨c, hc, hcn⟩ := HG.out k hkn hkp (by omega)
        have hcb : ((c.toNat : Int) == 46) = false := by simpa using hcn
        have hcc : ((c.toNat : Int) != 46) = true := by simpa using hcn
        have HQ := Lib.hid hq
        clear hcn hq
        go_wp2_with fail
        have hq := HQ.out
        exact ⟨⟨k + 1, q, by go_num, by omega, rfl, by omega⟩, by simp [intOf] <;> omega⟩
    · have hqe : q = p := by omega
      subst hqe
      clear hq
      have hv := HV.out
      go_wp2_with fail
      refine (C3.out _ (HE.out.below hB)).mono ?_; rintro e w' ⟨rfl, hb1⟩; replace hB := hB.trans (hb1.mono hB.size); clear hb1
      by_cases hg : g = 0
      · have gb : (g == 0) = true := by simpa using hg
        have yb : (y == a) = false := by simpa using fun h => HYG.out ⟨hg, h⟩
        clear hg
        go_wp2_with fail
        refine (awake_any _ (HE.out.below hB)).mono ?_; rintro e w' ⟨rfl, hb1⟩; replace hB := hB.trans (hb1.mono hB.size); clear hb1; go_wp2_with fail
        go_ret
        exact ⟨rfl, hB⟩
      · have gb : (g == 0) = false := by simpa using hg
        go_wp2_with fail
        refine (awake_any _ (HE.out.below hB)).mono ?_; rintro e w' ⟨rfl, hb1⟩; replace hB := hB.trans (hb1.mono hB.size); clear hb1; go_wp2_with fail
        go_ret
        exact ⟨rfl, hB⟩

set_option maxRecDepth 100000 in
set_option maxHeartbeats 4000000 in
/-- More digits behind the point. -/
theorem back_more (a turn y g y2 g2 : Int) (s u x z : ByteArray) (p j : Nat) (c0 : UInt8) (w : World) (he : Env w) (x1 : -2147483647 ≤ a) (x2 : a ≤ 2147483647) (hz : (a.tmod 65536 == 0) = false) (hL : s.size = j + 2) (hp : p < j) (hj : j ≤ p + 4) (hj9 : j ≤ 100) (t0 : 0 ≤ turn) (t1 : turn ≤ 255) (hG : ∀ k, k < j + 2 → k ≠ p → ∀ h : k < s.size, ∃ c : UInt8, s[k] = c ∧ (c.toNat : Int) ≠ 46) (hD : ∀ h : p < s.size, s[p] = 46)
    (hu : s.extract 0 (j + 1) = u) (husz : u.size = j + 1) (hc0 : ∀ h : j < u.size, u[j] = c0) (hcn : 48 ≤ c0.toNat ∧ c0.toNat ≤ 57) (hyg : ¬ (g = 0 ∧ y = a)) (hyg2 : c0.toNat < 57 → ¬ (g2 = 0 ∧ y2 = a))
    (hen : c0.toNat < 57 → Utf8.encode ((c0.toNat : Int) + 1) = z) (hx : u.extract 0 j ++ z = x) (hzs : z.size = 1)
    (c1 : ∀ w, Env w → Calls Tryd.prog 32 #[.int .i64 a] w fun e w' => e = .returned (.tuple #[.string s, .int .i64 0]) ∧ Below w.heap.size w w')
    (c2 : ∀ w, Env w → Calls Tryd.prog 34 #[.string s] w fun e w' => e = .returned (.tuple #[.int .i64 a, .int .i64 0]) ∧ Below w.heap.size w w')
    (c3 : ∀ w, Env w → Calls Tryd.prog 34 #[.string u] w fun e w' => e = .returned (.tuple #[.int .i64 y, .int .i64 g]) ∧ Below w.heap.size w w')
    (c4 : ∀ w, Env w → Calls Tryd.prog 34 #[.string x] w fun e w' => e = .returned (.tuple #[.int .i64 y2, .int .i64 g2]) ∧ Below w.heap.size w w') :
    Calls Tryd.prog 11 #[.int .i64 a, .int .u8 turn] w fun e w' => e = .returned (.bool true) ∧ Below w.heap.size w w' := by
  have hB := Below.refl w.heap.size w
  have HE := Lib.hid he
  have C1 := Lib.hid c1
  have C2 := Lib.hid c2
  have C3 := Lib.hid c3
  have C4 := Lib.hid c4
  have HG := Lib.hid hG
  have HD := Lib.hid hD
  have HU := Lib.hid hu
  have HC0 := Lib.hid hc0
  have HCN := Lib.hid hcn
  have HYG := Lib.hid hyg
  have HYG2 := Lib.hid hyg2
  have HEN := Lib.hid hen
  have HX := Lib.hid hx
  clear he c1 c2 c3 c4 hG hD hu hc0 hcn hyg hyg2 hen hx
  go_enter Tryd.func11, Tryd.ntmps11
  go_wp2_with fail
  refine (C1.out _ (HE.out.below hB)).mono ?_; rintro e w' ⟨rfl, hb1⟩; replace hB := hB.trans (hb1.mono hB.size); clear hb1; go_wp2_with fail
  refine (C2.out _ (HE.out.below hB)).mono ?_; rintro e w' ⟨rfl, hb1⟩; replace hB := hB.trans (hb1.mono hB.size); clear hb1; go_wp2_with fail
  go_loop [9, 10] (fun vp vi => ∃ (k : Nat) (q : Int), vi = .int .i64 k ∧ k ≤ j + 2 ∧ vp = .int .i64 q ∧ (k ≤ p ∧ q = -1 ∨ p < k ∧ q = p)) (fun _ vi => j + 2 - (intOf vi).toNat)
  case atStart => exact ⟨0, -1, rfl, by omega, rfl, by omega⟩
  case round =>
    obtain ⟨k, q, rfl, hk, rfl, hq⟩ := hrel
    by_cases hkn : k < j + 2
    · by_cases hkp : k = p
      · subst hkp
        have hd := HD.out (by omega)
        clear hq
        go_wp2_with fail
        exact ⟨⟨k + 1, k, by go_num, by omega, rfl, by omega⟩, by simp [intOf] <;> omega⟩
      · obtain ⟨c, hc, hcn⟩ := HG.out k hkn hkp (by omega)
        have hcb : ((c.toNat : Int) == 46) = false := by simpa using hcn
        have hcc : ((c.toNat : Int) != 46) = true := by simpa using hcn
        have HQ := Lib.hid hq
        clear hcn hq
        go_wp2_with fail
        have hq := HQ.out
        exact ⟨⟨k + 1, q, by go_num, by omega, rfl, by omega⟩, by simp [intOf] <;> omega⟩
    · have hqe : q = p := by omega
      subst hqe
      clear hq
      have hu := HU.out
      have e2 : ((j : Int) + 2 - p == 2) = false := by simp; omega
      by_cases ht : turn % 2 = 1
      · have htb : (turn % 2 == 1) = true := by simpa using ht
        have hc0 := HC0.out (by omega)
        obtain ⟨c48, c57⟩ := HCN.out
        clear ht
        by_cases h57 : c0.toNat < 57
        · have hen := HEN.out h57
          have hx := HX.out
          have HY2 := Lib.hid (HYG2.out h57)
          obtain ⟨n, hn⟩ : ∃ n : Int, (c0.toNat : Int) = n := ⟨_, rfl⟩
          rw [hn] at hen
          have n0 : 48 ≤ n := by omega
          have n1 : n < 57 := by omega
          go_upto_region 20 with fail
          go_quiet (fail)
          go_wp2_with fail
          replace hB := below_drewN hB nq
          refine (C4.out _ (HE.out.below hB)).mono ?_; rintro e w' ⟨rfl, hb1⟩; replace hB := hB.trans (hb1.mono hB.size); clear hb1
          by_cases hg : g2 = 0
          · have gb : (g2 == 0) = true := by simpa using hg
            have yb : (y2 == a) = false := by simpa using fun h => HY2.out ⟨hg, h⟩
            clear hg
            go_wp2_with fail
            refine (awake_any _ (HE.out.below hB)).mono ?_; rintro e w' ⟨rfl, hb1⟩; replace hB := hB.trans (hb1.mono hB.size); clear hb1; go_wp2_with fail
            go_ret
            exact ⟨rfl, hB⟩
          · have gb : (g2 == 0) = false := by simpa using hg
            go_wp2_with fail
            refine (awake_any _ (HE.out.below hB)).mono ?_; rintro e w' ⟨rfl, hb1⟩; replace hB := hB.trans (hb1.mono hB.size); clear hb1; go_wp2_with fail
            go_ret
            exact ⟨rfl, hB⟩
        · go_wp2_with fail
          refine (C3.out _ (HE.out.below hB)).mono ?_; rintro e w' ⟨rfl, hb1⟩; replace hB := hB.trans (hb1.mono hB.size); clear hb1
          by_cases hg : g = 0
          · have gb : (g == 0) = true := by simpa using hg
            have yb : (y == a) = false := by simpa using fun h => HYG.out ⟨hg, h⟩
            clear hg
            go_wp2_with fail
            refine (awake_any _ (HE.out.below hB)).mono ?_; rintro e w' ⟨rfl, hb1⟩; replace hB := hB.trans (hb1.mono hB.size); clear hb1; go_wp2_with fail
            go_ret
            exact ⟨rfl, hB⟩
          · have gb : (g == 0) = false := by simpa using hg
            go_wp2_with fail
            refine (awake_any _ (HE.out.below hB)).mono ?_; rintro e w' ⟨rfl, hb1⟩; replace hB := hB.trans (hb1.mono hB.size); clear hb1; go_wp2_with fail
            go_ret
            exact ⟨rfl, hB⟩
      · have htb : (turn % 2 == 1) = false := by simpa using ht
        go_wp2_with fail
        refine (C3.out _ (HE.out.below hB)).mono ?_; rintro e w' ⟨rfl, hb1⟩; replace hB := hB.trans (hb1.mono hB.size); clear hb1
        by_cases hg : g = 0
        · have gb : (g == 0) = true := by simpa using hg
          have yb : (y == a) = false := by simpa using fun h => HYG.out ⟨hg, h⟩
          clear hg
          go_wp2_with fail
          refine (awake_any _ (HE.out.below hB)).mono ?_; rintro e w' ⟨rfl, hb1⟩; replace hB := hB.trans (hb1.mono hB.size); clear hb1; go_wp2_with fail
          go_ret
          exact ⟨rfl, hB⟩
        · have gb : (g == 0) = false := by simpa using hg
          go_wp2_with fail
          refine (awake_any _ (HE.out.below hB)).mono ?_; rintro e w' ⟨rfl, hb1⟩; replace hB := hB.trans (hb1.mono hB.size); clear hb1; go_wp2_with fail
          go_ret
          exact ⟨rfl, hB⟩


theorem ext0 (l : List UInt8) (b : Nat) : (⟨l.toArray⟩ : ByteArray).extract 0 b = ⟨(l.take b).toArray⟩ := by
  apply ByteArray.ext
  rw [ByteArray.data_extract]
  apply Array.ext'
  simp
theorem ne46 {c : UInt8} (h : c ≠ 46) : (c.toNat : Int) ≠ 46 := by
  intro e
  have h46 : (46 : UInt8).toNat = 46 := rfl
  exact h (UInt8.toNat_inj.1 (by omega))
theorem at_ne (A P : List UInt8) (hA : ∀ c ∈ A, c ≠ 46) (hP : ∀ c ∈ P, c ≠ 46) (k : Nat) (hk : k < (A ++ 46 :: P).length) (hkp : k ≠ A.length) : (A ++ 46 :: P)[k] ≠ 46 := by
  by_cases h : k < A.length
  · rw [List.getElem_append_left h]; exact hA _ (List.getElem_mem h)
  · obtain ⟨m, rfl⟩ : ∃ m, k = A.length + (m + 1) := ⟨k - A.length - 1, by omega⟩
    rw [List.getElem_append_right (by omega)]
    simp only [Nat.add_sub_cancel_left, List.getElem_cons_succ]
    exact hP _ (List.getElem_mem _)
theorem sgl_ne (neg : Bool) : ∀ c ∈ Fx.sgl neg, c ≠ 46 := by
  cases neg
  · intro c h; cases h
  · intro c h
    have : c = 45 := by simpa [Fx.sgl] using h
    subst this; decide
theorem sgl_len (neg : Bool) : (Fx.sgl neg).length ≤ 1 := by cases neg <;> decide
theorem size_of (l : List UInt8) : (⟨l.toArray⟩ : ByteArray).size = l.length := by rw [Lib.size_eq]
theorem list_of (l : List UInt8) : (⟨l.toArray⟩ : ByteArray).data.toList = l := by simp
theorem sget_of (l : List UInt8) (k : Nat) (hk : k < l.length) (h : k < (⟨l.toArray⟩ : ByteArray).size) : (⟨l.toArray⟩ : ByteArray)[k] = l[k] := by
  rw [sget _ _ h, list_of, getD_at _ _ hk]
theorem parse_l (l : List UInt8) (hl : l.length ≤ 10000) (w : World) (he : Env w) :
    Calls Tryd.prog 34 #[.string ⟨l.toArray⟩] w fun e w' => e = .returned (.tuple #[.int .i64 (Fx.paN l), .int .i64 (Fx.paE l)]) ∧ Below w.heap.size w w' := by
  have h := parse_any ⟨l.toArray⟩ w he (by rw [size_of]; exact hl)
  rwa [list_of] at h
theorem enc_next (d : Nat) (h : d < 9) : Utf8.encode (((UInt8.ofNat (48 + d)).toNat : Int) + 1) = ⟨#[UInt8.ofNat (48 + (d + 1))]⟩ := by
  have e := enc_digit ⟨d + 1, by omega⟩
  have e2 : (UInt8.ofNat (48 + d)).toNat = 48 + d := by rw [UInt8.toNat_ofNat']; omega
  rw [e2]
  rw [show ((48 + d : Nat) : Int) + 1 = 48 + ((d + 1 : Nat) : Int) by omega]
  exact e

theorem fixBack_walk (a turn : Int) (w : World) (he : Env w) (_lo : -9223372036854775808 ≤ a) (_hi : a ≤ 9223372036854775807) (t0 : 0 ≤ turn) (t1 : turn ≤ 255) :
    Calls Tryd.prog 11 #[.int .i64 a, .int .u8 turn] w fun e w' => e = .returned (.bool true) ∧ Below w.heap.size w w' := by
  cases hv : Fx.fxd a
  · have hb := of_decide_eq_false hv
    refine back_no a turn w he (by omega) fun w he => ?_
    have h := text_any a w he
    rw [txN, txE, hv, if_neg (by decide), if_neg (by decide)] at h
    exact h
  have hb := Fx.fxd_bd hv
  have c1 : ∀ w, Env w → Calls Tryd.prog 32 #[.int .i64 a] w fun e w' => e = .returned (.tuple #[.string ⟨(Fx.txtF a).toArray⟩, .int .i64 0]) ∧ Below w.heap.size w w' := fun w he => by
    have h := text_any a w he
    rw [txN, txE, hv, if_pos rfl, if_pos rfl] at h
    exact h
  have hpt := Fx.pa_text a hv
  obtain ⟨f1, f2, f3, f4, f5, f6⟩ := Fx.front_ok (a.natAbs / 65536) (by omega)
  have hsg := sgl_len (decide (a < 0))
  have hsn := sgl_ne (decide (a < 0))
  have htx := Fx.txtF_sgl a
  by_cases hf : a.natAbs % 65536 = 0
  · rw [if_pos hf, List.append_nil] at htx
    have hz : (a.tmod 65536 == 0) = true := by
      have : a.tmod 65536 = 0 := by
        have h1 : (a.tmod 65536).natAbs = a.natAbs % 65536 := Int.natAbs_tmod a 65536
        omega
      simpa using this
    have c2 := fun w he => parse_l (Fx.txtF a) (by rw [htx, List.length_append]; omega) w he
    rw [hpt.1, hpt.2] at c2
    rw [htx] at c1 c2
    have hne : ∀ c ∈ Fx.sgl (decide (a < 0)) ++ Lib.decDigits (a.natAbs / 65536), c ≠ 46 := by
      intro c hc
      rcases List.mem_append.1 hc with h | h
      · exact hsn c h
      · exact f4 c h
    refine back_whole a turn _ w he hb.1 hb.2 hz _ (size_of _) (by rw [List.length_append]; omega) (fun k hk h => ⟨_, sget_of _ k hk h, ne46 (hne _ (List.getElem_mem hk))⟩) c1 c2
  · have hz : (a.tmod 65536 == 0) = false := by
      have : a.tmod 65536 ≠ 0 := by
        have h1 : (a.tmod 65536).natAbs = a.natAbs % 65536 := Int.natAbs_tmod a 65536
        omega
      simpa using this
    rw [if_neg hf, ← List.append_assoc] at htx
    obtain ⟨n1, n5⟩ := Fx.fN_bd ((a.natAbs % 65536 : Nat) : Int)
    have ho := Fx.fN_ok ((a.natAbs % 65536 : Nat) : Int) (by omega) (by omega)
    have hlt := Fx.ok_lt _ _ n5 (by omega) ho
    have hd0 := (Fx.dN_bd ((a.natAbs % 65536 : Nat) : Int) (Fx.fN ((a.natAbs % 65536 : Nat) : Int)) n5 (by omega) (by omega)).1
    have hsh := fun k e => Fx.pa_short a hv hf k e
    have hss := Fx.pa_shortest a hv hf
    have hfr : Fx.frac ((a.natAbs % 65536 : Nat) : Int) = Fx.pad (Fx.fN ((a.natAbs % 65536 : Nat) : Int)) (Fx.dN ((a.natAbs % 65536 : Nat) : Int) (Fx.fN ((a.natAbs % 65536 : Nat) : Int))).toNat := rfl
    rw [hfr] at htx
    clear hfr ho
    generalize hN : Fx.fN ((a.natAbs % 65536 : Nat) : Int) = N at *
    have e10 : ((10 ^ N : Nat) : Int) = 10 ^ N := by rw [Int.natCast_pow]; rfl
    obtain ⟨d, hd⟩ : ∃ d : Nat, (Fx.dN ((a.natAbs % 65536 : Nat) : Int) N).toNat = d := ⟨_, rfl⟩
    have hdN : d < 10 ^ N := by omega
    rw [hd] at htx
    clear hd hlt hd0 e10
    obtain ⟨A, hA⟩ : ∃ A, Fx.sgl (decide (a < 0)) ++ Lib.decDigits (a.natAbs / 65536) = A := ⟨_, rfl⟩
    have hAn : ∀ c ∈ A, c ≠ 46 := by
      intro c hc
      rw [← hA] at hc
      rcases List.mem_append.1 hc with h | h
      · exact hsn c h
      · exact f4 c h
    have hAl : A.length ≤ 6 := by rw [← hA, List.length_append]; omega
    have hPn := (Fx.dig_ne _ (Fx.pad_dig N d)).1
    have hPl := Fx.pad_len N d
    simp only [← List.append_assoc] at hsh
    rw [hA] at htx hss
    simp only [hA] at hsh
    have hlen : (Fx.txtF a).length = A.length + 1 + N := by rw [htx, List.length_append, List.length_cons, hPl]; omega
    have c2 := fun w he => parse_l (Fx.txtF a) (by omega) w he
    rw [hpt.1, hpt.2] at c2
    rw [htx] at c1 c2
    have hl2 : (A ++ 46 :: Fx.pad N d).length = A.length + 1 + N := by rw [← htx]; exact hlen
    have hG : ∀ k, k < A.length + 1 + N → k ≠ A.length → ∀ h : k < (⟨(A ++ 46 :: Fx.pad N d).toArray⟩ : ByteArray).size, ∃ c : UInt8, (⟨(A ++ 46 :: Fx.pad N d).toArray⟩ : ByteArray)[k] = c ∧ (c.toNat : Int) ≠ 46 :=
      fun k hk hkp h => ⟨_, sget_of _ k (by omega) h, ne46 (at_ne A _ hAn hPn k (by omega) hkp)⟩
    have hD : ∀ h : A.length < (⟨(A ++ 46 :: Fx.pad N d).toArray⟩ : ByteArray).size, (⟨(A ++ 46 :: Fx.pad N d).toArray⟩ : ByteArray)[A.length] = 46 := fun h => by
      rw [sget_of _ _ (by omega) h, List.getElem_append_right (Nat.le_refl _)]; simp
    by_cases hN1 : N = 1
    · subst hN1
      exact back_one a turn _ _ _ ⟨A.toArray⟩ A.length w he hb.1 hb.2 hz (by rw [size_of, hl2]) (by omega) (fun k hk => hG k (by omega)) hD (by rw [ext0]; simp) (fun h => hss ⟨h.1, h.2⟩) c1 c2 (fun w he => parse_l A (by omega) w he)
    · obtain ⟨M, rfl⟩ : ∃ M, N = M + 2 := ⟨N - 2, by omega⟩
      have hp2 : Fx.pad (M + 2) d = Fx.pad (M + 1) (d / 10) ++ [UInt8.ofNat (48 + d % 10)] := rfl
      have hp1 : Fx.pad (M + 1) (d / 10) = Fx.pad M (d / 10 / 10) ++ [UInt8.ofNat (48 + d / 10 % 10)] := rfl
      have hpl1 := Fx.pad_len (M + 1) (d / 10)
      have hplM := Fx.pad_len M (d / 10 / 10)
      have hc : (UInt8.ofNat (48 + d / 10 % 10)).toNat = 48 + d / 10 % 10 := Fx.dig_of (d / 10)
      have hdM : d / 10 < 10 ^ (M + 1) := by rw [show M + 2 = (M + 1) + 1 by omega, Nat.pow_succ] at hdN; omega
      have hul : (A ++ 46 :: Fx.pad (M + 1) (d / 10)).length = A.length + 1 + (M + 1) := by rw [List.length_append, List.length_cons, hpl1]; omega
      refine back_more a turn (Fx.paN (A ++ 46 :: Fx.pad (M + 1) (d / 10))) (Fx.paE (A ++ 46 :: Fx.pad (M + 1) (d / 10))) (Fx.paN (A ++ 46 :: (Fx.pad M (d / 10 / 10) ++ [UInt8.ofNat (48 + (d / 10 % 10 + 1))]))) (Fx.paE (A ++ 46 :: (Fx.pad M (d / 10 / 10) ++ [UInt8.ofNat (48 + (d / 10 % 10 + 1))])))
        _ ⟨(A ++ 46 :: Fx.pad (M + 1) (d / 10)).toArray⟩ ⟨(A ++ 46 :: (Fx.pad M (d / 10 / 10) ++ [UInt8.ofNat (48 + (d / 10 % 10 + 1))])).toArray⟩ ⟨#[UInt8.ofNat (48 + (d / 10 % 10 + 1))]⟩ A.length (A.length + 1 + M) (UInt8.ofNat (48 + d / 10 % 10)) w he hb.1 hb.2 hz (by rw [size_of, hl2]; omega) (by omega) (by omega) (by omega) t0 t1 (fun k hk => hG k (by omega)) hD ?_ (by rw [size_of, hul]; omega) (fun h => ?_) (by omega) (fun h => hsh (M + 1) (d / 10) (by omega) (by omega) hdM h) (fun h => ?_) (fun h => ?_) ?_ rfl c1 c2 (fun w he => parse_l _ (by omega) w he) (fun w he => parse_l _ (by simp; omega) w he)
      · rw [ext0]
        congr 2
        rw [hp2, show A ++ 46 :: (Fx.pad (M + 1) (d / 10) ++ [UInt8.ofNat (48 + d % 10)]) = (A ++ 46 :: Fx.pad (M + 1) (d / 10)) ++ [UInt8.ofNat (48 + d % 10)] by simp]
        rw [List.take_left' (by omega)]
      · rw [sget_of _ _ (by omega) h]
        have e : A ++ 46 :: Fx.pad (M + 1) (d / 10) = (A ++ 46 :: Fx.pad M (d / 10 / 10)) ++ [UInt8.ofNat (48 + d / 10 % 10)] := by rw [hp1]; simp
        have el : (A ++ 46 :: Fx.pad M (d / 10 / 10)).length = A.length + 1 + M := by rw [List.length_append, List.length_cons, hplM]; omega
        simp only [e]
        rw [List.getElem_append_right (by omega)]
        simp [el]
      · have h9 : d / 10 % 10 < 9 := by omega
        have hnx : Fx.pad M (d / 10 / 10) ++ [UInt8.ofNat (48 + (d / 10 % 10 + 1))] = Fx.pad (M + 1) (d / 10 + 1) := by
          show _ = Fx.pad M ((d / 10 + 1) / 10) ++ [UInt8.ofNat (48 + (d / 10 + 1) % 10)]
          rw [show (d / 10 + 1) / 10 = d / 10 / 10 by omega, show (d / 10 + 1) % 10 = d / 10 % 10 + 1 by omega]
        have hdM1 : d / 10 + 1 < 10 ^ (M + 1) := by
          rw [Nat.pow_succ] at hdM ⊢; omega
        rw [hnx]
        exact fun h => hsh (M + 1) (d / 10 + 1) (by omega) (by omega) hdM1 h
      · exact enc_next _ (by omega)
      · have el : (A ++ 46 :: Fx.pad M (d / 10 / 10)).length = A.length + 1 + M := by rw [List.length_append, List.length_cons, hplM]; omega
        rw [ext0, hp1, show A ++ 46 :: (Fx.pad M (d / 10 / 10) ++ [UInt8.ofNat (48 + d / 10 % 10)]) = (A ++ 46 :: Fx.pad M (d / 10 / 10)) ++ [UInt8.ofNat (48 + d / 10 % 10)] by simp, List.take_left' el]
        show (⟨(A ++ 46 :: Fx.pad M (d / 10 / 10)).toArray⟩ : ByteArray) ++ ⟨[UInt8.ofNat (48 + (d / 10 % 10 + 1))].toArray⟩ = _
        rw [ba_app]
        simp
end Go.Proofs.YtanhomngnickfaaDoor
