/-
  Contracts of package fix: what the library's functions read and give; digits of a string; digits behind a point.
-/
-- LAW 02
import Derived.Test.YtanhomngnickfaaDoorFxA
import Derived.Test.YtanhomngnickfaaDoorFxTxt
import Derived.Test.YtanhomngnickfaaDoorShelfF
import Derived.WalkSmall
import Derived.Lib.AppendIntMem
import Derived.Lib.ItoaLen
import Derived.Lib.ConvBytes
namespace Go.Proofs.YtanhomngnickfaaDoor
open Go.RowKit

/-- What the library's functions read: the table of powers of ten, and a number of the string search. -/
structure Env (w : World) : Prop where
  max : ∃ m, w.cell? ⟨0, 0, none⟩ = some (.int .i64 m)
  tab : Lib.TabIs Tryd.prog w "internal/strconv.uint64pow10" .u64 Lib.pow10Tab
  size : 8 ≤ w.heap.size
theorem pow_name : Tryd.prog.globalNamed "internal/strconv.uint64pow10" = some 3 := by kernel_rfl
theorem Env.below {w w' : World} (h : Env w) (hb : Below w.heap.size w w') : Env w' := by
  have hs := h.size
  refine ⟨?_, ?_, Nat.le_trans h.size hb.size⟩
  · obtain ⟨m, hm⟩ := h.max
    exact ⟨m, by rw [(bcell hb).1 _ _ (by omega)]; exact hm⟩
  · exact var?_below hb pow_name (by omega) h.tab

theorem itoa_any (n : Int) (w : World) (h0 : -9223372036854775808 ≤ n) (h1 : n ≤ 9223372036854775807) (he : Env w) :
    Calls Tryd.prog 58 #[.int .i64 n] w fun e w' => e = .returned (.string ⟨(Lib.itoa n).toArray⟩) ∧ Below w.heap.size w w' :=
  (Tryd.strconv_Itoa n h0 h1 w he.tab).mono fun _ _ ⟨h, k, os, hw⟩ => ⟨h, by rw [hw]; exact Lib.below_grow _ _ (Nat.le_refl _) _ _⟩
theorem ba_app (a b : List UInt8) : (⟨a.toArray⟩ : ByteArray) ++ ⟨b.toArray⟩ = ⟨(a ++ b).toArray⟩ := by
  apply ByteArray.ext
  simp
theorem cut_any (s sep : ByteArray) (w : World) (he : Env w) (hs : s.size ≤ 10000) (wh pt : List UInt8) (pd : Bool) (h : Lib.cut s.data.toList sep.data.toList = (wh, pt, pd)) :
    Calls Tryd.prog 62 #[.string s, .string sep] w fun e w' => e = .returned (.tuple #[.string ⟨wh.toArray⟩, .string ⟨pt.toArray⟩, .bool pd]) ∧ ∃ n, w' = w.drewN n := by
  obtain ⟨m, hm⟩ := he.max
  have := Any.strings_Cut { Tryd.laysM145 with } s sep m w (by omega) hm
  rw [h] at this
  exact this
theorem cutPrefix_any (s p : ByteArray) (w : World) (l : List UInt8) (b : Bool) (h1 : Lib.trimPrefix s.data.toList p.data.toList = l) (h2 : Lib.hasPrefix s.data.toList p.data.toList = b) :
    Calls Tryd.prog 61 #[.string s, .string p] w fun e w' => e = .returned (.tuple #[.string ⟨l.toArray⟩, .bool b]) ∧ w = w' := by
  have := Tryd.strings_CutPrefix s p w
  rw [h1, h2] at this
  exact this.mono fun _ _ h => ⟨h.1, h.2.symm⟩
theorem dig_no (l : List UInt8) (k : Nat) (hk : k < l.length) (h : ¬ (48 ≤ (l.getD k 0).toNat ∧ (l.getD k 0).toNat ≤ 57)) : dig l = false := by
  unfold dig
  rw [List.all_eq_false]
  refine ⟨l[k], List.getElem_mem hk, ?_⟩
  rw [getD_at l k hk] at h
  simp only [Bool.and_eq_true, decide_eq_true_eq]; exact h
theorem below_bytes (w : World) (e : TypeId) (s : ByteArray) : Below w.heap.size w (Lib.bytesWorld w e s) :=
  ⟨rfl, rfl, rfl, by rw [Lib.bytesWorld_size]; omega, fun k hk => Lib.bytesWorld_at_old w e s k hk⟩
theorem ret_ib {a c : Int} {b d : Bool} (h : a = c) (h' : b = d) : Ending.returned (.tuple #[.int .i64 a, .bool b]) = .returned (.tuple #[.int .i64 c, .bool d]) := by rw [h, h']
theorem dval_bd9 (l : List UInt8) (k : Nat) (h : dig (l.take k) = true) (hk : k ≤ 9) : dval (l.take k) ≤ 999999999 := by
  have h1 := dval_lt _ h
  have h2 : (l.take k).length ≤ 9 := by rw [List.length_take]; omega
  have h3 : 10 ^ (l.take k).length ≤ 10 ^ 9 := Nat.pow_le_pow_right (by omega) h2
  have h4 : (10 : Nat) ^ 9 = 1000000000 := by decide
  omega

set_option maxRecDepth 100000 in
set_option maxHeartbeats 800000 in
theorem natural_sz (s : ByteArray) (w : World) (hs : s.size ≤ 9) :
    Calls Tryd.prog 63 #[.string s] w fun e w' => e = .returned (.tuple #[.int .i64 (Fx.natV s.data.toList), .bool (Fx.natOk s.data.toList)]) ∧ Below w.heap.size w w' := by
  have hcv := Lib.run_convert_string_bytes (P := Tryd.prog) w 9 77 5 s (u := .string) Tryd.underlying9 Tryd.underlying77 Tryd.underlying5
  have hB : ∀ j, j < s.size → (Lib.bytesWorld w 5 s).cell? ⟨w.heap.size, j, none⟩ = some (.int .u8 (s.data.toList.getD j 0).toNat) := fun j hj => Lib.bytesWorld_cell w 5 s j hj
  have hW := Lib.hid (below_bytes w 5 s)
  obtain ⟨W1, hW1⟩ : ∃ W1, W1 = Lib.bytesWorld w 5 s := ⟨_, rfl⟩
  rw [← hW1] at hcv hB hW
  clear hW1
  obtain ⟨bs, hL⟩ : ∃ bs, bs = s.data.toList := ⟨_, rfl⟩
  have hLn : bs.length = s.size := by rw [hL, Lib.size_eq]
  rw [← hL] at hB ⊢
  clear hL
  have HL := Lib.hid hLn
  have HO := Lib.hid (Fx.natOk_short bs (by omega))
  clear hLn
  go_enter Tryd.func63, Tryd.ntmps63
  go_wp2
  clear hcv
  go_loop [12, 2] (fun vi vn => ∃ (k : Nat) (n : Int), vi = .int .i64 k ∧ vn = .int .i64 n ∧ k ≤ s.size ∧ Hid (dig (bs.take k) = true) ∧ Hid (n = (dval (bs.take k) : Int)) ∧ 0 ≤ n ∧ n ≤ 999999999) (fun vi _ => s.size - (intOf vi).toNat)
  case atStart => exact ⟨0, 0, rfl, rfl, by omega, rfl, rfl, by omega, by omega⟩
  case round =>
    obtain ⟨k, n, rfl, rfl, hk, hd, hn, n0, n1⟩ := hrel
    by_cases hkn : k < s.size
    · have hc := hB k hkn
      have hgt : bs.take (k + 1) = bs.take k ++ [bs.getD k 0] := take_at bs k (by rw [HL.out]; exact hkn)
      have HD : Hid ((48 ≤ (bs.getD k 0).toNat ∧ (bs.getD k 0).toNat ≤ 57 → dig (bs.take (k + 1)) = true ∧ 10 * n + ((bs.getD k 0).toNat - 48 : Nat) = (dval (bs.take (k + 1)) : Int)) ∧ (¬ (48 ≤ (bs.getD k 0).toNat ∧ (bs.getD k 0).toNat ≤ 57) → dig bs = false)) := by
        refine ⟨fun h => ⟨?_, ?_⟩, fun h => dig_no bs k (by rw [HL.out]; exact hkn) h⟩
        · rw [hgt, dig_snoc, hd.out, decide_eq_true h.1, decide_eq_true h.2]; rfl
        · rw [hgt, dval_snoc, hn.out]; omega
      have HB9 : Hid (dig (bs.take (k + 1)) = true → dval (bs.take (k + 1)) ≤ 999999999) := fun h => dval_bd9 bs (k + 1) h (by omega)
      clear hgt hB
      generalize bs.getD k 0 = c at hc HD
      have hc256 : c.toNat < 256 := c.toNat_lt
      by_cases h1 : c.toNat < 48
      · have HF := Lib.hid (HD.out.2 (by omega))
        clear HD
        go_wp2
        go_ret2
        exact ⟨ret_ib (Fx.natV_no _ (by rw [HO.out, HF.out])).symm (by rw [HO.out, HF.out]), hW.out⟩
      by_cases h2 : 57 < c.toNat
      · have HF := Lib.hid (HD.out.2 (by omega))
        clear HD
        go_wp2
        go_ret2
        exact ⟨ret_ib (Fx.natV_no _ (by rw [HO.out, HF.out])).symm (by rw [HO.out, HF.out]), hW.out⟩
      · have hok := HD.out.1 ⟨by omega, by omega⟩
        have hb9 := HB9.out hok.1
        have HK1 := Lib.hid hok.1
        have HK2 := Lib.hid hok.2
        have hbb : 10 * n + ((c.toNat : Int) - 48) ≤ 999999999 := by have := hok.2; omega
        clear HD HB9 hok hb9
        go_wp2
        refine ⟨⟨k + 1, 10 * n + ((c.toNat : Int) - 48), by go_num, by first | rfl | go_num, by omega, HK1, ?_, by omega, hbb⟩, by simp [intOf]; omega⟩
        have := HK2.out
        exact (show 10 * n + ((c.toNat : Int) - 48) = (dval (bs.take (k + 1)) : Int) by omega)
    · clear hB
      have HF : Hid (dig bs = true ∧ n = (dval bs : Int)) := by
        have h1 := hd.out
        have h2 := hn.out
        rw [List.take_of_length_le (by rw [HL.out]; omega)] at h1 h2
        exact ⟨h1, h2⟩
      clear hd hn
      go_wp2
      go_ret2
      exact ⟨ret_ib (by rw [Fx.natV_ok _ (by rw [HO.out, HF.out.1])]; exact HF.out.2) (by rw [HO.out, HF.out.1]), hW.out⟩

set_option maxHeartbeats 400000 in
theorem natural_any (s : ByteArray) (w : World) (hs : s.size ≤ 10000) :
    Calls Tryd.prog 63 #[.string s] w fun e w' => e = .returned (.tuple #[.int .i64 (Fx.natV s.data.toList), .bool (Fx.natOk s.data.toList)]) ∧ Below w.heap.size w w' := by
  by_cases h : s.size ≤ 9
  · exact natural_sz s w h
  · have HO := Lib.hid (Fx.natOk_long s.data.toList (by have := Lib.size_eq s; omega))
    have HV := Lib.hid (Fx.natV_no _ HO.out)
    go_enter Tryd.func63, Tryd.ntmps63
    go_wp2
    go_ret2
    exact ⟨ret_ib HV.out.symm HO.out.symm, Below.refl _ _⟩
theorem natural_of (l : List UInt8) (w : World) (v : Int) (b : Bool) (hl : l.length ≤ 10000) (hv : Fx.natV l = v) (hb : Fx.natOk l = b) :
    Calls Tryd.prog 63 #[.string ⟨l.toArray⟩] w fun e w' => e = .returned (.tuple #[.int .i64 v, .bool b]) ∧ Below w.heap.size w w' := by
  have := natural_any ⟨l.toArray⟩ w (by rw [Lib.size_eq]; simpa using hl)
  subst hv hb
  simpa using this

set_option maxHeartbeats 400000 in
theorem units_any (d p : Int) (w : World) (h0 : 0 ≤ d) (h1 : d ≤ 999999999) (h2 : 1 ≤ p) (h3 : p ≤ 1000000000) :
    Calls Tryd.prog 64 #[.int .i64 d, .int .i64 p] w fun e w' => e = .returned (.int .i64 (Fx.rnd (65536 * d) p)) ∧ w = w' := by
  go_enter Tryd.func64, Tryd.ntmps64
  go_wp2_with fail
  refine (rounded_any (65536 * d) p _ (by omega) (by omega) (by omega) (by omega) (by omega) (by omega)).mono ?_; rintro e w1 ⟨rfl, rfl⟩
  go_wp2
  go_ret
  exact ⟨rfl, rfl⟩
end Go.Proofs.YtanhomngnickfaaDoor
