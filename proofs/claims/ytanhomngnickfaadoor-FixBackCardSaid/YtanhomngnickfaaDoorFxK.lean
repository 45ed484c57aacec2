/-
  Contracts of the reference: digits written, digits read.
-/
-- LAW 02
import Derived.Test.YtanhomngnickfaaDoorFxH
import Derived.Deep.DeepCutAuto
namespace Go.Proofs.YtanhomngnickfaaDoor
open Go.RowKit

theorem sget (s : ByteArray) (k : Nat) (h : k < s.size) : s[k] = s.data.toList.getD k 0 := by
  have h2 : k < s.data.toList.length := by have := Lib.size_eq s; omega
  rw [getD_at _ _ h2]
  simp [ByteArray.getElem_eq_getElem_data]

set_option maxRecDepth 100000 in
set_option maxHeartbeats 800000 in
theorem whole_sz (s : ByteArray) (w : World) (hs0 : 1 ≤ s.size) (hs : s.size ≤ 9) :
    Calls Tryd.prog 65 #[.string s] w fun e w' => e = .returned (.int .i64 (Fx.whV s.data.toList)) ∧ w = w' := by
  obtain ⟨bs, hL⟩ : ∃ bs, bs = s.data.toList := ⟨_, rfl⟩
  have hLn : bs.length = s.size := by rw [hL]; have := Lib.size_eq s; omega
  have hG : Hid (∀ (k : Nat) (h : k < s.size), s[k] = bs.getD k 0) := fun k h => by rw [hL]; exact sget s k h
  rw [← hL]
  clear hL
  have HL := Lib.hid hLn
  have HO := Lib.hid (Fx.natOk_short bs (by omega))
  have HW : Hid (Fx.whV bs = if 1 ≤ bs.length ∧ Fx.natOk bs = true then (dval bs : Int) else -1) := rfl
  clear hLn
  go_enter Tryd.func65, Tryd.ntmps65
  go_wp2
  go_loop [4, 3] (fun vi vn => ∃ (k : Nat) (n : Int), vi = .int .i64 k ∧ vn = .int .i64 n ∧ k ≤ s.size ∧ Hid (dig (bs.take k) = true) ∧ Hid (n = (dval (bs.take k) : Int)) ∧ 0 ≤ n ∧ n ≤ 999999999) (fun vi _ => s.size - (intOf vi).toNat)
  case atStart => exact ⟨0, 0, rfl, rfl, by omega, rfl, rfl, by omega, by omega⟩
  case round =>
    obtain ⟨k, n, rfl, rfl, hk, hd, hn, n0, n1⟩ := hrel
    by_cases hkn : k < s.size
    · have hc := hG.out k hkn
      have hgt : bs.take (k + 1) = bs.take k ++ [bs.getD k 0] := take_at bs k (by rw [HL.out]; exact hkn)
      have HD : Hid ((48 ≤ (bs.getD k 0).toNat ∧ (bs.getD k 0).toNat ≤ 57 → dig (bs.take (k + 1)) = true ∧ 10 * n + ((bs.getD k 0).toNat - 48 : Nat) = (dval (bs.take (k + 1)) : Int)) ∧ (¬ (48 ≤ (bs.getD k 0).toNat ∧ (bs.getD k 0).toNat ≤ 57) → dig bs = false)) := by
        refine ⟨fun h => ⟨?_, ?_⟩, fun h => dig_no bs k (by rw [HL.out]; exact hkn) h⟩
        · rw [hgt, dig_snoc, hd.out, decide_eq_true h.1, decide_eq_true h.2]; rfl
        · rw [hgt, dval_snoc, hn.out]; omega
      have HB9 : Hid (dig (bs.take (k + 1)) = true → dval (bs.take (k + 1)) ≤ 999999999) := fun h => dval_bd9 bs (k + 1) h (by omega)
      clear hgt
      generalize bs.getD k 0 = c at hc HD
      have hc256 : c.toNat < 256 := c.toNat_lt
      by_cases h1 : c.toNat < 48
      · have HF := Lib.hid (HD.out.2 (by omega))
        clear HD
        go_wp2
        go_ret
        exact ⟨ret_int (by rw [HW.out, if_neg (by rw [HO.out, HF.out]; simp)]), rfl⟩
      by_cases h2 : 57 < c.toNat
      · have HF := Lib.hid (HD.out.2 (by omega))
        clear HD
        go_wp2
        go_ret
        exact ⟨ret_int (by rw [HW.out, if_neg (by rw [HO.out, HF.out]; simp)]), rfl⟩
      · have hok := HD.out.1 ⟨by omega, by omega⟩
        have hb9 := HB9.out hok.1
        have HK1 := Lib.hid hok.1
        have HK2 := Lib.hid hok.2
        have hbb : 10 * n + ((c.toNat : Int) - 48) ≤ 999999999 := by have := hok.2; omega
        clear HD HB9 hok hb9
        go_wp2
        refine ⟨⟨k + 1, 10 * n + ((c.toNat : Int) - 48), by go_num, by first | rfl | go_num, by omega, HK1, ?_, by omega, hbb⟩, by simp [intOf]; omega⟩
        have := HK2.out
        exact (show 10 * n + ((c.toNat : Int) - 48) = (dval (bs.take (k + 1)) : Int) by omega)
    · have HF : Hid (dig bs = true ∧ n = (dval bs : Int)) := by
        have h1 := hd.out
        have h2 := hn.out
        rw [List.take_of_length_le (by rw [HL.out]; omega)] at h1 h2
        exact ⟨h1, h2⟩
      clear hd hn
      go_wp2
      go_ret
      exact ⟨ret_int (by rw [HW.out, if_pos ⟨by rw [HL.out]; omega, by rw [HO.out, HF.out.1]⟩]; exact HF.out.2), rfl⟩

set_option maxHeartbeats 400000 in
theorem whole_any (s : ByteArray) (w : World) (hs : s.size ≤ 10000) :
    Calls Tryd.prog 65 #[.string s] w fun e w' => e = .returned (.int .i64 (Fx.whV s.data.toList)) ∧ w = w' := by
  have hl : s.data.toList.length = s.size := by have := Lib.size_eq s; omega
  by_cases h1 : 1 ≤ s.size
  · by_cases h : s.size ≤ 9
    · exact whole_sz s w h1 h
    · have HW := Lib.hid (Fx.whV_no s.data.toList (Fx.natOk_long s.data.toList (by omega)))
      go_enter Tryd.func65, Tryd.ntmps65
      go_wp2
      go_ret
      exact ⟨ret_int HW.out.symm, rfl⟩
  · have HW : Hid (Fx.whV s.data.toList = -1) := by
      show _ = _
      rw [Fx.whV, if_neg (by omega)]
    have hz : s.size = 0 := by omega
    go_enter Tryd.func65, Tryd.ntmps65
    go_wp2
    go_ret
    exact ⟨ret_int HW.out.symm, rfl⟩
theorem whole_of (l : List UInt8) (w : World) (v : Int) (hl : l.length ≤ 10000) (hv : Fx.whV l = v) :
    Calls Tryd.prog 65 #[.string ⟨l.toArray⟩] w fun e w' => e = .returned (.int .i64 v) ∧ w = w' := by
  have := whole_any ⟨l.toArray⟩ w (by rw [Lib.size_eq]; simpa using hl)
  subst hv
  simpa using this

theorem enc_digit : ∀ d : Fin 10, Utf8.encode (48 + (d.val : Int)) = ⟨#[UInt8.ofNat (48 + d.val)]⟩ := by decide +kernel
theorem ba_cons (c : UInt8) (b : List UInt8) : (⟨#[c]⟩ : ByteArray) ++ ⟨b.toArray⟩ = ⟨(c :: b).toArray⟩ := by
  apply ByteArray.ext; simp
theorem ret_strK {a b : ByteArray} (h : a = b) : Ending.returned (.string a) = .returned (.string b) := by rw [h]

set_option maxRecDepth 100000 in
set_option maxHeartbeats 800000 in
theorem digits_any (m L K : Nat) (w : World) (hK : m < 10 ^ K) (hL : L ≤ K) (hk : ∀ k, k < K → 0 < m / 10 ^ k ∨ k < L) (hK9 : K ≤ 9) (hm : m ≤ 999999999) :
    Calls Tryd.prog 60 #[.int .i64 m, .int .i64 L] w fun e w' => e = .returned (.string ⟨(Fx.pad K m).toArray⟩) ∧ w = w' := by
  have HK := Lib.hid hk
  have HZ : Hid (m / 10 ^ K = 0) := Nat.div_eq_of_lt hK
  clear hk hK
  go_enter Tryd.func60, Tryd.ntmps60
  go_wp2
  go_loop [0, 5] (fun vn vs => ∃ (k q : Nat), vn = .int .i64 q ∧ vs = .string ⟨(Fx.pad k m).toArray⟩ ∧ k ≤ K ∧ Hid (q = m / 10 ^ k) ∧ q ≤ 999999999) (fun _ vs => K - (match vs with | .string b => b.size | _ => 0))
  case atStart => exact ⟨0, m, rfl, rfl, by omega, by simp [Hid], hm⟩
  case round =>
    obtain ⟨k, q, rfl, rfl, hkK, hq, hq9⟩ := hrel
    have hlen := Fx.pad_len k m
    have hsz : (⟨(Fx.pad k m).toArray⟩ : ByteArray).size = k := by rw [Lib.size_eq]; simpa using hlen
    by_cases hlt : k < K
    · have hc := HK.out k hlt
      rw [← hq.out] at hc
      have hpc := Fx.pad_cons k m
      rw [← hq.out] at hpc
      have HP := Lib.hid hpc
      have hen := enc_digit ⟨q % 10, by omega⟩
      have hen2 : Utf8.encode (48 + (q : Int) % 10) = ⟨#[UInt8.ofNat (48 + q % 10)]⟩ := by
        rw [show (q : Int) % 10 = ((q % 10 : Nat) : Int) by omega]; exact hen
      have HN : Hid (q / 10 = m / 10 ^ (k + 1)) := by
        show _ = _
        rw [hq.out, Nat.div_div_eq_div_mul, Nat.pow_succ]
      have HS : Hid ((⟨(Fx.pad (k + 1) m).toArray⟩ : ByteArray).size = k + 1) := by
        show _ = _
        rw [Lib.size_eq]; simpa using Fx.pad_len (k + 1) m
      clear hpc hen hlen
      have HSZ := Lib.hid hsz
      obtain ⟨dgt, hdg⟩ : ∃ b : ByteArray, b = ⟨#[UInt8.ofNat (48 + q % 10)]⟩ := ⟨_, rfl⟩
      have hap : dgt ++ ⟨(Fx.pad k m).toArray⟩ = ⟨(Fx.pad (k + 1) m).toArray⟩ := by rw [hdg, ba_cons, ← HP.out]
      have hs1 : dgt.size = 1 := by rw [hdg]; rfl
      rw [← hdg] at hen2
      clear hdg HP
      have hfin : ∀ X : Value, X = .int .i64 ((q / 10 : Nat) : Int) → (∃ (k_1 q_1 : Nat), X = .int .i64 q_1 ∧ Value.string ⟨(Fx.pad (k + 1) m).toArray⟩ = .string ⟨(Fx.pad k_1 m).toArray⟩ ∧ k_1 ≤ K ∧ Hid (q_1 = m / 10 ^ k_1) ∧ q_1 ≤ 999999999) := fun X hX => ⟨k + 1, q / 10, hX, rfl, by omega, HN, by omega⟩
      have HFIN := Lib.hid hfin
      clear hfin
      have hms : K - (⟨(Fx.pad (k + 1) m).toArray⟩ : ByteArray).size < K - (⟨(Fx.pad k m).toArray⟩ : ByteArray).size := by rw [HS.out, HSZ.out]; omega
      have HMS := Lib.hid hms
      clear hms HN HS
      generalize Fx.pad k m = P at *
      generalize Fx.pad (k + 1) m = P' at *
      rcases hc with hc | hc
      · go_wp2
        exact ⟨HFIN.out _ rfl, HMS.out⟩
      · by_cases hq0 : 0 < q
        · go_wp2
          exact ⟨HFIN.out _ rfl, HMS.out⟩
        · go_wp2
          exact ⟨HFIN.out _ rfl, HMS.out⟩
    · have e : k = K := by omega
      subst e
      have hq0 : q = 0 := by rw [hq.out, HZ.out]
      subst hq0
      clear hlen
      obtain ⟨P, hP⟩ : ∃ P, P = Fx.pad k m := ⟨_, rfl⟩
      rw [← hP] at hsz ⊢
      have HP := Lib.hid hP
      clear hP
      go_wp2
      go_ret
      exact ⟨ret_strK (by rw [HP.out]), rfl⟩
end Go.Proofs.YtanhomngnickfaaDoor
