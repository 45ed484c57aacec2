/-
  Contracts of the reference: digits written and read, Text, what is cut.
  Contracts of the reference: Text.
-/
import Derived.Test.YtnhcjgnohnedaaaGreatDoorShelfS
import Derived.Test.YtnhcjgnohnedaaaGreatDoorPower0
import Derived.Deep.DeepCutAuto
namespace Go.Proofs.YtnhcjgnohnedaaaGreatDoor
open Go.RowKit

theorem sgetN (s : ByteArray) (k : Nat) (h : k < s.size) : s[k] = s.data.toList.getD k 0 := by
  have h2 : k < s.data.toList.length := by have := Lib.size_eq s; omega
  rw [getD_at _ _ h2]
  simp [ByteArray.getElem_eq_getElem_data]
theorem encN : ∀ d : Fin 10, Utf8.encode (48 + (d.val : Int)) = ⟨#[UInt8.ofNat (48 + d.val)]⟩ := by decide +kernel
theorem ba_snoc (a : List UInt8) (c : UInt8) : (⟨a.toArray⟩ : ByteArray) ++ ⟨#[c]⟩ = ⟨(a ++ [c]).toArray⟩ := by
  apply ByteArray.ext; simp
theorem ret_strN {a b : ByteArray} (h : a = b) : Ending.returned (.string a) = .returned (.string b) := by rw [h]
theorem dec_lenN (n : Nat) (h : n ≤ 2147483648) : (Lib.decDigits n).length ≤ 21 := by
  have := Lib.itoa_length_le (n : Int) (by omega) (by omega)
  unfold Lib.itoa at this
  rw [if_neg (by omega)] at this
  simpa using this

set_option maxRecDepth 100000 in
set_option maxHeartbeats 800000 in
theorem rdigits_any (n : Nat) : ∀ (w : World), n ≤ 2147483648 →
    Calls Tryz.prog 117 #[.int .u64 n] w fun e w' => e = .returned (.string ⟨(Lib.decDigits n).toArray⟩) ∧ w = w' := by
  induction n using Nat.strongRecOn with
  | _ n ih =>
    intro w hn
    by_cases h : n < 10
    · have hen0 := encN ⟨n, h⟩
      obtain ⟨dgt, hdg⟩ : ∃ b : ByteArray, b = ⟨#[UInt8.ofNat (48 + n)]⟩ := ⟨_, rfl⟩
      obtain ⟨r, hr⟩ : ∃ r : Int, (n : Int) = r := ⟨_, rfl⟩
      have hen : Utf8.encode (48 + r) = dgt := by rw [hdg, ← hr]; exact hen0
      have hs1 : dgt.size = 1 := by rw [hdg]; rfl
      have HDG := Lib.hid hdg
      have r0 : 0 ≤ r := by omega
      have r1 : r < 10 := by omega
      have r10 : r % 10 = r := by omega
      have HD : Hid (Lib.decDigits n = [UInt8.ofNat (48 + n)]) := by
        show _ = _
        rw [Lib.decDigits, dif_pos h]
      clear ih hdg hen0
      rw [hr]
      clear hr
      go_enter Tryz.func117, Tryz.ntmps117
      go_wp2
      go_ret
      exact ⟨ret_strN (by rw [HD.out, HDG.out]), rfl⟩
    · have hen0 := encN ⟨n % 10, by omega⟩
      obtain ⟨dgt, hdg⟩ : ∃ b : ByteArray, b = ⟨#[UInt8.ofNat (48 + n % 10)]⟩ := ⟨_, rfl⟩
      obtain ⟨r, hr⟩ : ∃ r : Int, (n : Int) % 10 = r := ⟨_, rfl⟩
      have hen : Utf8.encode (48 + r) = dgt := by
        rw [hdg, ← hr, show (n : Int) % 10 = ((n % 10 : Nat) : Int) by omega]; exact hen0
      have hs1 : dgt.size = 1 := by rw [hdg]; rfl
      have HDG := Lib.hid hdg
      have r0 : 0 ≤ r := by omega
      have r1 : r < 10 := by omega
      have HI := Lib.hid (fun w => ih (n / 10) (by omega) w (by omega))
      have HL := dec_lenN (n / 10) (by omega)
      have HD : Hid (Lib.decDigits n = Lib.decDigits (n / 10) ++ [UInt8.ofNat (48 + n % 10)]) := by
        show _ = _
        rw [Lib.decDigits, dif_neg h]
      obtain ⟨q, hq⟩ : ∃ q : Int, (n : Int) / 10 = q := ⟨_, rfl⟩
      have HQ : Hid (((n / 10 : Nat) : Int) = q) := by show _ = _; omega
      obtain ⟨N, hN⟩ : ∃ N : Int, (n : Int) = N := ⟨_, rfl⟩
      rw [hN] at hr hq ⊢
      have n0 : 10 ≤ N := by omega
      have n1 : N ≤ 2147483648 := by omega
      have q0 : 0 ≤ q := by omega
      clear ih hdg hen0 hN
      generalize Lib.decDigits (n / 10) = D at *
      go_enter Tryz.func117, Tryz.ntmps117
      go_wp2_with fail
      rw [← HQ.out]
      refine (HI.out _).mono ?_; rintro e w1 ⟨rfl, rfl⟩
      go_wp2_with fail
      go_ret
      exact ⟨ret_strN (by rw [HD.out, HDG.out, ba_snoc]), rfl⟩
theorem rdigits_int (n : Int) (w : World) (h0 : 0 ≤ n) (h1 : n ≤ 2147483648) :
    Calls Tryz.prog 117 #[.int .u64 n] w fun e w' => e = .returned (.string ⟨(Lib.decDigits n.toNat).toArray⟩) ∧ w = w' := by
  have := rdigits_any n.toNat w (by omega)
  rwa [show ((n.toNat : Nat) : Int) = n by omega] at this

/-- Digits that are read: at most so many, else -1. -/
def whM (m : Nat) (l : List UInt8) : Int := if 1 ≤ l.length ∧ l.length ≤ m ∧ dig l = true then (dval l : Int) else -1
theorem dval_bd10 (l : List UInt8) (k : Nat) (h : dig (l.take k) = true) (hk : k ≤ 10) : dval (l.take k) ≤ 9999999999 := by
  have h1 := dval_lt _ h
  have h2 : (l.take k).length ≤ 10 := by rw [List.length_take]; omega
  have h3 : 10 ^ (l.take k).length ≤ 10 ^ 10 := Nat.pow_le_pow_right (by omega) h2
  have h4 : (10 : Nat) ^ 10 = 10000000000 := by decide
  omega
theorem whM_bd (m : Nat) (l : List UInt8) (hm : m ≤ 10) : -1 ≤ whM m l ∧ whM m l ≤ 9999999999 := by
  unfold whM
  split
  · rename_i h
    have := dval_bd10 l l.length (by rw [List.take_length]; exact h.2.2) (by omega)
    rw [List.take_length] at this
    omega
  · omega

set_option maxRecDepth 100000 in
set_option maxHeartbeats 800000 in
theorem rwhole_sz (s : ByteArray) (m : Nat) (w : World) (hs0 : 1 ≤ s.size) (hs : s.size ≤ m) (hm : m ≤ 10) :
    Calls Tryz.prog 120 #[.string s, .int .i64 m] w fun e w' => e = .returned (.int .i64 (whM m s.data.toList)) ∧ w = w' := by
  obtain ⟨bs, hL⟩ : ∃ bs, bs = s.data.toList := ⟨_, rfl⟩
  have hLn : bs.length = s.size := by rw [hL]; have := Lib.size_eq s; omega
  have hG : Hid (∀ (k : Nat) (h : k < s.size), s[k] = bs.getD k 0) := fun k h => by rw [hL]; exact sgetN s k h
  rw [← hL]
  clear hL
  have HL := Lib.hid hLn
  have HW : Hid (whM m bs = if 1 ≤ bs.length ∧ bs.length ≤ m ∧ dig bs = true then (dval bs : Int) else -1) := rfl
  clear hLn
  go_enter Tryz.func120, Tryz.ntmps120
  go_wp2
  go_loop [6, 5] (fun vi vn => ∃ (k : Nat) (n : Int), vi = .int .i64 k ∧ vn = .int .i64 n ∧ k ≤ s.size ∧ Hid (dig (bs.take k) = true) ∧ Hid (n = (dval (bs.take k) : Int)) ∧ 0 ≤ n ∧ n ≤ 9999999999) (fun vi _ => s.size - (intOf vi).toNat)
  case atStart => exact ⟨0, 0, rfl, rfl, by omega, rfl, rfl, by omega, by omega⟩
  case round =>
    obtain ⟨k, n, rfl, rfl, hk, hd, hn, n0, n1⟩ := hrel
    by_cases hkn : k < s.size
    · have hc := hG.out k hkn
      have hgt : bs.take (k + 1) = bs.take k ++ [bs.getD k 0] := take_at bs k (by rw [HL.out]; exact hkn)
      have HD : Hid ((48 ≤ (bs.getD k 0).toNat ∧ (bs.getD k 0).toNat ≤ 57 → dig (bs.take (k + 1)) = true ∧ 10 * n + ((bs.getD k 0).toNat - 48 : Nat) = (dval (bs.take (k + 1)) : Int)) ∧ (¬ (48 ≤ (bs.getD k 0).toNat ∧ (bs.getD k 0).toNat ≤ 57) → dig bs = false)) := by
        refine ⟨fun h => ⟨?_, ?_⟩, fun h => dig_no bs k (by rw [HL.out]; exact hkn) h⟩
        · rw [hgt, dig_snoc, hd.out, decide_eq_true h.1, decide_eq_true h.2]; rfl
        · rw [hgt, dval_snoc, hn.out]; omega
      have HB9 : Hid (dig (bs.take (k + 1)) = true → dval (bs.take (k + 1)) ≤ 9999999999) := fun h => dval_bd10 bs (k + 1) h (by omega)
      clear hgt
      generalize bs.getD k 0 = c at hc HD
      have hc256 : c.toNat < 256 := c.toNat_lt
      by_cases h1 : c.toNat < 48
      · have HF := Lib.hid (HD.out.2 (by omega))
        clear HD
        go_wp2
        go_ret
        exact ⟨ret_int (by rw [HW.out, if_neg (by rw [HF.out]; simp)]), rfl⟩
      by_cases h2 : 57 < c.toNat
      · have HF := Lib.hid (HD.out.2 (by omega))
        clear HD
        go_wp2
        go_ret
        exact ⟨ret_int (by rw [HW.out, if_neg (by rw [HF.out]; simp)]), rfl⟩
      · have hok := HD.out.1 ⟨by omega, by omega⟩
        have hb9 := HB9.out hok.1
        have HK1 := Lib.hid hok.1
        have HK2 := Lib.hid hok.2
        have hbb : 10 * n + ((c.toNat : Int) - 48) ≤ 9999999999 := by have := hok.2; omega
        clear HD HB9 hok hb9
        go_wp2
        refine ⟨⟨_, _, _, ⟨k + 1, rfl, 10 * n + ((c.toNat : Int) - 48), rfl, by omega, HK1, ?_, by omega, hbb⟩, rfl, rfl, by go_num⟩, by simp [intOf] <;> omega⟩
        have := HK2.out
        exact (show 10 * n + ((c.toNat : Int) - 48) = (dval (bs.take (k + 1)) : Int) by omega)
    · have HF : Hid (dig bs = true ∧ n = (dval bs : Int)) := by
        have h1 := hd.out
        have h2 := hn.out
        rw [List.take_of_length_le (by rw [HL.out]; omega)] at h1 h2
        exact ⟨h1, h2⟩
      clear hd hn
      go_wp2
      go_ret
      exact ⟨ret_int (by rw [HW.out, if_pos ⟨by rw [HL.out]; omega, by rw [HL.out]; omega, HF.out.1⟩]; exact HF.out.2), rfl⟩

set_option maxHeartbeats 400000 in
theorem rwhole_any (s : ByteArray) (m : Nat) (w : World) (hs : s.size ≤ 10000) (hm : m ≤ 10) :
    Calls Tryz.prog 120 #[.string s, .int .i64 m] w fun e w' => e = .returned (.int .i64 (whM m s.data.toList)) ∧ w = w' := by
  have hl : s.data.toList.length = s.size := by have := Lib.size_eq s; omega
  by_cases h1 : 1 ≤ s.size
  · by_cases h : s.size ≤ m
    · exact rwhole_sz s m w h1 h hm
    · have HW : Hid (whM m s.data.toList = -1) := by
        show _ = _
        rw [whM, if_neg (by omega)]
      go_enter Tryz.func120, Tryz.ntmps120
      go_wp2
      go_ret
      exact ⟨ret_int HW.out.symm, rfl⟩
  · have HW : Hid (whM m s.data.toList = -1) := by
      show _ = _
      rw [whM, if_neg (by omega)]
    have hz : s.size = 0 := by omega
    go_enter Tryz.func120, Tryz.ntmps120
    go_wp2
    go_ret
    exact ⟨ret_int HW.out.symm, rfl⟩
theorem rwhole_of (l : List UInt8) (m : Nat) (w : World) (v : Int) (hl : l.length ≤ 10000) (hm : m ≤ 10) (hv : whM m l = v) :
    Calls Tryz.prog 120 #[.string ⟨l.toArray⟩, .int .i64 m] w fun e w' => e = .returned (.int .i64 v) ∧ w = w' := by
  have := rwhole_any ⟨l.toArray⟩ m w (by rw [Lib.size_eq]; simpa using hl) hm
  subst hv
  simpa using this

theorem cutB_spec (x : UInt8) : ∀ (l wh pt : List UInt8) (pd : Bool), Lib.cut l [x] = (wh, pt, pd) → (pd = true ∧ l = wh ++ x :: pt ∧ ∀ c ∈ wh, c ≠ x) ∨ (pd = false ∧ l = wh ∧ pt = [] ∧ ∀ c ∈ wh, c ≠ x) := by
  have key : ∀ l : List UInt8, (∀ c ∈ l, c ≠ x) ∨ ∃ wh pt, l = wh ++ x :: pt ∧ ∀ c ∈ wh, c ≠ x := by
    intro l
    induction l with
    | nil => exact .inl (fun c h => by cases h)
    | cons b l ih =>
      by_cases h : b = x
      · subst h; exact .inr ⟨[], l, rfl, fun c h => by cases h⟩
      · rcases ih with ih | ⟨wh, pt, e, ih⟩
        · left
          intro c hc
          rcases List.mem_cons.1 hc with rfl | hc
          · exact h
          · exact ih c hc
        · right
          refine ⟨b :: wh, pt, by rw [e]; rfl, ?_⟩
          intro c hc
          rcases List.mem_cons.1 hc with rfl | hc
          · exact h
          · exact ih c hc
  intro l wh pt pd h
  rcases key l with hk | ⟨wh', pt', rfl, hk⟩
  · rw [cutB_no x l hk] at h
    simp only [Prod.mk.injEq] at h
    obtain ⟨rfl, rfl, rfl⟩ := h
    exact .inr ⟨rfl, rfl, rfl, hk⟩
  · rw [cutB_app x wh' pt' hk] at h
    simp only [Prod.mk.injEq] at h
    obtain ⟨rfl, rfl, rfl⟩ := h
    exact .inl ⟨rfl, rfl, hk⟩
theorem ba_ext (l : List UInt8) (a b : Nat) : (⟨l.toArray⟩ : ByteArray).extract a b = ⟨((l.drop a).take (b - a)).toArray⟩ := by
  apply ByteArray.ext
  rw [ByteArray.data_extract]
  apply Array.ext'
  simp
theorem ba_etaN (s : ByteArray) : s = ⟨s.data.toList.toArray⟩ := by
  apply ByteArray.ext; simp
theorem ret_ssb {a b c d : ByteArray} {x : Bool} (h : a = b) (h' : c = d) : Ending.returned (.tuple #[.string a, .string c, .bool x]) = .returned (.tuple #[.string b, .string d, .bool x]) := by rw [h, h']

set_option maxRecDepth 100000 in
set_option maxHeartbeats 800000 in
theorem rcut_47 (s : ByteArray) (w : World) (hs : s.size ≤ 10000) (wh pt : List UInt8) (pd : Bool) (hc : Lib.cut s.data.toList [47] = (wh, pt, pd)) :
    Calls Tryz.prog 119 #[.string s, .int .u8 47] w fun e w' => e = .returned (.tuple #[.string ⟨wh.toArray⟩, .string ⟨pt.toArray⟩, .bool pd]) ∧ ∃ n, w' = w.drewN n := by
  have hx : (47 : UInt8).toNat = 47 := rfl
  have hsz : s.data.toList.length = s.size := by have := Lib.size_eq s; omega
  have hget : ∀ k (h : k < s.size), s[k] = s.data.toList.getD k 0 := fun k h => sgetN s k h
  have hes := ba_etaN s
  rcases cutB_spec 47 _ wh pt pd hc with ⟨rfl, hl, hn⟩ | ⟨rfl, hl, rfl, hn⟩
  · obtain ⟨wl, hwl⟩ : ∃ wl, wl = wh.length := ⟨_, rfl⟩
    have hsz2 : s.size = wl + (pt.length + 1) := by rw [← hsz, hl, hwl]; simp
    have HG : Hid (∀ k, k < wl → ∀ h : k < s.size, ∃ c : UInt8, s[k] = c ∧ (c.toNat : Int) ≠ 47) := by
      intro k hk h
      refine ⟨_, hget k h, ?_⟩
      have hk' : k < wh.length := by omega
      rw [hl, getD_at _ _ (by simp; omega), List.getElem_append_left hk']
      intro e
      exact hn wh[k] (List.getElem_mem hk') (UInt8.toNat_inj.1 (by omega))
    have HDOT : Hid (∀ h : wl < s.size, s[wl] = 47) := by
      intro h
      rw [hget _ h, hl, hwl, getD_at _ _ (by simp), List.getElem_append_right (Nat.le_refl _)]; simp
    have HF : Hid (s.extract 0 wl = ⟨wh.toArray⟩) := by
      show _ = _
      rw [hes, ba_ext, hl, hwl]; simp
    have HBK : Hid (s.extract (wl + 1) (wl + (pt.length + 1)) = ⟨pt.toArray⟩) := by
      show _ = _
      rw [hes, ba_ext, hl, hwl, List.drop_append, List.drop_eq_nil_of_le (by omega)]
      simp only [List.nil_append]
      rw [show wh.length + 1 - wh.length = 1 by omega, List.drop_one, List.tail_cons, show wh.length + (pt.length + 1) - (wh.length + 1) = pt.length by omega, List.take_length]
    generalize pt.length = pl at *
    clear hc hl hn hget hes hsz hwl hx
    go_enter Tryz.func119, Tryz.ntmps119
    go_wp2
    go_loop [7] (fun vi => ∃ k : Nat, vi = .int .i64 k ∧ k ≤ wl) (fun vi => wl - (intOf vi).toNat)
    case atStart => exact ⟨0, rfl, by omega⟩
    case round =>
      obtain ⟨k, rfl, hk⟩ := hrel
      by_cases hkn : k < wl
      · obtain ⟨c, hcc, hcn⟩ := HG.out k hkn (by omega)
        have hcb : ((c.toNat : Int) == 47) = false := by simpa using hcn
        clear hcn
        go_wp2_with fail
        exact ⟨⟨k + 1, by go_num, by omega⟩, by simp [intOf] <;> omega⟩
      · have e : k = wl := by omega
        subst e
        have hd := HDOT.out (by omega)
        have tf := HF.out
        have tb := HBK.out
        go_wp2
        go_quiet (fail)
        go_wp2
        go_ret3
        exact ⟨rfl, ⟨_, rfl⟩⟩
  · have HS : Hid ((⟨wh.toArray⟩ : ByteArray) = s) := by
      show _ = _
      rw [← hl]
    have HG : Hid (∀ k, k < s.size → ∀ h : k < s.size, ∃ c : UInt8, s[k] = c ∧ (c.toNat : Int) ≠ 47) := by
      intro k hk h
      refine ⟨_, hget k h, ?_⟩
      have hk' : k < s.data.toList.length := by omega
      rw [getD_at _ _ hk']
      intro e
      exact hn s.data.toList[k] (by rw [← hl]; exact List.getElem_mem hk') (UInt8.toNat_inj.1 (by omega))
    clear hc hl hn hget hes hsz hx
    go_enter Tryz.func119, Tryz.ntmps119
    go_wp2
    go_loop [7] (fun vi => ∃ k : Nat, vi = .int .i64 k ∧ k ≤ s.size) (fun vi => s.size - (intOf vi).toNat)
    case atStart => exact ⟨0, rfl, by omega⟩
    case round =>
      obtain ⟨k, rfl, hk⟩ := hrel
      by_cases hkn : k < s.size
      · obtain ⟨c, hcc, hcn⟩ := HG.out k hkn (by omega)
        have hcb : ((c.toNat : Int) == 47) = false := by simpa using hcn
        clear hcn
        go_wp2_with fail
        exact ⟨⟨k + 1, by go_num, by omega⟩, by simp [intOf] <;> omega⟩
      · go_wp2
        go_ret3
        exact ⟨ret_ssb HS.out.symm rfl, ⟨0, rfl⟩⟩

set_option maxRecDepth 100000 in
set_option maxHeartbeats 800000 in
theorem rcut_46 (s : ByteArray) (w : World) (hs : s.size ≤ 10000) (wh pt : List UInt8) (pd : Bool) (hc : Lib.cut s.data.toList [46] = (wh, pt, pd)) :
    Calls Tryz.prog 119 #[.string s, .int .u8 46] w fun e w' => e = .returned (.tuple #[.string ⟨wh.toArray⟩, .string ⟨pt.toArray⟩, .bool pd]) ∧ ∃ n, w' = w.drewN n := by
  have hx : (46 : UInt8).toNat = 46 := rfl
  have hsz : s.data.toList.length = s.size := by have := Lib.size_eq s; omega
  have hget : ∀ k (h : k < s.size), s[k] = s.data.toList.getD k 0 := fun k h => sgetN s k h
  have hes := ba_etaN s
  rcases cutB_spec 46 _ wh pt pd hc with ⟨rfl, hl, hn⟩ | ⟨rfl, hl, rfl, hn⟩
  · obtain ⟨wl, hwl⟩ : ∃ wl, wl = wh.length := ⟨_, rfl⟩
    have hsz2 : s.size = wl + (pt.length + 1) := by rw [← hsz, hl, hwl]; simp
    have HG : Hid (∀ k, k < wl → ∀ h : k < s.size, ∃ c : UInt8, s[k] = c ∧ (c.toNat : Int) ≠ 46) := by
      intro k hk h
      refine ⟨_, hget k h, ?_⟩
      have hk' : k < wh.length := by omega
      rw [hl, getD_at _ _ (by simp; omega), List.getElem_append_left hk']
      intro e
      exact hn wh[k] (List.getElem_mem hk') (UInt8.toNat_inj.1 (by omega))
    have HDOT : Hid (∀ h : wl < s.size, s[wl] = 46) := by
      intro h
      rw [hget _ h, hl, hwl, getD_at _ _ (by simp), List.getElem_append_right (Nat.le_refl _)]; simp
    have HF : Hid (s.extract 0 wl = ⟨wh.toArray⟩) := by
      show _ = _
      rw [hes, ba_ext, hl, hwl]; simp
    have HBK : Hid (s.extract (wl + 1) (wl + (pt.length + 1)) = ⟨pt.toArray⟩) := by
      show _ = _
      rw [hes, ba_ext, hl, hwl, List.drop_append, List.drop_eq_nil_of_le (by omega)]
      simp only [List.nil_append]
      rw [show wh.length + 1 - wh.length = 1 by omega, List.drop_one, List.tail_cons, show wh.length + (pt.length + 1) - (wh.length + 1) = pt.length by omega, List.take_length]
    generalize pt.length = pl at *
    clear hc hl hn hget hes hsz hwl hx
    go_enter Tryz.func119, Tryz.ntmps119
    go_wp2
    go_loop [7] (fun vi => ∃ k : Nat, vi = .int .i64 k ∧ k ≤ wl) (fun vi => wl - (intOf vi).toNat)
    case atStart => exact ⟨0, rfl, by omega⟩
    case round =>
      obtain ⟨k, rfl, hk⟩ := hrel
      by_cases hkn : k < wl
      · obtain ⟨c, hcc, hcn⟩ := HG.out k hkn (by omega)
        have hcb : ((c.toNat : Int) == 46) = false := by simpa using hcn
        clear hcn
        go_wp2_with fail
        exact ⟨⟨k + 1, by go_num, by omega⟩, by simp [intOf] <;> omega⟩
      · have e : k = wl := by omega
        subst e
        have hd := HDOT.out (by omega)
        have tf := HF.out
        have tb := HBK.out
        go_wp2
        go_quiet (fail)
        go_wp2
        go_ret3
        exact ⟨rfl, ⟨_, rfl⟩⟩
  · have HS : Hid ((⟨wh.toArray⟩ : ByteArray) = s) := by
      show _ = _
      rw [← hl]
    have HG : Hid (∀ k, k < s.size → ∀ h : k < s.size, ∃ c : UInt8, s[k] = c ∧ (c.toNat : Int) ≠ 46) := by
      intro k hk h
      refine ⟨_, hget k h, ?_⟩
      have hk' : k < s.data.toList.length := by omega
      rw [getD_at _ _ hk']
      intro e
      exact hn s.data.toList[k] (by rw [← hl]; exact List.getElem_mem hk') (UInt8.toNat_inj.1 (by omega))
    clear hc hl hn hget hes hsz hx
    go_enter Tryz.func119, Tryz.ntmps119
    go_wp2
    go_loop [7] (fun vi => ∃ k : Nat, vi = .int .i64 k ∧ k ≤ s.size) (fun vi => s.size - (intOf vi).toNat)
    case atStart => exact ⟨0, rfl, by omega⟩
    case round =>
      obtain ⟨k, rfl, hk⟩ := hrel
      by_cases hkn : k < s.size
      · obtain ⟨c, hcc, hcn⟩ := HG.out k hkn (by omega)
        have hcb : ((c.toNat : Int) == 46) = false := by simpa using hcn
        clear hcn
        go_wp2_with fail
        exact ⟨⟨k + 1, by go_num, by omega⟩, by simp [intOf] <;> omega⟩
      · go_wp2
        go_ret3
        exact ⟨ret_ssb HS.out.symm rfl, ⟨0, rfl⟩⟩

end Go.Proofs.YtnhcjgnohnedaaaGreatDoor

namespace Go.Proofs.YtnhcjgnohnedaaaGreatDoor
open Go.RowKit

theorem ret_saN {a b : ByteArray} {c : Int} (h : a = b) : Ending.returned (.tuple #[.string a, .int .i64 c]) = .returned (.tuple #[.string b, .int .i64 c]) := by rw [h]
theorem baN_one (c : UInt8) (b : List UInt8) : (⟨#[c]⟩ : ByteArray) ++ ⟨b.toArray⟩ = ⟨(c :: b).toArray⟩ := by
  apply ByteArray.ext; simp
theorem baN_app (a b : List UInt8) : (⟨a.toArray⟩ : ByteArray) ++ ⟨b.toArray⟩ = ⟨(a ++ b).toArray⟩ := by
  apply ByteArray.ext; simp
set_option maxHeartbeats 400000 in
theorem rtext_no (p q : Int) (w : World) (h1 : -9223372036854775808 ≤ p) (h2 : p ≤ 9223372036854775807) (h3 : -9223372036854775808 ≤ q) (h4 : q ≤ 9223372036854775807) (hv : Nm.vld p q = false) :
    Calls Tryz.prog 82 #[.agg #[.int .i64 p, .int .i64 q]] w fun e w' => e = .returned (.tuple #[.string ⟨#[]⟩, .int .i64 2]) ∧ Below w.heap.size w w' := by
  have HV := Lib.hid hv
  clear hv
  (go_enter Tryz.func82, Tryz.ntmps82; go_wp2_with fail; have fa := numAt_new w p q 39; have hB := (Below.refl w.heap.size w).alloc (Nat.le_refl _) (.cells #[.int .i64 p, .int .i64 q] 39); generalize w.alloc (.cells #[.int .i64 p, .int .i64 q] 39) = W at fa hB ⊢)
  refine (rvalid_any p q _ h1 h2 h3 h4).mono ?_; rintro e w' ⟨rfl, hb1⟩; replace hB := hB.trans (hb1.mono hB.size); clear hb1
  rw [HV.out]
  go_wp2_with fail
  go_ret2
  exact ⟨rfl, hB⟩
set_option maxRecDepth 100000 in
set_option maxHeartbeats 800000 in
theorem rtext_neg_one (p q : Int) (w : World) (hv : Nm.vld p q = true) (hp : p < 0) (hq : (q == 1) = true) :
    Calls Tryz.prog 82 #[.agg #[.int .i64 p, .int .i64 q]] w fun e w' => e = .returned (.tuple #[.string ⟨(txt p q).toArray⟩, .int .i64 0]) ∧ Below w.heap.size w w' := by
  obtain ⟨x1, x2, x3, x4⟩ := vld_bd hv
  have HV := Lib.hid hv
  have HT : Hid (txt p q = 45 :: (Lib.decDigits p.natAbs)) := by
    show _ = _
    have hq' : q = 1 := by simpa using hq
    unfold txt Lib.itoa
    rw [if_pos hq', if_pos hp]
    try rfl
  have LP := dec_lenN p.natAbs (by omega)
  have LQ := dec_lenN q.toNat (by omega)
  have hqn : (q != 1) = false := by simp [bne, hq]
  clear hv
  (go_enter Tryz.func82, Tryz.ntmps82; go_wp2_with fail; have fa := numAt_new w p q 39; have hB := (Below.refl w.heap.size w).alloc (Nat.le_refl _) (.cells #[.int .i64 p, .int .i64 q] 39); generalize w.alloc (.cells #[.int .i64 p, .int .i64 q] 39) = W at fa hB ⊢)
  (refine (rvalid_any p q _ (by omega) (by omega) (by omega) (by omega)).mono ?_; rintro e w' ⟨rfl, hb1⟩; replace fa := fa.below hb1; replace hB := hB.trans (hb1.mono hB.size); clear hb1; rw [HV.out]; obtain ⟨a0, a1, al⟩ := id fa; go_wp2_with fail)
  clear a0 a1 al
  refine (size_any p _ (by omega) (by omega)).mono ?_; rintro e w1 ⟨rfl, rfl⟩
  go_wp2_with fail
  refine (rdigits_any p.natAbs _ (by omega)).mono ?_; rintro e w1 ⟨rfl, rfl⟩
  obtain ⟨DP, hDP⟩ : ∃ D, D = Lib.decDigits p.natAbs := ⟨_, rfl⟩
  obtain ⟨DQ, hDQ⟩ : ∃ D, D = Lib.decDigits q.toNat := ⟨_, rfl⟩
  rw [← hDP] at LP HT ⊢
  rw [← hDQ] at LQ
  have HDQ := Lib.hid hDQ
  clear hDP hDQ
  obtain ⟨a0, a1, al⟩ := id fa
  go_wp2_with fail
  go_ret2
  exact ⟨ret_saN (by rw [HT.out]; try rw [baN_one]), hB⟩

set_option maxRecDepth 100000 in
set_option maxHeartbeats 800000 in
theorem rtext_neg_two (p q : Int) (w : World) (hv : Nm.vld p q = true) (hp : p < 0) (hq : (q == 1) = false) :
    Calls Tryz.prog 82 #[.agg #[.int .i64 p, .int .i64 q]] w fun e w' => e = .returned (.tuple #[.string ⟨(txt p q).toArray⟩, .int .i64 0]) ∧ Below w.heap.size w w' := by
  obtain ⟨x1, x2, x3, x4⟩ := vld_bd hv
  have HV := Lib.hid hv
  have HT : Hid (txt p q = 45 :: (Lib.decDigits p.natAbs ++ 47 :: Lib.decDigits q.toNat)) := by
    show _ = _
    have hq' : ¬ q = 1 := by simpa using hq
    unfold txt Lib.itoa
    rw [if_neg hq', if_pos hp, if_neg (by omega)]
    try rfl
  have LP := dec_lenN p.natAbs (by omega)
  have LQ := dec_lenN q.toNat (by omega)
  have hqn : (q != 1) = true := by simp [bne, hq]
  clear hv
  (go_enter Tryz.func82, Tryz.ntmps82; go_wp2_with fail; have fa := numAt_new w p q 39; have hB := (Below.refl w.heap.size w).alloc (Nat.le_refl _) (.cells #[.int .i64 p, .int .i64 q] 39); generalize w.alloc (.cells #[.int .i64 p, .int .i64 q] 39) = W at fa hB ⊢)
  (refine (rvalid_any p q _ (by omega) (by omega) (by omega) (by omega)).mono ?_; rintro e w' ⟨rfl, hb1⟩; replace fa := fa.below hb1; replace hB := hB.trans (hb1.mono hB.size); clear hb1; rw [HV.out]; obtain ⟨a0, a1, al⟩ := id fa; go_wp2_with fail)
  clear a0 a1 al
  refine (size_any p _ (by omega) (by omega)).mono ?_; rintro e w1 ⟨rfl, rfl⟩
  go_wp2_with fail
  refine (rdigits_any p.natAbs _ (by omega)).mono ?_; rintro e w1 ⟨rfl, rfl⟩
  obtain ⟨DP, hDP⟩ : ∃ D, D = Lib.decDigits p.natAbs := ⟨_, rfl⟩
  obtain ⟨DQ, hDQ⟩ : ∃ D, D = Lib.decDigits q.toNat := ⟨_, rfl⟩
  rw [← hDP] at LP HT ⊢
  rw [← hDQ] at LQ HT
  have HDQ := Lib.hid hDQ
  clear hDP hDQ
  obtain ⟨a0, a1, al⟩ := id fa
  go_wp2_with fail
  refine (rdigits_int q _ (by omega) (by omega)).mono ?_; rintro e w1 ⟨rfl, rfl⟩
  rw [← HDQ.out]
  go_wp2_with fail
  go_ret2
  exact ⟨ret_saN (by rw [HT.out]; simp only [baN_app]; try rfl), hB⟩

set_option maxRecDepth 100000 in
set_option maxHeartbeats 800000 in
theorem rtext_pos_one (p q : Int) (w : World) (hv : Nm.vld p q = true) (hp : ¬ p < 0) (hq : (q == 1) = true) :
    Calls Tryz.prog 82 #[.agg #[.int .i64 p, .int .i64 q]] w fun e w' => e = .returned (.tuple #[.string ⟨(txt p q).toArray⟩, .int .i64 0]) ∧ Below w.heap.size w w' := by
  obtain ⟨x1, x2, x3, x4⟩ := vld_bd hv
  have HV := Lib.hid hv
  have HT : Hid (txt p q = (Lib.decDigits p.natAbs)) := by
    show _ = _
    have hq' : q = 1 := by simpa using hq
    unfold txt Lib.itoa
    rw [if_pos hq', if_neg hp]
    rw [show p.toNat = p.natAbs by omega]
  have LP := dec_lenN p.natAbs (by omega)
  have LQ := dec_lenN q.toNat (by omega)
  have hqn : (q != 1) = false := by simp [bne, hq]
  clear hv
  (go_enter Tryz.func82, Tryz.ntmps82; go_wp2_with fail; have fa := numAt_new w p q 39; have hB := (Below.refl w.heap.size w).alloc (Nat.le_refl _) (.cells #[.int .i64 p, .int .i64 q] 39); generalize w.alloc (.cells #[.int .i64 p, .int .i64 q] 39) = W at fa hB ⊢)
  (refine (rvalid_any p q _ (by omega) (by omega) (by omega) (by omega)).mono ?_; rintro e w' ⟨rfl, hb1⟩; replace fa := fa.below hb1; replace hB := hB.trans (hb1.mono hB.size); clear hb1; rw [HV.out]; obtain ⟨a0, a1, al⟩ := id fa; go_wp2_with fail)
  clear a0 a1 al
  refine (size_any p _ (by omega) (by omega)).mono ?_; rintro e w1 ⟨rfl, rfl⟩
  go_wp2_with fail
  refine (rdigits_any p.natAbs _ (by omega)).mono ?_; rintro e w1 ⟨rfl, rfl⟩
  obtain ⟨DP, hDP⟩ : ∃ D, D = Lib.decDigits p.natAbs := ⟨_, rfl⟩
  obtain ⟨DQ, hDQ⟩ : ∃ D, D = Lib.decDigits q.toNat := ⟨_, rfl⟩
  rw [← hDP] at LP HT ⊢
  rw [← hDQ] at LQ
  have HDQ := Lib.hid hDQ
  clear hDP hDQ
  obtain ⟨a0, a1, al⟩ := id fa
  go_wp2_with fail
  go_ret2
  exact ⟨ret_saN (by rw [HT.out]), hB⟩

set_option maxRecDepth 100000 in
set_option maxHeartbeats 800000 in
theorem rtext_pos_two (p q : Int) (w : World) (hv : Nm.vld p q = true) (hp : ¬ p < 0) (hq : (q == 1) = false) :
    Calls Tryz.prog 82 #[.agg #[.int .i64 p, .int .i64 q]] w fun e w' => e = .returned (.tuple #[.string ⟨(txt p q).toArray⟩, .int .i64 0]) ∧ Below w.heap.size w w' := by
  obtain ⟨x1, x2, x3, x4⟩ := vld_bd hv
  have HV := Lib.hid hv
  have HT : Hid (txt p q = (Lib.decDigits p.natAbs ++ 47 :: Lib.decDigits q.toNat)) := by
    show _ = _
    have hq' : ¬ q = 1 := by simpa using hq
    unfold txt Lib.itoa
    rw [if_neg hq', if_neg hp, if_neg (by omega)]
    rw [show p.toNat = p.natAbs by omega]
  have LP := dec_lenN p.natAbs (by omega)
  have LQ := dec_lenN q.toNat (by omega)
  have hqn : (q != 1) = true := by simp [bne, hq]
  clear hv
  (go_enter Tryz.func82, Tryz.ntmps82; go_wp2_with fail; have fa := numAt_new w p q 39; have hB := (Below.refl w.heap.size w).alloc (Nat.le_refl _) (.cells #[.int .i64 p, .int .i64 q] 39); generalize w.alloc (.cells #[.int .i64 p, .int .i64 q] 39) = W at fa hB ⊢)
  (refine (rvalid_any p q _ (by omega) (by omega) (by omega) (by omega)).mono ?_; rintro e w' ⟨rfl, hb1⟩; replace fa := fa.below hb1; replace hB := hB.trans (hb1.mono hB.size); clear hb1; rw [HV.out]; obtain ⟨a0, a1, al⟩ := id fa; go_wp2_with fail)
  clear a0 a1 al
  refine (size_any p _ (by omega) (by omega)).mono ?_; rintro e w1 ⟨rfl, rfl⟩
  go_wp2_with fail
  refine (rdigits_any p.natAbs _ (by omega)).mono ?_; rintro e w1 ⟨rfl, rfl⟩
  obtain ⟨DP, hDP⟩ : ∃ D, D = Lib.decDigits p.natAbs := ⟨_, rfl⟩
  obtain ⟨DQ, hDQ⟩ : ∃ D, D = Lib.decDigits q.toNat := ⟨_, rfl⟩
  rw [← hDP] at LP HT ⊢
  rw [← hDQ] at LQ HT
  have HDQ := Lib.hid hDQ
  clear hDP hDQ
  obtain ⟨a0, a1, al⟩ := id fa
  go_wp2_with fail
  refine (rdigits_int q _ (by omega) (by omega)).mono ?_; rintro e w1 ⟨rfl, rfl⟩
  rw [← HDQ.out]
  go_wp2_with fail
  go_ret2
  exact ⟨ret_saN (by rw [HT.out]; simp only [baN_app]; rfl), hB⟩

theorem rtext_ok (p q : Int) (w : World) (hv : Nm.vld p q = true) :
    Calls Tryz.prog 82 #[.agg #[.int .i64 p, .int .i64 q]] w fun e w' => e = .returned (.tuple #[.string ⟨(txt p q).toArray⟩, .int .i64 0]) ∧ Below w.heap.size w w' := by
  by_cases hp : p < 0
  · cases hq : (q == 1)
    · exact rtext_neg_two p q w hv hp hq
    · exact rtext_neg_one p q w hv hp hq
  · cases hq : (q == 1)
    · exact rtext_pos_two p q w hv hp hq
    · exact rtext_pos_one p q w hv hp hq
theorem rtext_any (p q : Int) (w : World) (h1 : -9223372036854775808 ≤ p) (h2 : p ≤ 9223372036854775807) (h3 : -9223372036854775808 ≤ q) (h4 : q ≤ 9223372036854775807) :
    Calls Tryz.prog 82 #[.agg #[.int .i64 p, .int .i64 q]] w fun e w' => e = .returned (txtV (Nm.vld p q) p q) ∧ Below w.heap.size w w' := by
  cases hv : Nm.vld p q
  · exact rtext_no p q w h1 h2 h3 h4 hv
  · exact rtext_ok p q w hv
end Go.Proofs.YtnhcjgnohnedaaaGreatDoor
