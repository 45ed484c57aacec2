/-
  Contracts: Decimal of package num, all strings.
-/
import Derived.Test.YtmfbnlaohlnljaaGreatDoorDec2
namespace Go.Proofs.YtmfbnlaohlnljaaGreatDoor
open Go.RowKit


set_option maxRecDepth 100000 in
set_option maxHeartbeats 1000000 in
theorem decimal_G1 (s : ByteArray) (w : World) (he : Env w) (hs : s.size ≤ 30000) (wh pt : List UInt8) (h : Lib.cut s.data.toList [46] = (wh, pt, true)) (h1 : wh.length ≤ 9) (h2 : pt.length ≤ 5) (h3 : dig wh = true) (h4 : dig pt = true) (hpt : pt ≠ []) :
    Calls Tryz.prog 126 #[.string s] w fun e w' => e = .returned (numV (Nm.mkP (dval (wh ++ pt)) ((10 ^ pt.length : Nat) : Int)) (Nm.mkQ (dval (wh ++ pt)) ((10 ^ pt.length : Nat) : Int)) (Nm.mkE (dval (wh ++ pt)) ((10 ^ pt.length : Nat) : Int))) ∧ Below w.heap.size w w' := by
  have HE := Lib.hid he
  have HC := Lib.hid h
  have H3 := Lib.hid h3
  have H4 := Lib.hid h4
  have hemp : (⟨pt.toArray⟩ : ByteArray).toList.isEmpty = false := by rw [Lib.toList_data]; simpa using hpt
  have hemp2 : pt.isEmpty = false := by simpa using hpt
  clear he h h3 h4 hpt
  go_enter Tryz.func126, Tryz.ntmps126
  go_wp2_with fail
  refine (cut_any s ⟨#[46]⟩ _ (by exact HE.out.below (by repeat (first | exact Below.refl _ _ | refine Below.setCell ?_ (by first | (simp; done) | (simp; omega) | omega) _ | refine below_drewN ?_ _ | refine Below.alloc ?_ (by first | (simp; done) | (simp; omega) | omega) _ | refine Below.trans ?_ (hb.mono (by first | (simp; done) | (simp; omega) | omega))))) hs wh pt true HC.out).mono ?_; rintro e w' ⟨rfl, n, rfl⟩
  go_wp2_with fail
  refine (digits_of wh _ true (by omega) H3.out).mono ?_; rintro e w' ⟨rfl, hb⟩; obtain ⟨hc, hf⟩ := bcell hb; have hsz := hb.size; simp at hsz
  go_wp2_with fail
  refine (digits_of pt _ true (by omega) H4.out).mono ?_; rintro e w'' ⟨rfl, hb2⟩; replace hb := hb.trans (hb2.mono hb.size); clear hb2 hc hf hsz; obtain ⟨hc, hf⟩ := bcell hb; have hsz := hb.size; simp at hsz
  have hcv := Lib.run_convert_string_bytes (P := Tryz.prog) w'' 9 82 5 (⟨wh.toArray⟩ ++ ⟨pt.toArray⟩) (u := .string) Tryz.underlying9 Tryz.underlying82 Tryz.underlying5
  obtain ⟨bs, hbs⟩ : ∃ bs, bs = wh ++ pt := ⟨_, rfl⟩
  have hbn : bs.length = wh.length + pt.length := by rw [hbs, List.length_append]
  have hB : ∀ j, j < wh.length + pt.length → (Lib.bytesWorld w'' 5 (⟨wh.toArray⟩ ++ ⟨pt.toArray⟩)).cell? ⟨w''.heap.size, j, none⟩ = some (.int .u8 (bs.getD j 0).toNat) := fun j hj => by
    have := Lib.bytesWorld_cell w'' 5 (⟨wh.toArray⟩ ++ ⟨pt.toArray⟩) j (by rw [ba_app, Lib.size_eq]; simpa using hj)
    rw [this, ba_app, hbs]
  have hW := below_bytes w'' 5 (⟨wh.toArray⟩ ++ ⟨pt.toArray⟩)
  have hsn : (⟨wh.toArray⟩ ++ ⟨pt.toArray⟩ : ByteArray).size = wh.length + pt.length := by rw [ba_app, Lib.size_eq]; simp
  generalize Lib.bytesWorld w'' 5 (⟨wh.toArray⟩ ++ ⟨pt.toArray⟩) = W1 at hcv hB hW
  rw [hsn] at hcv
  have HBD : Hid (dig bs = true ∧ bs.length = wh.length + pt.length ∧ bs = wh ++ pt) := ⟨by rw [hbs, dig_append, H3.out, H4.out]; rfl, hbn, hbs⟩
  replace hb := hb.trans (hW.mono hb.size)
  have hW1 := hW.size
  clear hc hf hsn hbn hbs hW
  obtain ⟨hc, hf⟩ := bcell hb
  go_wp2_with fail
  clear hcv
  go_loop [7, 55] (fun vp vi => ∃ (k : Nat) (p : Int), vp = .int .i64 p ∧ vi = .int .i64 k ∧ k ≤ wh.length + pt.length ∧ Hid (p = (dval (bs.take k) : Int)) ∧ 0 ≤ p ∧ p < 100000000000000) (fun _ vi => (wh.length + pt.length) - (intOf vi).toNat)
  case atStart => exact ⟨0, 0, rfl, rfl, by omega, rfl, by omega, by omega⟩
  case round =>
    obtain ⟨k, p, rfl, rfl, hk, hp, p0, p1⟩ := hrel
    by_cases hkn : k < wh.length + pt.length
    · have hcell := hB k hkn
      have hlen : k < bs.length := by rw [HBD.out.2.1]; exact hkn
      obtain ⟨d0, d1⟩ := dig_at bs k hlen HBD.out.1
      have hnx : dval (bs.take (k + 1)) < 100000000000000 := dval_lt14 _ (dig_take _ _ HBD.out.1) (by rw [List.length_take]; omega)
      have HN : Hid (dval (bs.take (k + 1)) = 10 * dval (bs.take k) + ((bs.getD k 0).toNat - 48) ∧ dval (bs.take (k + 1)) < 100000000000000) := ⟨by rw [take_at bs k hlen, dval_snoc], hnx⟩
      clear hB hnx hlen
      generalize bs.getD k 0 = c at hcell d0 d1 HN
      have hc256 : c.toNat < 256 := c.toNat_lt
      go_wp2_with fail
      refine ⟨⟨k + 1, 10 * p + ((c.toNat : Int) - 48), by first | rfl | go_num, by go_num, by omega, ?_, by omega, ?_⟩, by simp [intOf]; omega⟩
      · have := HN.out.1
        have := hp.out
        exact (show 10 * p + ((c.toNat : Int) - 48) = (dval (bs.take (k + 1)) : Int) by omega)
      · have := HN.out
        have := hp.out
        omega
    · have hfin : p = (dval bs : Int) := by rw [hp.out, List.take_of_length_le (by rw [HBD.out.2.1]; omega)]
      have HP := Lib.hid hfin
      clear hfin hB hp
      go_wp2_with fail
      go_loop [8, 68] (fun vq vi => ∃ (k : Nat) (q : Int), vq = .int .i64 q ∧ vi = .int .i64 k ∧ k ≤ pt.length ∧ Hid (q = ((10 ^ k : Nat) : Int)) ∧ 1 ≤ q ∧ q ≤ 100000) (fun _ vi => pt.length - (intOf vi).toNat)
      case atStart => exact ⟨0, 1, rfl, rfl, by omega, rfl, by omega, by omega⟩
      case round =>
        obtain ⟨k, q, rfl, rfl, hk, hq, q0, q1⟩ := hrel
        by_cases hkn : k < pt.length
        · have hnx := pow5 (k + 1) (by omega)
          have HN := Lib.hid hnx
          clear hnx
          go_wp2_with fail
          refine ⟨⟨k + 1, q * 10, by first | rfl | go_num, by go_num, by omega, ?_, by omega, ?_⟩, by simp [intOf]; omega⟩
          · have := hq.out
            exact (show q * 10 = ((10 ^ (k + 1) : Nat) : Int) by rw [this, Nat.pow_succ]; simp)
          · have h5 := HN.out.2
            have := hq.out
            have e : q * 10 = ((10 ^ (k + 1) : Nat) : Int) := by rw [this, Nat.pow_succ]; simp
            omega
        · have hfin : q = ((10 ^ pt.length : Nat) : Int) := by rw [hq.out, show k = pt.length by omega]
          have HQ := Lib.hid hfin
          clear hfin hq
          go_wp2_with fail
          refine (make_any p q _ (by omega) (by omega) (by omega) (by omega)).mono ?_; rintro e w3 ⟨rfl, hb3⟩; replace hb3 := hb.trans (hb3.mono hb.size); clear hc hf; obtain ⟨hc, hf⟩ := bcell hb3; have hsz3 := hb3.size; simp at hsz3; simp only [numV]
          go_wp2_with fail
          exact bodyPost_ret (v := numV (Nm.mkP p q) (Nm.mkQ p q) (Nm.mkE p q)) (by simp [results, Tryz.results126, go_sem, numV, hc]) rfl ⟨by rw [HP.out, HQ.out, HBD.out.2.2], (by repeat (first | exact Below.refl _ _ | refine Below.setCell ?_ (by first | (simp; done) | (simp; omega) | omega) _ | refine below_drewN ?_ _ | refine Below.alloc ?_ (by first | (simp; done) | (simp; omega) | omega) _ | refine Below.trans ?_ (hb3.mono (by first | (simp; done) | (simp; omega) | omega)) | refine Below.trans ?_ (hb.mono (by first | (simp; done) | (simp; omega) | omega))))⟩

set_option maxRecDepth 100000 in
set_option maxHeartbeats 1000000 in
theorem decimal_G2 (s : ByteArray) (w : World) (he : Env w) (hs : s.size ≤ 30000) (wh pt : List UInt8) (h : Lib.cut s.data.toList [46] = (wh, pt, false)) (h1 : wh.length ≤ 9) (h2 : pt.length ≤ 5) (h3 : dig wh = true) (h4 : dig pt = true) (hwh : wh ≠ []) :
    Calls Tryz.prog 126 #[.string s] w fun e w' => e = .returned (numV (Nm.mkP (dval (wh ++ pt)) ((10 ^ pt.length : Nat) : Int)) (Nm.mkQ (dval (wh ++ pt)) ((10 ^ pt.length : Nat) : Int)) (Nm.mkE (dval (wh ++ pt)) ((10 ^ pt.length : Nat) : Int))) ∧ Below w.heap.size w w' := by
  have HE := Lib.hid he
  have HC := Lib.hid h
  have H3 := Lib.hid h3
  have H4 := Lib.hid h4
  have hemp : (⟨wh.toArray⟩ : ByteArray).toList.isEmpty = false := by rw [Lib.toList_data]; simpa using hwh
  have hemp2 : wh.isEmpty = false := by simpa using hwh
  clear he h h3 h4 hwh
  go_enter Tryz.func126, Tryz.ntmps126
  go_wp2_with fail
  refine (cut_any s ⟨#[46]⟩ _ (by exact HE.out.below (by repeat (first | exact Below.refl _ _ | refine Below.setCell ?_ (by first | (simp; done) | (simp; omega) | omega) _ | refine below_drewN ?_ _ | refine Below.alloc ?_ (by first | (simp; done) | (simp; omega) | omega) _ | refine Below.trans ?_ (hb.mono (by first | (simp; done) | (simp; omega) | omega))))) hs wh pt false HC.out).mono ?_; rintro e w' ⟨rfl, n, rfl⟩
  go_wp2_with fail
  refine (digits_of wh _ true (by omega) H3.out).mono ?_; rintro e w' ⟨rfl, hb⟩; obtain ⟨hc, hf⟩ := bcell hb; have hsz := hb.size; simp at hsz
  go_wp2_with fail
  refine (digits_of pt _ true (by omega) H4.out).mono ?_; rintro e w'' ⟨rfl, hb2⟩; replace hb := hb.trans (hb2.mono hb.size); clear hb2 hc hf hsz; obtain ⟨hc, hf⟩ := bcell hb; have hsz := hb.size; simp at hsz
  have hcv := Lib.run_convert_string_bytes (P := Tryz.prog) w'' 9 82 5 (⟨wh.toArray⟩ ++ ⟨pt.toArray⟩) (u := .string) Tryz.underlying9 Tryz.underlying82 Tryz.underlying5
  obtain ⟨bs, hbs⟩ : ∃ bs, bs = wh ++ pt := ⟨_, rfl⟩
  have hbn : bs.length = wh.length + pt.length := by rw [hbs, List.length_append]
  have hB : ∀ j, j < wh.length + pt.length → (Lib.bytesWorld w'' 5 (⟨wh.toArray⟩ ++ ⟨pt.toArray⟩)).cell? ⟨w''.heap.size, j, none⟩ = some (.int .u8 (bs.getD j 0).toNat) := fun j hj => by
    have := Lib.bytesWorld_cell w'' 5 (⟨wh.toArray⟩ ++ ⟨pt.toArray⟩) j (by rw [ba_app, Lib.size_eq]; simpa using hj)
    rw [this, ba_app, hbs]
  have hW := below_bytes w'' 5 (⟨wh.toArray⟩ ++ ⟨pt.toArray⟩)
  have hsn : (⟨wh.toArray⟩ ++ ⟨pt.toArray⟩ : ByteArray).size = wh.length + pt.length := by rw [ba_app, Lib.size_eq]; simp
  generalize Lib.bytesWorld w'' 5 (⟨wh.toArray⟩ ++ ⟨pt.toArray⟩) = W1 at hcv hB hW
  rw [hsn] at hcv
  have HBD : Hid (dig bs = true ∧ bs.length = wh.length + pt.length ∧ bs = wh ++ pt) := ⟨by rw [hbs, dig_append, H3.out, H4.out]; rfl, hbn, hbs⟩
  replace hb := hb.trans (hW.mono hb.size)
  have hW1 := hW.size
  clear hc hf hsn hbn hbs hW
  obtain ⟨hc, hf⟩ := bcell hb
  go_wp2_with fail
  clear hcv
  go_loop [7, 55] (fun vp vi => ∃ (k : Nat) (p : Int), vp = .int .i64 p ∧ vi = .int .i64 k ∧ k ≤ wh.length + pt.length ∧ Hid (p = (dval (bs.take k) : Int)) ∧ 0 ≤ p ∧ p < 100000000000000) (fun _ vi => (wh.length + pt.length) - (intOf vi).toNat)
  case atStart => exact ⟨0, 0, rfl, rfl, by omega, rfl, by omega, by omega⟩
  case round =>
    obtain ⟨k, p, rfl, rfl, hk, hp, p0, p1⟩ := hrel
    by_cases hkn : k < wh.length + pt.length
    · have hcell := hB k hkn
      have hlen : k < bs.length := by rw [HBD.out.2.1]; exact hkn
      obtain ⟨d0, d1⟩ := dig_at bs k hlen HBD.out.1
      have hnx : dval (bs.take (k + 1)) < 100000000000000 := dval_lt14 _ (dig_take _ _ HBD.out.1) (by rw [List.length_take]; omega)
      have HN : Hid (dval (bs.take (k + 1)) = 10 * dval (bs.take k) + ((bs.getD k 0).toNat - 48) ∧ dval (bs.take (k + 1)) < 100000000000000) := ⟨by rw [take_at bs k hlen, dval_snoc], hnx⟩
      clear hB hnx hlen
      generalize bs.getD k 0 = c at hcell d0 d1 HN
      have hc256 : c.toNat < 256 := c.toNat_lt
      go_wp2_with fail
      refine ⟨⟨k + 1, 10 * p + ((c.toNat : Int) - 48), by first | rfl | go_num, by go_num, by omega, ?_, by omega, ?_⟩, by simp [intOf]; omega⟩
      · have := HN.out.1
        have := hp.out
        exact (show 10 * p + ((c.toNat : Int) - 48) = (dval (bs.take (k + 1)) : Int) by omega)
      · have := HN.out
        have := hp.out
        omega
    · have hfin : p = (dval bs : Int) := by rw [hp.out, List.take_of_length_le (by rw [HBD.out.2.1]; omega)]
      have HP := Lib.hid hfin
      clear hfin hB hp
      go_wp2_with fail
      go_loop [8, 68] (fun vq vi => ∃ (k : Nat) (q : Int), vq = .int .i64 q ∧ vi = .int .i64 k ∧ k ≤ pt.length ∧ Hid (q = ((10 ^ k : Nat) : Int)) ∧ 1 ≤ q ∧ q ≤ 100000) (fun _ vi => pt.length - (intOf vi).toNat)
      case atStart => exact ⟨0, 1, rfl, rfl, by omega, rfl, by omega, by omega⟩
      case round =>
        obtain ⟨k, q, rfl, rfl, hk, hq, q0, q1⟩ := hrel
        by_cases hkn : k < pt.length
        · have hnx := pow5 (k + 1) (by omega)
          have HN := Lib.hid hnx
          clear hnx
          go_wp2_with fail
          refine ⟨⟨k + 1, q * 10, by first | rfl | go_num, by go_num, by omega, ?_, by omega, ?_⟩, by simp [intOf]; omega⟩
          · have := hq.out
            exact (show q * 10 = ((10 ^ (k + 1) : Nat) : Int) by rw [this, Nat.pow_succ]; simp)
          · have h5 := HN.out.2
            have := hq.out
            have e : q * 10 = ((10 ^ (k + 1) : Nat) : Int) := by rw [this, Nat.pow_succ]; simp
            omega
        · have hfin : q = ((10 ^ pt.length : Nat) : Int) := by rw [hq.out, show k = pt.length by omega]
          have HQ := Lib.hid hfin
          clear hfin hq
          go_wp2_with fail
          refine (make_any p q _ (by omega) (by omega) (by omega) (by omega)).mono ?_; rintro e w3 ⟨rfl, hb3⟩; replace hb3 := hb.trans (hb3.mono hb.size); clear hc hf; obtain ⟨hc, hf⟩ := bcell hb3; have hsz3 := hb3.size; simp at hsz3; simp only [numV]
          go_wp2_with fail
          exact bodyPost_ret (v := numV (Nm.mkP p q) (Nm.mkQ p q) (Nm.mkE p q)) (by simp [results, Tryz.results126, go_sem, numV, hc]) rfl ⟨by rw [HP.out, HQ.out, HBD.out.2.2], (by repeat (first | exact Below.refl _ _ | refine Below.setCell ?_ (by first | (simp; done) | (simp; omega) | omega) _ | refine below_drewN ?_ _ | refine Below.alloc ?_ (by first | (simp; done) | (simp; omega) | omega) _ | refine Below.trans ?_ (hb3.mono (by first | (simp; done) | (simp; omega) | omega)) | refine Below.trans ?_ (hb.mono (by first | (simp; done) | (simp; omega) | omega))))⟩

/-- What makes a string no decimal. -/
def decBad (wh pt : List UInt8) (pd : Bool) : Bool := decide (9 < wh.length) || decide (5 < pt.length) || !dig wh || !dig pt || (pd && pt.isEmpty) || (!pd && wh.isEmpty)
/-- What Decimal returns, of the parts before and behind the point. -/
def decV3 (wh pt : List UInt8) (pd : Bool) : Value :=
  if decBad wh pt pd = true then numV 0 0 30 else numV (Nm.mkP (dval (wh ++ pt)) ((10 ^ pt.length : Nat) : Int)) (Nm.mkQ (dval (wh ++ pt)) ((10 ^ pt.length : Nat) : Int)) (Nm.mkE (dval (wh ++ pt)) ((10 ^ pt.length : Nat) : Int))
/-- What Decimal returns. -/
def decV (s : List UInt8) : Value := decV3 (Lib.cut s [46]).1 (Lib.cut s [46]).2.1 (Lib.cut s [46]).2.2
theorem decV_of {s wh pt : List UInt8} {pd : Bool} (h : Lib.cut s [46] = (wh, pt, pd)) : decV s = decV3 wh pt pd := by unfold decV; rw [h]
theorem decV3_bad {wh pt : List UInt8} {pd : Bool} (h : decBad wh pt pd = true) : decV3 wh pt pd = numV 0 0 30 := by simp [decV3, h]
theorem decimal_any (s : ByteArray) (w : World) (he : Env w) (hs : s.size ≤ 30000) :
    Calls Tryz.prog 126 #[.string s] w fun e w' => e = .returned (decV s.data.toList) ∧ Below w.heap.size w w' := by
  obtain ⟨⟨wh, pt, pd⟩, h⟩ : ∃ x, Lib.cut s.data.toList [46] = x := ⟨_, rfl⟩
  rw [decV_of h]
  by_cases h1 : 9 < wh.length
  · rw [decV3_bad (by simp [decBad, h1])]
    exact decimal_A s w he hs wh pt pd h h1
  by_cases h2 : 5 < pt.length
  · rw [decV3_bad (by simp [decBad, h2])]
    exact decimal_B s w he hs wh pt pd h (by omega) h2
  cases h3 : dig wh
  · rw [decV3_bad (by simp [decBad, h3])]
    exact decimal_C s w he hs wh pt pd h (by omega) (by omega) h3
  cases h4 : dig pt
  · rw [decV3_bad (by simp [decBad, h4])]
    exact decimal_D s w he hs wh pt pd h (by omega) (by omega) h3 h4
  cases pd
  · by_cases h5 : wh = []
    · subst h5
      rw [decV3_bad (by simp [decBad])]
      exact decimal_F s w he hs pt h (by omega) h4
    · have hb : decBad wh pt false = false := by simp [decBad, h1, h2, h3, h4, h5]
      simp only [decV3, hb]
      exact decimal_G2 s w he hs wh pt h (by omega) (by omega) h3 h4 h5
  · by_cases h5 : pt = []
    · subst h5
      rw [decV3_bad (by simp [decBad])]
      exact decimal_E s w he hs wh h (by omega) h3
    · have hb : decBad wh pt true = false := by simp [decBad, h1, h2, h3, h4, h5]
      simp only [decV3, hb]
      exact decimal_G1 s w he hs wh pt h (by omega) (by omega) h3 h4 h5
end Go.Proofs.YtmfbnlaohlnljaaGreatDoor
