/-
  Contracts: digits (are all bytes decimal digits) of package num.
-/
-- LAW 01
import Derived.Test.YtcgiibjkonleeaaDoorText
import Derived.Lib.ConvBytes
import Derived.Test.YtcgiibjkonleeaaDoorDval
namespace Go.Proofs.YtcgiibjkonleeaaDoor
open Go.RowKit

theorem dig_no (l : List UInt8) (k : Nat) (hk : k < l.length) (h : ¬ (48 ≤ (l.getD k 0).toNat ∧ (l.getD k 0).toNat ≤ 57)) : dig l = false := by
  unfold dig
  rw [List.all_eq_false]
  refine ⟨l[k], List.getElem_mem hk, ?_⟩
  rw [getD_at l k hk] at h
  simp only [Bool.and_eq_true, decide_eq_true_eq]; exact h
theorem below_bytes (w : World) (e : TypeId) (s : ByteArray) : Below w.heap.size w (Lib.bytesWorld w e s) :=
  ⟨rfl, rfl, rfl, by rw [Lib.bytesWorld_size]; omega, fun k hk => Lib.bytesWorld_at_old w e s k hk⟩

set_option maxHeartbeats 400000 in
theorem digits_any (s : ByteArray) (w : World) (hs : s.size ≤ 30000) :
    Calls Tryd.prog 72 #[.string s] w fun e w' => e = .returned (.bool (dig s.data.toList)) ∧ Below w.heap.size w w' := by
  have hcv := Lib.run_convert_string_bytes (P := Tryd.prog) w 9 51 5 s (u := .string) Tryd.underlying9 Tryd.underlying51 Tryd.underlying5
  have hB : ∀ j, j < s.size → (Lib.bytesWorld w 5 s).cell? ⟨w.heap.size, j, none⟩ = some (.int .u8 (s.data.toList.getD j 0).toNat) := fun j hj => Lib.bytesWorld_cell w 5 s j hj
  have hW := Lib.hid (below_bytes w 5 s)
  obtain ⟨W1, hW1⟩ : ∃ W1, W1 = Lib.bytesWorld w 5 s := ⟨_, rfl⟩
  rw [← hW1] at hcv hB hW
  clear hW1
  obtain ⟨bs, hL⟩ : ∃ bs, bs = s.data.toList := ⟨_, rfl⟩
  have hLn : bs.length = s.size := by rw [hL, Lib.size_eq]
  rw [← hL] at hB ⊢
  clear hL
  have HL := Lib.hid hLn
  clear hLn
  go_enter Tryd.func72, Tryd.ntmps72
  go_wp2
  clear hcv
  go_loop [8] (fun vi => ∃ k : Nat, vi = .int .i64 k ∧ k ≤ s.size ∧ Hid (dig (bs.take k) = true)) (fun vi => s.size - (intOf vi).toNat)
  case atStart => exact ⟨0, rfl, by omega, rfl⟩
  case round =>
    obtain ⟨k, rfl, hk, hd⟩ := hrel
    by_cases hkn : k < s.size
    · have hc := hB k hkn
      have hgt : bs.take (k + 1) = bs.take k ++ [bs.getD k 0] := by
        rw [List.take_succ_eq_append_getElem (by rw [HL.out]; exact hkn), getD_at _ _ (by rw [HL.out]; exact hkn)]
      have HD : Hid ((48 ≤ (bs.getD k 0).toNat ∧ (bs.getD k 0).toNat ≤ 57 → dig (bs.take (k + 1)) = true) ∧ (¬ (48 ≤ (bs.getD k 0).toNat ∧ (bs.getD k 0).toNat ≤ 57) → dig bs = false)) :=
        ⟨fun h => by rw [hgt, dig_snoc, hd.out, decide_eq_true h.1, decide_eq_true h.2]; rfl, fun h => dig_no bs k (by rw [HL.out]; exact hkn) h⟩
      clear hgt hB
      generalize bs.getD k 0 = c at hc HD
      have hc256 : c.toNat < 256 := c.toNat_lt
      by_cases h1 : c.toNat < 48
      · go_wp2
        go_ret
        exact ⟨ret_bool (HD.out.2 (by omega)).symm, hW.out⟩
      by_cases h2 : 57 < c.toNat
      · go_wp2
        go_ret
        exact ⟨ret_bool (HD.out.2 (by omega)).symm, hW.out⟩
      · go_wp2
        refine ⟨⟨k + 1, by go_num, by omega, HD.out.1 ⟨by omega, by omega⟩⟩, by simp [intOf]; omega⟩
    · clear hB
      go_wp2
      go_ret
      exact ⟨ret_bool (by rw [← hd.out, List.take_of_length_le (by rw [HL.out]; omega)]), hW.out⟩
end Go.Proofs.YtcgiibjkonleeaaDoor
