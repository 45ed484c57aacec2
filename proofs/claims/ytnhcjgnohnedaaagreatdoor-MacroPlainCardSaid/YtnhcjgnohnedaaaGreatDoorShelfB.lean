/-
  Contracts of package lex: tokens as they are written.
  Contracts of strings.Builder laid at this dump, by the library's theorems.
-/
import Derived.Test.YtnhcjgnohnedaaaGreatDoorLxP
import Derived.Lib.ItoaLen
import Derived.Lib.ItoaMem
import Derived.Shelf.Strings.BuilderK
import Derived.Test.YtnhcjgnohnedaaaGreatDoorProg
namespace Go.Proofs.YtnhcjgnohnedaaaGreatDoor
open Go.RowKit

namespace Lx
/-- A number in decimals, as it is written. -/
def spellN (p q : Int) : List UInt8 := Lib.itoa (p / q) ++ (if p % q = 0 then [] else 46 :: Lib.trimRightB ((Lib.itoa (100000 + p % q * (100000 / q))).drop 1) 48)
/-- A token as it is written. -/
def spell (k : Int) (t : List UInt8) (p q : Int) : List UInt8 := if k = 2 then spellN p q else if k = 3 then 34 :: (t ++ [34]) else t
end Lx

theorem trimR_any (s : ByteArray) (w : World) (hs : s.size ≤ 9223372036854775807) :
    Calls Tryz.prog 153 #[.string s, .string ⟨#[48]⟩] w fun e w' => e = .returned (.string ⟨(Lib.trimRightB s.data.toList 48).toArray⟩) ∧ w = w' :=
  (Tryz.strings_TrimRight_one s 48 (by decide) w hs).mono fun _ _ ⟨h1, h2⟩ => ⟨h1, h2.symm⟩
theorem trimR_le (l : List UInt8) (c : UInt8) : (Lib.trimRightB l c).length ≤ l.length := by
  unfold Lib.trimRightB
  rw [List.length_reverse]
  exact Nat.le_trans (List.dropWhile_sublist _).length_le (by simp)
theorem rest_bd {p q : Int} (_h : 0 ≤ p) (hq : 1 ≤ q) (hq2 : q ≤ 100000) : 0 ≤ p % q * (100000 / q) ∧ p % q * (100000 / q) < 100000 ∧ 0 ≤ 100000 / q ∧ 0 ≤ p % q ∧ p % q < q := by
  have h1 := Int.emod_nonneg p (show q ≠ 0 by omega)
  have h2 := Int.emod_lt_of_pos p (show 0 < q by omega)
  have h3 : 0 ≤ 100000 / q := Int.ediv_nonneg (by omega) (by omega)
  have h3' : 1 ≤ 100000 / q := by have := Int.ediv_le_ediv (a := q) (b := 100000) (c := q) (by omega) hq2; rwa [Int.ediv_self (by omega)] at this
  have h4 : p % q * (100000 / q) ≤ (q - 1) * (100000 / q) := Int.mul_le_mul_of_nonneg_right (by omega) h3
  have h5 : q * (100000 / q) ≤ 100000 := Int.mul_ediv_self_le (by omega)
  have h6 : (q - 1) * (100000 / q) = q * (100000 / q) - 100000 / q := by rw [Int.sub_mul]; omega
  exact ⟨Int.mul_nonneg h1 h3, by omega, h3, h1, h2⟩
theorem decB_parts {p q : Int} (h : Lx.decB p q = true) : Nm.vld p q = true ∧ 0 ≤ p ∧ p / q < 1000000000 ∧ 100000 % q = 0 := by
  unfold Lx.decB at h; simp only [Bool.and_eq_true, decide_eq_true_eq] at h; exact ⟨h.1, h.2.1, h.2.2.1, h.2.2.2⟩
theorem div_le {q : Int} (_hq : 1 ≤ q) (h : 100000 % q = 0) : q ≤ 100000 := Int.le_of_dvd (by omega) (Int.dvd_of_emod_eq_zero h)

set_option maxHeartbeats 4000000 in
theorem decimals_any (p q : Int) (w : World) (he : EnvL w) (hd : Lx.decB p q = true) :
    Calls Tryz.prog 150 #[.agg #[.int .i64 p, .int .i64 q]] w fun e w' => e = .returned (.string ⟨(Lx.spellN p q).toArray⟩) ∧ Below w.heap.size w w' := by
  obtain ⟨hv, p0, hpq, hdv⟩ := decB_parts hd
  obtain ⟨q1, q2, -, p2⟩ := vld_pos hv
  have q3 := div_le q1 hdv
  obtain ⟨r0, r1, d0, m0, m1⟩ := rest_bd p0 q1 q3
  have hpq0 : 0 ≤ p / q := Int.ediv_nonneg p0 (by omega)
  obtain ⟨S, hS⟩ : ∃ S, S = Lx.spellN p q := ⟨_, rfl⟩
  rw [← hS]
  unfold Lx.spellN at hS
  generalize hW : p / q = W0 at *
  generalize hM : p % q = M at *
  generalize hD : 100000 / q = D at *
  generalize hR : M * D = R at *
  have HE := Lib.hid he
  have l1 := Lib.itoa_length_le W0 (by omega) (by omega)
  have l2 := Lib.itoa_length_le (100000 + R) (by omega) (by omega)
  have HS := Lib.hid hS
  clear hd hv hdv he hS
  by_cases hm : M = 0
  · have e1 : (M == 0) = true := by simpa using hm
    have e2 : (M != 0) = false := by simpa using hm
    have HM := Lib.hid hm
    clear hm hR hD
    go_enter Tryz.func150, Tryz.ntmps150
    go_wp2_with fail
    refine (fmt_any W0 _ (by omega) (by omega) (by exact (HE.out.below ((Below.refl _ _).alloc (Nat.le_refl _) _)).toEnv)).mono ?_; rintro e w1 ⟨rfl, hb⟩
    have h2 := (hb.block w.heap.size (by simp)).trans (heap_alloc_new w _)
    have BB := Lib.hid (((Below.refl w.heap.size w).alloc (Nat.le_refl _) (.cells #[.int .i64 p, .int .i64 q] 39)).trans (hb.mono (by simp)))
    obtain ⟨⟨z0, z1⟩, hlt⟩ := blk2 h2
    clear hb h2
    go_wp2_with fail
    go_ret
    exact ⟨by rw [HS.out, if_pos HM.out, List.append_nil]; rfl, BB.out⟩
  · have e1 : (M == 0) = false := by simpa using hm
    have e2 : (M != 0) = true := by simpa using hm
    have HM := Lib.hid hm
    clear hm
    obtain ⟨d6, hd6⟩ : ∃ d6, d6 = Lib.itoa (100000 + R) := ⟨_, rfl⟩
    have hne : d6 ≠ [] := by
      rw [hd6, show (100000 + R : Int) = ((100000 + R).toNat : Int) by omega, Lib.itoa_nonneg]
      exact (dec_dig _).2.2
    have hd1 : 1 ≤ d6.length := List.length_pos_iff.2 hne
    have FM : Hid (∀ W, EnvL W → Calls Tryz.prog 152 #[.int .i64 (100000 + R), .int .i64 10] W fun e w' => e = .returned (.string ⟨d6.toArray⟩) ∧ Below W.heap.size W w') := by
      rw [hd6]; exact fun W hW => fmt_any _ W (by omega) (by omega) hW.toEnv
    rw [← hd6] at l2
    obtain ⟨x, hx⟩ : ∃ x : ByteArray, x = ⟨d6.toArray⟩ := ⟨_, rfl⟩
    have hxz : x.size = d6.length := by rw [hx]; rfl
    have HX : Hid (x.extract 1 x.size = ⟨(d6.drop 1).toArray⟩) := by rw [hxz, hx]; exact ext_tail d6 1
    have hx1 : 1 ≤ x.size := by omega
    have hx2 : x.size ≤ 21 := by omega
    rw [← hx] at FM
    have htr := trimR_le (d6.drop 1) 48
    have HD6 := Lib.hid hd6
    have l3 : (Lib.trimRightB (d6.drop 1) 48).length ≤ 21 := by rw [List.length_drop] at htr; omega
    have HT := Lib.hid (fun W => trimR_any ⟨(d6.drop 1).toArray⟩ W (by rw [ba_size, List.length_drop]; omega))
    simp only at HT
    clear hd6 hne hx hxz htr l2 hd1
    obtain ⟨tr, htr⟩ : ∃ tr, tr = Lib.trimRightB (d6.drop 1) 48 := ⟨_, rfl⟩
    have HTR := Lib.hid htr
    rw [← htr] at HT l3
    clear htr
    have hss : S = Lib.itoa W0 ++ 46 :: tr := by rw [HS.out, if_neg HM.out, ← HD6.out, HTR.out]
    have HSS := Lib.hid hss
    clear hss
    clear HS HD6 HTR
    go_enter Tryz.func150, Tryz.ntmps150
    go_wp2_with fail
    refine (fmt_any W0 _ (by omega) (by omega) (by exact (HE.out.below ((Below.refl _ _).alloc (Nat.le_refl _) _)).toEnv)).mono ?_; rintro e w1 ⟨rfl, hb⟩
    have h2 := (hb.block w.heap.size (by simp)).trans (heap_alloc_new w _)
    have BB := Lib.hid (((Below.refl w.heap.size w).alloc (Nat.le_refl _) (.cells #[.int .i64 p, .int .i64 q] 39)).trans (hb.mono (by simp)))
    obtain ⟨⟨z0, z1⟩, hlt⟩ := blk2 h2
    clear hb h2
    go_wp2_with fail
    refine (FM.out _ (HE.out.below BB.out)).mono ?_; rintro e w2 ⟨rfl, hb⟩
    have B2 := Lib.hid (BB.out.trans (hb.mono BB.out.size))
    clear hb z0 z1
    go_wp2_with fail
    rw [HX.out]
    refine (HT.out _).mono ?_; rintro e w3 ⟨rfl, rfl⟩
    go_wp2_with fail
    go_ret
    exact ⟨by rw [HSS.out]; simp [ba_app], B2.out⟩

set_option maxHeartbeats 2000000 in
theorem spelled_any (k p q a c : Int) (t : ByteArray) (w : World) (he : EnvL w) (ht : t.size ≤ 1000) (hd : k = 2 → Lx.decB p q = true) :
    Calls Tryz.prog 143 #[.agg #[.int .i64 k, .string t, .int .i64 p, .int .i64 q, .int .i64 a, .int .i64 c]] w fun e w' => e = .returned (.string ⟨(Lx.spell k t.data.toList p q).toArray⟩) ∧ Below w.heap.size w w' := by
  have HE := Lib.hid he
  by_cases k2 : k = 2
  · have hdd := hd k2
    have HD := Lib.hid (fun W (hW : EnvL W) => decimals_any p q W hW hdd)
    subst k2
    rw [Lx.spell, if_pos rfl]
    generalize Lx.spellN p q = S at *
    clear hd hdd he
    go_enter Tryz.func143, Tryz.ntmps143
    go_wp2_with fail
    refine (HD.out _ (by exact HE.out.below ((Below.refl _ _).alloc (Nat.le_refl _) _))).mono ?_; rintro e w1 ⟨rfl, hb⟩
    have BB := Lib.hid (((Below.refl w.heap.size w).alloc (Nat.le_refl _) _).trans (hb.mono (by simp)))
    clear hb
    go_wp2_with fail
    go_ret
    exact ⟨rfl, BB.out⟩
  · have e2 : (k == 2) = false := by simpa using k2
    by_cases k3 : k = 3
    · subst k3
      have hsp : Lx.spell 3 t.data.toList p q = 34 :: (t.data.toList ++ [34]) := by simp [Lx.spell]
      rw [hsp]
      have H1 : Hid ((⟨#[34]⟩ : ByteArray) ++ t ++ ⟨#[34]⟩ = ⟨(34 :: (t.data.toList ++ [34])).toArray⟩) := by apply ByteArray.ext; simp
      have HH : Hid (∀ x : ByteArray, x = ⟨(34 :: (t.data.toList ++ [34])).toArray⟩ → Ending.returned (.string x) = .returned (.string ⟨(34 :: (t.data.toList ++ [34])).toArray⟩)) := fun x hx => by rw [hx]
      generalize (34 :: (t.data.toList ++ [34])) = S at *
      clear hd k2 hsp he
      go_enter Tryz.func143, Tryz.ntmps143
      go_wp2_with fail
      go_ret
      refine ⟨HH.out _ ?_, (Below.refl _ _).alloc (Nat.le_refl _) _⟩
      exact H1.out
    · have e3 : (k == 3) = false := by simpa using k3
      have hsp : Lx.spell k t.data.toList p q = t.data.toList := by simp [Lx.spell, k2, k3]
      rw [hsp, ← ba_list t]
      clear hd k2 k3 hsp he
      go_enter Tryz.func143, Tryz.ntmps143
      go_wp2_with fail
      go_ret
      exact ⟨rfl, (Below.refl _ _).alloc (Nat.le_refl _) _⟩
end Go.Proofs.YtnhcjgnohnedaaaGreatDoor

namespace Go.Proofs
open Go.Shelf
def Tryz.lays240_ren : Go.Shelf.Ren := ⟨fun | 240 => 149 | 276 => 151 | n => n, fun | 0 => 0 | 4 => 4 | 9 => 9 | 20 => 20 | 70 => 187 | 72 => 190 | 164 => 203 | 5 => 5 | 37 => 188 | 80 => 197 | 3 => 3 | n => n, fun | n => n⟩
theorem Tryz.lays240 : Go.Proofs.Lays.n240 Tryz.prog Tryz.lays240_ren := {
  mixed := by kernel_rfl
  f240 := Tryz.func149.trans (congrArg some (by kernel_rfl))
  f276 := Tryz.func151.trans (congrArg some (by kernel_rfl))
  t0 := Tryz.underlying0
  a0 := Tryz.isAgg0
  z0 := Tryz.sizeOf0
  v0 := Tryz.zeroValue0
  t4 := Tryz.underlying4
  a4 := Tryz.isAgg4
  z4 := Tryz.sizeOf4
  v4 := Tryz.zeroValue4
  t9 := Tryz.underlying9
  a9 := Tryz.isAgg9
  z9 := Tryz.sizeOf9
  v9 := Tryz.zeroValue9
  t20 := Tryz.underlying20
  a20 := Tryz.isAgg20
  z20 := Tryz.sizeOf20
  v20 := Tryz.zeroValue20
  t70 := Tryz.underlying187
  a70 := Tryz.isAgg187
  z70 := Tryz.sizeOf187
  v70 := Tryz.zeroValue187
  t72 := Tryz.underlying190
  a72 := Tryz.isAgg190
  z72 := Tryz.sizeOf190
  v72 := Tryz.zeroValue190
  t164 := Tryz.underlying203
  a164 := Tryz.isAgg203
  z164 := Tryz.sizeOf203
  v164 := Tryz.zeroValue203 }
theorem Tryz.Builder_X72_240 : Builder.X72 Tryz.prog Tryz.lays240_ren where
  sizeBuilder := by kernel_rfl
  liesBuilder := by kernel_rfl
def Tryz.lays167_ren : Go.Shelf.Ren := ⟨fun | 167 => 141 | 240 => 149 | 276 => 151 | n => n, fun | 0 => 0 | 4 => 4 | 5 => 5 | 9 => 9 | 20 => 20 | 37 => 188 | 70 => 187 | 72 => 190 | 75 => 192 | 164 => 203 | 80 => 197 | 3 => 3 | n => n, fun | n => n⟩
theorem Tryz.lays167 : Go.Proofs.Lays.n167 Tryz.prog Tryz.lays167_ren := {
  mixed := by kernel_rfl
  f167 := Tryz.func141.trans (congrArg some (by kernel_rfl))
  f240 := Tryz.func149.trans (congrArg some (by kernel_rfl))
  f276 := Tryz.func151.trans (congrArg some (by kernel_rfl))
  t0 := Tryz.underlying0
  a0 := Tryz.isAgg0
  z0 := Tryz.sizeOf0
  v0 := Tryz.zeroValue0
  t4 := Tryz.underlying4
  a4 := Tryz.isAgg4
  z4 := Tryz.sizeOf4
  v4 := Tryz.zeroValue4
  t5 := Tryz.underlying5
  a5 := Tryz.isAgg5
  z5 := Tryz.sizeOf5
  v5 := Tryz.zeroValue5
  t9 := Tryz.underlying9
  a9 := Tryz.isAgg9
  z9 := Tryz.sizeOf9
  v9 := Tryz.zeroValue9
  t20 := Tryz.underlying20
  a20 := Tryz.isAgg20
  z20 := Tryz.sizeOf20
  v20 := Tryz.zeroValue20
  t37 := Tryz.underlying188
  a37 := Tryz.isAgg188
  z37 := Tryz.sizeOf188
  v37 := Tryz.zeroValue188
  t70 := Tryz.underlying187
  a70 := Tryz.isAgg187
  z70 := Tryz.sizeOf187
  v70 := Tryz.zeroValue187
  t72 := Tryz.underlying190
  a72 := Tryz.isAgg190
  z72 := Tryz.sizeOf190
  v72 := Tryz.zeroValue190
  t75 := Tryz.underlying192
  a75 := Tryz.isAgg192
  z75 := Tryz.sizeOf192
  v75 := Tryz.zeroValue192
  t164 := Tryz.underlying203
  a164 := Tryz.isAgg203
  z164 := Tryz.sizeOf203
  v164 := Tryz.zeroValue203 }
theorem Tryz.Builder_Extra_167 : Builder.Extra Tryz.prog Tryz.lays167_ren where
  sizeBuilder := by kernel_rfl
  liesBuilder := by kernel_rfl
  t5 := Tryz.underlying5
  a5 := Tryz.isAgg5
  z5 := Tryz.sizeOf5
  v5 := Tryz.zeroValue5
  infoByte := by kernel_rfl
  cellsByte := by kernel_rfl
  sizeByte := by kernel_rfl
  neB5 := by decide
def Tryz.lays166_ren : Go.Shelf.Ren := ⟨fun | 166 => 142 | 240 => 149 | 276 => 151 | n => n, fun | 0 => 0 | 3 => 3 | 4 => 4 | 9 => 9 | 20 => 20 | 37 => 188 | 70 => 187 | 72 => 190 | 75 => 192 | 164 => 203 | 5 => 5 | 80 => 197 | n => n, fun | n => n⟩
theorem Tryz.lays166 : Go.Proofs.Lays.n166 Tryz.prog Tryz.lays166_ren := {
  mixed := by kernel_rfl
  f166 := Tryz.func142.trans (congrArg some (by kernel_rfl))
  f240 := Tryz.func149.trans (congrArg some (by kernel_rfl))
  f276 := Tryz.func151.trans (congrArg some (by kernel_rfl))
  t0 := Tryz.underlying0
  a0 := Tryz.isAgg0
  z0 := Tryz.sizeOf0
  v0 := Tryz.zeroValue0
  t3 := Tryz.underlying3
  a3 := Tryz.isAgg3
  z3 := Tryz.sizeOf3
  v3 := Tryz.zeroValue3
  t4 := Tryz.underlying4
  a4 := Tryz.isAgg4
  z4 := Tryz.sizeOf4
  v4 := Tryz.zeroValue4
  t9 := Tryz.underlying9
  a9 := Tryz.isAgg9
  z9 := Tryz.sizeOf9
  v9 := Tryz.zeroValue9
  t20 := Tryz.underlying20
  a20 := Tryz.isAgg20
  z20 := Tryz.sizeOf20
  v20 := Tryz.zeroValue20
  t37 := Tryz.underlying188
  a37 := Tryz.isAgg188
  z37 := Tryz.sizeOf188
  v37 := Tryz.zeroValue188
  t70 := Tryz.underlying187
  a70 := Tryz.isAgg187
  z70 := Tryz.sizeOf187
  v70 := Tryz.zeroValue187
  t72 := Tryz.underlying190
  a72 := Tryz.isAgg190
  z72 := Tryz.sizeOf190
  v72 := Tryz.zeroValue190
  t75 := Tryz.underlying192
  a75 := Tryz.isAgg192
  z75 := Tryz.sizeOf192
  v75 := Tryz.zeroValue192
  t164 := Tryz.underlying203
  a164 := Tryz.isAgg203
  z164 := Tryz.sizeOf203
  v164 := Tryz.zeroValue203 }
theorem Tryz.Builder_Extra_166 : Builder.Extra Tryz.prog Tryz.lays166_ren where
  sizeBuilder := by kernel_rfl
  liesBuilder := by kernel_rfl
  t5 := Tryz.underlying5
  a5 := Tryz.isAgg5
  z5 := Tryz.sizeOf5
  v5 := Tryz.zeroValue5
  infoByte := by kernel_rfl
  cellsByte := by kernel_rfl
  sizeByte := by kernel_rfl
  neB5 := by decide
open Go.RowKit in
theorem Tryz.Builder_WriteByte_k (B b : Nat) (bs : List Value) (c : Int) (w : World) (h : Lib.IsBuilderF 190 5 B b bs w) (hlen : bs.length + 1 ≤ 140737488355328) (hBw : B ≤ w.heap.size) :
    Calls Tryz.prog 141 #[.pointer (some ⟨b, 0, none⟩), .int .u8 c] w fun e w' => e = .returned .nilIface ∧ (Lib.BuilderAtF 190 5 B b (.pointer (some ⟨b, 0, none⟩)) (bs ++ [.int .u8 c]) w' ∧ Below B w w' ∧ Lib.OthersKept 5 (some b) w w') := Any.Builder_WriteByte_k Tryz.lays167 Tryz.Builder_Extra_167 B b bs c w h hlen hBw
open Go.RowKit in
theorem Tryz.Builder_WriteString_k (B b : Nat) (bs : List Value) (s : ByteArray) (w : World) (h : Lib.IsBuilderF 190 5 B b bs w) (hlen : bs.length + s.size ≤ 140737488355328) (hBw : B ≤ w.heap.size) :
    Calls Tryz.prog 142 #[.pointer (some ⟨b, 0, none⟩), .string s] w fun e w' => e = .returned (.tuple #[.int .i64 s.size, .nilIface]) ∧ (Lib.BuilderAtF 190 5 B b (.pointer (some ⟨b, 0, none⟩)) (bs ++ Lib.strCells s) w' ∧ Below B w w' ∧ Lib.OthersKept 5 (some b) w w') := Any.Builder_WriteString_k Tryz.lays166 Tryz.Builder_Extra_166 B b bs s w h hlen hBw
end Go.Proofs
