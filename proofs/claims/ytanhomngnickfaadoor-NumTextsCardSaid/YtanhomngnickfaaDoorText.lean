/-
  Contracts: Text of package num; what a world must keep for it (the table of powers of ten, a constant of the string search).
-/
-- LAW 01
import Derived.Test.YtanhomngnickfaaDoorNear
import Derived.WalkSmall
import Derived.Lib.AppendIntMem
import Derived.Lib.ItoaLen
namespace Go.Proofs.YtanhomngnickfaaDoor
open Go.RowKit

/-- What the library's functions read: the table of powers of ten, and a number of the string search. -/
structure Env (w : World) : Prop where
  max : ∃ m, w.cell? ⟨0, 0, none⟩ = some (.int .i64 m)
  tab : Lib.TabIs Tryd.prog w "internal/strconv.uint64pow10" .u64 Lib.pow10Tab
  size : 8 ≤ w.heap.size
theorem pow_name : Tryd.prog.globalNamed "internal/strconv.uint64pow10" = some 3 := by kernel_rfl
theorem Env.below {w w' : World} (h : Env w) (hb : Below w.heap.size w w') : Env w' := by
  have hs := h.size
  refine ⟨?_, ?_, Nat.le_trans h.size hb.size⟩
  · obtain ⟨m, hm⟩ := h.max
    exact ⟨m, by rw [(bcell hb).1 _ _ (by omega)]; exact hm⟩
  · exact var?_below hb pow_name (by omega) h.tab

theorem fmt_any (n : Int) (w : World) (h0 : -9223372036854775808 ≤ n) (h1 : n ≤ 9223372036854775807) (he : Env w) :
    Calls Tryd.prog 74 #[.int .i64 n, .int .i64 10] w fun e w' => e = .returned (.string ⟨(Lib.itoa n).toArray⟩) ∧ Below w.heap.size w w' :=
  (Tryd.strconv_FormatInt_10 n h0 h1 w he.tab).mono fun _ _ ⟨h, k, os, hw⟩ => ⟨h, by rw [hw]; exact Lib.below_grow _ _ (Nat.le_refl _) _ _⟩

theorem ba_app (a b : List UInt8) : (⟨a.toArray⟩ : ByteArray) ++ ⟨b.toArray⟩ = ⟨(a ++ b).toArray⟩ := by
  apply ByteArray.ext
  simp
theorem ba_app3 (a b : List UInt8) : (⟨a.toArray⟩ : ByteArray) ++ (⟨#[47]⟩ ++ ⟨b.toArray⟩) = ⟨(a ++ 47 :: b).toArray⟩ := by
  apply ByteArray.ext
  simp

set_option maxHeartbeats 400000 in
theorem text_no (p q : Int) (w : World) (h1 : -9223372036854775808 ≤ p) (h2 : p ≤ 9223372036854775807) (h3 : -9223372036854775808 ≤ q) (h4 : q ≤ 9223372036854775807) (hv : Nm.vld p q = false) :
    Calls Tryd.prog 37 #[.agg #[.int .i64 p, .int .i64 q]] w fun e w' => e = .returned (.tuple #[.string ⟨#[]⟩, .int .i64 2]) ∧ Below w.heap.size w w' := by
  have HV := Lib.hid hv
  clear hv
  go_enter Tryd.func37, Tryd.ntmps37
  go_wp2_with fail
  refine (valid_any _ _ _ h1 h2 h3 h4).mono ?_; rintro e w' ⟨rfl, hb⟩
  rw [HV.out]
  go_wp2_with fail
  go_ret2
  exact ⟨rfl, (by repeat (first | exact Below.refl _ _ | refine Below.setCell ?_ (by first | (simp; done) | (simp; omega) | omega) _ | refine below_drewN ?_ _ | refine Below.alloc ?_ (by first | (simp; done) | (simp; omega) | omega) _ | refine Below.trans ?_ (hb.mono (by first | (simp; done) | (simp; omega) | omega))))⟩

set_option maxHeartbeats 400000 in
theorem text_one (p : Int) (w : World) (he : Env w) (hv : Nm.vld p 1 = true) :
    Calls Tryd.prog 37 #[.agg #[.int .i64 p, .int .i64 1]] w fun e w' => e = .returned (.tuple #[.string ⟨(Lib.itoa p).toArray⟩, .int .i64 0]) ∧ Below w.heap.size w w' := by
  obtain ⟨x1, x2, x3, x4⟩ := vld_bd hv
  have HV := Lib.hid hv
  have HE := Lib.hid he
  clear hv he
  go_enter Tryd.func37, Tryd.ntmps37
  go_wp2_with fail
  refine (valid_any _ _ _ (by omega) (by omega) (by omega) (by omega)).mono ?_; rintro e w' ⟨rfl, hb⟩; obtain ⟨hc, hf⟩ := bcell hb; have hsz := hb.size; simp at hsz
  rw [HV.out]
  go_wp2_with fail
  refine (fmt_any p _ (by omega) (by omega) (by exact HE.out.below (by repeat (first | exact Below.refl _ _ | refine Below.setCell ?_ (by first | (simp; done) | (simp; omega) | omega) _ | refine below_drewN ?_ _ | refine Below.alloc ?_ (by first | (simp; done) | (simp; omega) | omega) _ | refine Below.trans ?_ (hb.mono (by first | (simp; done) | (simp; omega) | omega)))))).mono ?_; rintro e w'' ⟨rfl, hb2⟩; replace hb := hb.trans (hb2.mono hb.size); clear hb2 hc hf hsz; obtain ⟨hc, hf⟩ := bcell hb; have hsz := hb.size; simp at hsz
  go_wp2_with fail
  go_ret2
  exact ⟨rfl, (by repeat (first | exact Below.refl _ _ | refine Below.setCell ?_ (by first | (simp; done) | (simp; omega) | omega) _ | refine below_drewN ?_ _ | refine Below.alloc ?_ (by first | (simp; done) | (simp; omega) | omega) _ | refine Below.trans ?_ (hb.mono (by first | (simp; done) | (simp; omega) | omega))))⟩

set_option maxHeartbeats 400000 in
theorem text_two (p q : Int) (w : World) (he : Env w) (hv : Nm.vld p q = true) (hq : q ≠ 1) :
    Calls Tryd.prog 37 #[.agg #[.int .i64 p, .int .i64 q]] w fun e w' => e = .returned (.tuple #[.string ⟨(Lib.itoa p ++ 47 :: Lib.itoa q).toArray⟩, .int .i64 0]) ∧ Below w.heap.size w w' := by
  obtain ⟨x1, x2, x3, x4⟩ := vld_bd hv
  have HV := Lib.hid hv
  have HE := Lib.hid he
  have hqb : (q == 1) = false := by simpa using hq
  have hqc : (q != 1) = true := by simpa using hq
  clear hv he hq
  go_enter Tryd.func37, Tryd.ntmps37
  go_wp2_with fail
  refine (valid_any _ _ _ (by omega) (by omega) (by omega) (by omega)).mono ?_; rintro e w' ⟨rfl, hb⟩; obtain ⟨hc, hf⟩ := bcell hb; have hsz := hb.size; simp at hsz
  rw [HV.out]
  go_wp2_with fail
  refine (fmt_any p _ (by omega) (by omega) (by exact HE.out.below (by repeat (first | exact Below.refl _ _ | refine Below.setCell ?_ (by first | (simp; done) | (simp; omega) | omega) _ | refine below_drewN ?_ _ | refine Below.alloc ?_ (by first | (simp; done) | (simp; omega) | omega) _ | refine Below.trans ?_ (hb.mono (by first | (simp; done) | (simp; omega) | omega)))))).mono ?_; rintro e w'' ⟨rfl, hb2⟩; replace hb := hb.trans (hb2.mono hb.size); clear hb2 hc hf hsz; obtain ⟨hc, hf⟩ := bcell hb; have hsz := hb.size; simp at hsz
  go_wp2_with fail
  refine (fmt_any q _ (by omega) (by omega) (by exact HE.out.below (by repeat (first | exact Below.refl _ _ | refine Below.setCell ?_ (by first | (simp; done) | (simp; omega) | omega) _ | refine below_drewN ?_ _ | refine Below.alloc ?_ (by first | (simp; done) | (simp; omega) | omega) _ | refine Below.trans ?_ (hb.mono (by first | (simp; done) | (simp; omega) | omega)))))).mono ?_; rintro e w3 ⟨rfl, hb3⟩
  have l1 := Lib.itoa_length_le p (by omega) (by omega)
  have l2 := Lib.itoa_length_le q (by omega) (by omega)
  go_wp2_with fail
  go_ret2
  exact ⟨by rw [ba_app3]; rfl, (by repeat (first | exact Below.refl _ _ | refine Below.setCell ?_ (by first | (simp; done) | (simp; omega) | omega) _ | refine below_drewN ?_ _ | refine Below.alloc ?_ (by first | (simp; done) | (simp; omega) | omega) _ | refine Below.trans ?_ (hb3.mono (by first | (simp; done) | (simp; omega) | omega)) | refine Below.trans ?_ (hb.mono (by first | (simp; done) | (simp; omega) | omega))))⟩

/-- A number's string. -/
def txt (p q : Int) : List UInt8 := if q = 1 then Lib.itoa p else Lib.itoa p ++ 47 :: Lib.itoa q
/-- What Text returns. -/
def txtV (v : Bool) (p q : Int) : Value := if v = true then .tuple #[.string ⟨(txt p q).toArray⟩, .int .i64 0] else .tuple #[.string ⟨#[]⟩, .int .i64 2]
theorem text_ok (p q : Int) (w : World) (he : Env w) (hv : Nm.vld p q = true) :
    Calls Tryd.prog 37 #[.agg #[.int .i64 p, .int .i64 q]] w fun e w' => e = .returned (.tuple #[.string ⟨(txt p q).toArray⟩, .int .i64 0]) ∧ Below w.heap.size w w' := by
  by_cases hq : q = 1
  · subst hq; rw [txt, if_pos rfl]; exact text_one p w he hv
  · rw [txt, if_neg hq]; exact text_two p q w he hv hq
theorem text_any (p q : Int) (w : World) (he : Env w) (h1 : -9223372036854775808 ≤ p) (h2 : p ≤ 9223372036854775807) (h3 : -9223372036854775808 ≤ q) (h4 : q ≤ 9223372036854775807) :
    Calls Tryd.prog 37 #[.agg #[.int .i64 p, .int .i64 q]] w fun e w' => e = .returned (txtV (Nm.vld p q) p q) ∧ Below w.heap.size w w' := by
  cases hv : Nm.vld p q
  · exact text_no p q w h1 h2 h3 h4 hv
  · exact text_ok p q w he hv
end Go.Proofs.YtanhomngnickfaaDoor
