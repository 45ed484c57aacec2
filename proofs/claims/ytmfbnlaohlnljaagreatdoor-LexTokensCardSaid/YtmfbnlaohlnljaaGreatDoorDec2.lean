/-
  Contracts: Decimal of package num.
-/
import Derived.Test.YtmfbnlaohlnljaaGreatDoorDec
namespace Go.Proofs.YtmfbnlaohlnljaaGreatDoor
open Go.RowKit

theorem cut_any (s sep : ByteArray) (w : World) (he : Env w) (hs : s.size ≤ 30000) (wh pt : List UInt8) (pd : Bool) (h : Lib.cut s.data.toList sep.data.toList = (wh, pt, pd)) :
    Calls Tryz.prog 127 #[.string s, .string sep] w fun e w' => e = .returned (.tuple #[.string ⟨wh.toArray⟩, .string ⟨pt.toArray⟩, .bool pd]) ∧ ∃ n, w' = w.drewN n := by
  obtain ⟨m, hm⟩ := he.max
  have := Any.strings_Cut { Tryz.laysM145 with } s sep m w (by omega) hm
  rw [h] at this
  exact this
theorem digits_of (l : List UInt8) (w : World) (b : Bool) (hl : l.length ≤ 30000) (hb : dig l = b) :
    Calls Tryz.prog 162 #[.string ⟨l.toArray⟩] w fun e w' => e = .returned (.bool b) ∧ Below w.heap.size w w' := by
  have := digits_any ⟨l.toArray⟩ w (by rw [Lib.size_eq]; simpa using hl)
  subst hb
  simpa using this

set_option maxHeartbeats 400000 in
theorem decimal_A (s : ByteArray) (w : World) (he : Env w) (hs : s.size ≤ 30000) (wh pt : List UInt8) (pd : Bool) (h : Lib.cut s.data.toList [46] = (wh, pt, pd)) (h1 : 9 < wh.length) :
    Calls Tryz.prog 126 #[.string s] w fun e w' => e = .returned (numV 0 0 30) ∧ Below w.heap.size w w' := by
  have HE := Lib.hid he
  have HC := Lib.hid h
  clear he h
  go_enter Tryz.func126, Tryz.ntmps126
  go_wp2_with fail
  refine (cut_any s ⟨#[46]⟩ _ (by exact HE.out.below (by repeat (first | exact Below.refl _ _ | refine Below.setCell ?_ (by first | (simp; done) | (simp; omega) | omega) _ | refine below_drewN ?_ _ | refine Below.alloc ?_ (by first | (simp; done) | (simp; omega) | omega) _ | refine Below.trans ?_ (hb.mono (by first | (simp; done) | (simp; omega) | omega))))) hs wh pt pd HC.out).mono ?_; rintro e w' ⟨rfl, n, rfl⟩
  go_wp2_with fail
  exact bodyPost_ret (v := numV 0 0 30) (by simp [results, Tryz.results126, go_sem, numV]) rfl ⟨rfl, (by repeat (first | exact Below.refl _ _ | refine Below.setCell ?_ (by first | (simp; done) | (simp; omega) | omega) _ | refine below_drewN ?_ _ | refine Below.alloc ?_ (by first | (simp; done) | (simp; omega) | omega) _ | refine Below.trans ?_ (hb.mono (by first | (simp; done) | (simp; omega) | omega))))⟩

set_option maxHeartbeats 400000 in
theorem decimal_B (s : ByteArray) (w : World) (he : Env w) (hs : s.size ≤ 30000) (wh pt : List UInt8) (pd : Bool) (h : Lib.cut s.data.toList [46] = (wh, pt, pd)) (h1 : wh.length ≤ 9) (h2 : 5 < pt.length) :
    Calls Tryz.prog 126 #[.string s] w fun e w' => e = .returned (numV 0 0 30) ∧ Below w.heap.size w w' := by
  have HE := Lib.hid he
  have HC := Lib.hid h
  clear he h
  go_enter Tryz.func126, Tryz.ntmps126
  go_wp2_with fail
  refine (cut_any s ⟨#[46]⟩ _ (by exact HE.out.below (by repeat (first | exact Below.refl _ _ | refine Below.setCell ?_ (by first | (simp; done) | (simp; omega) | omega) _ | refine below_drewN ?_ _ | refine Below.alloc ?_ (by first | (simp; done) | (simp; omega) | omega) _ | refine Below.trans ?_ (hb.mono (by first | (simp; done) | (simp; omega) | omega))))) hs wh pt pd HC.out).mono ?_; rintro e w' ⟨rfl, n, rfl⟩
  go_wp2_with fail
  exact bodyPost_ret (v := numV 0 0 30) (by simp [results, Tryz.results126, go_sem, numV]) rfl ⟨rfl, (by repeat (first | exact Below.refl _ _ | refine Below.setCell ?_ (by first | (simp; done) | (simp; omega) | omega) _ | refine below_drewN ?_ _ | refine Below.alloc ?_ (by first | (simp; done) | (simp; omega) | omega) _ | refine Below.trans ?_ (hb.mono (by first | (simp; done) | (simp; omega) | omega))))⟩

set_option maxHeartbeats 400000 in
theorem decimal_C (s : ByteArray) (w : World) (he : Env w) (hs : s.size ≤ 30000) (wh pt : List UInt8) (pd : Bool) (h : Lib.cut s.data.toList [46] = (wh, pt, pd)) (h1 : wh.length ≤ 9) (h2 : pt.length ≤ 5) (h3 : dig wh = false) :
    Calls Tryz.prog 126 #[.string s] w fun e w' => e = .returned (numV 0 0 30) ∧ Below w.heap.size w w' := by
  have HE := Lib.hid he
  have HC := Lib.hid h
  have H3 := Lib.hid h3
  clear he h h3
  go_enter Tryz.func126, Tryz.ntmps126
  go_wp2_with fail
  refine (cut_any s ⟨#[46]⟩ _ (by exact HE.out.below (by repeat (first | exact Below.refl _ _ | refine Below.setCell ?_ (by first | (simp; done) | (simp; omega) | omega) _ | refine below_drewN ?_ _ | refine Below.alloc ?_ (by first | (simp; done) | (simp; omega) | omega) _ | refine Below.trans ?_ (hb.mono (by first | (simp; done) | (simp; omega) | omega))))) hs wh pt pd HC.out).mono ?_; rintro e w' ⟨rfl, n, rfl⟩
  go_wp2_with fail
  refine (digits_of wh _ false (by omega) H3.out).mono ?_; rintro e w' ⟨rfl, hb⟩; obtain ⟨hc, hf⟩ := bcell hb; have hsz := hb.size; simp at hsz
  go_wp2_with fail
  exact bodyPost_ret (v := numV 0 0 30) (by simp [results, Tryz.results126, go_sem, numV, hc]) rfl ⟨rfl, (by repeat (first | exact Below.refl _ _ | refine Below.setCell ?_ (by first | (simp; done) | (simp; omega) | omega) _ | refine below_drewN ?_ _ | refine Below.alloc ?_ (by first | (simp; done) | (simp; omega) | omega) _ | refine Below.trans ?_ (hb.mono (by first | (simp; done) | (simp; omega) | omega))))⟩

set_option maxHeartbeats 400000 in
theorem decimal_D (s : ByteArray) (w : World) (he : Env w) (hs : s.size ≤ 30000) (wh pt : List UInt8) (pd : Bool) (h : Lib.cut s.data.toList [46] = (wh, pt, pd)) (h1 : wh.length ≤ 9) (h2 : pt.length ≤ 5) (h3 : dig wh = true) (h4 : dig pt = false) :
    Calls Tryz.prog 126 #[.string s] w fun e w' => e = .returned (numV 0 0 30) ∧ Below w.heap.size w w' := by
  have HE := Lib.hid he
  have HC := Lib.hid h
  have H3 := Lib.hid h3
  have H4 := Lib.hid h4
  clear he h h3 h4
  go_enter Tryz.func126, Tryz.ntmps126
  go_wp2_with fail
  refine (cut_any s ⟨#[46]⟩ _ (by exact HE.out.below (by repeat (first | exact Below.refl _ _ | refine Below.setCell ?_ (by first | (simp; done) | (simp; omega) | omega) _ | refine below_drewN ?_ _ | refine Below.alloc ?_ (by first | (simp; done) | (simp; omega) | omega) _ | refine Below.trans ?_ (hb.mono (by first | (simp; done) | (simp; omega) | omega))))) hs wh pt pd HC.out).mono ?_; rintro e w' ⟨rfl, n, rfl⟩
  go_wp2_with fail
  refine (digits_of wh _ true (by omega) H3.out).mono ?_; rintro e w' ⟨rfl, hb⟩; obtain ⟨hc, hf⟩ := bcell hb; have hsz := hb.size; simp at hsz
  go_wp2_with fail
  refine (digits_of pt _ false (by omega) H4.out).mono ?_; rintro e w'' ⟨rfl, hb2⟩; replace hb := hb.trans (hb2.mono hb.size); clear hb2 hc hf hsz; obtain ⟨hc, hf⟩ := bcell hb; have hsz := hb.size; simp at hsz
  go_wp2_with fail
  exact bodyPost_ret (v := numV 0 0 30) (by simp [results, Tryz.results126, go_sem, numV, hc]) rfl ⟨rfl, (by repeat (first | exact Below.refl _ _ | refine Below.setCell ?_ (by first | (simp; done) | (simp; omega) | omega) _ | refine below_drewN ?_ _ | refine Below.alloc ?_ (by first | (simp; done) | (simp; omega) | omega) _ | refine Below.trans ?_ (hb.mono (by first | (simp; done) | (simp; omega) | omega))))⟩

set_option maxHeartbeats 400000 in
theorem decimal_E (s : ByteArray) (w : World) (he : Env w) (hs : s.size ≤ 30000) (wh : List UInt8) (h : Lib.cut s.data.toList [46] = (wh, [], true)) (h1 : wh.length ≤ 9) (h3 : dig wh = true) :
    Calls Tryz.prog 126 #[.string s] w fun e w' => e = .returned (numV 0 0 30) ∧ Below w.heap.size w w' := by
  have HE := Lib.hid he
  have HC := Lib.hid h
  have H3 := Lib.hid h3
  clear he h h3
  go_enter Tryz.func126, Tryz.ntmps126
  go_wp2_with fail
  refine (cut_any s ⟨#[46]⟩ _ (by exact HE.out.below (by repeat (first | exact Below.refl _ _ | refine Below.setCell ?_ (by first | (simp; done) | (simp; omega) | omega) _ | refine below_drewN ?_ _ | refine Below.alloc ?_ (by first | (simp; done) | (simp; omega) | omega) _ | refine Below.trans ?_ (hb.mono (by first | (simp; done) | (simp; omega) | omega))))) hs wh [] true HC.out).mono ?_; rintro e w' ⟨rfl, n, rfl⟩
  go_wp2_with fail
  refine (digits_of wh _ true (by omega) H3.out).mono ?_; rintro e w' ⟨rfl, hb⟩; obtain ⟨hc, hf⟩ := bcell hb; have hsz := hb.size; simp at hsz
  go_wp2_with fail
  refine (digits_of [] _ true (by simp) rfl).mono ?_; rintro e w'' ⟨rfl, hb2⟩; replace hb := hb.trans (hb2.mono hb.size); clear hb2 hc hf hsz; obtain ⟨hc, hf⟩ := bcell hb; have hsz := hb.size; simp at hsz
  go_wp2_with fail
  exact bodyPost_ret (v := numV 0 0 30) (by simp [results, Tryz.results126, go_sem, numV, hc]) rfl ⟨rfl, (by repeat (first | exact Below.refl _ _ | refine Below.setCell ?_ (by first | (simp; done) | (simp; omega) | omega) _ | refine below_drewN ?_ _ | refine Below.alloc ?_ (by first | (simp; done) | (simp; omega) | omega) _ | refine Below.trans ?_ (hb.mono (by first | (simp; done) | (simp; omega) | omega))))⟩

set_option maxHeartbeats 400000 in
theorem decimal_F (s : ByteArray) (w : World) (he : Env w) (hs : s.size ≤ 30000) (pt : List UInt8) (h : Lib.cut s.data.toList [46] = ([], pt, false)) (h2 : pt.length ≤ 5) (h4 : dig pt = true) :
    Calls Tryz.prog 126 #[.string s] w fun e w' => e = .returned (numV 0 0 30) ∧ Below w.heap.size w w' := by
  have HE := Lib.hid he
  have HC := Lib.hid h
  have H4 := Lib.hid h4
  clear he h h4
  go_enter Tryz.func126, Tryz.ntmps126
  go_wp2_with fail
  refine (cut_any s ⟨#[46]⟩ _ (by exact HE.out.below (by repeat (first | exact Below.refl _ _ | refine Below.setCell ?_ (by first | (simp; done) | (simp; omega) | omega) _ | refine below_drewN ?_ _ | refine Below.alloc ?_ (by first | (simp; done) | (simp; omega) | omega) _ | refine Below.trans ?_ (hb.mono (by first | (simp; done) | (simp; omega) | omega))))) hs [] pt false HC.out).mono ?_; rintro e w' ⟨rfl, n, rfl⟩
  go_wp2_with fail
  refine (digits_of [] _ true (by simp) rfl).mono ?_; rintro e w' ⟨rfl, hb⟩; obtain ⟨hc, hf⟩ := bcell hb; have hsz := hb.size; simp at hsz
  go_wp2_with fail
  refine (digits_of pt _ true (by omega) H4.out).mono ?_; rintro e w'' ⟨rfl, hb2⟩; replace hb := hb.trans (hb2.mono hb.size); clear hb2 hc hf hsz; obtain ⟨hc, hf⟩ := bcell hb; have hsz := hb.size; simp at hsz
  go_wp2_with fail
  exact bodyPost_ret (v := numV 0 0 30) (by simp [results, Tryz.results126, go_sem, numV, hc]) rfl ⟨rfl, (by repeat (first | exact Below.refl _ _ | refine Below.setCell ?_ (by first | (simp; done) | (simp; omega) | omega) _ | refine below_drewN ?_ _ | refine Below.alloc ?_ (by first | (simp; done) | (simp; omega) | omega) _ | refine Below.trans ?_ (hb.mono (by first | (simp; done) | (simp; omega) | omega))))⟩
end Go.Proofs.YtmfbnlaohlnljaaGreatDoor
