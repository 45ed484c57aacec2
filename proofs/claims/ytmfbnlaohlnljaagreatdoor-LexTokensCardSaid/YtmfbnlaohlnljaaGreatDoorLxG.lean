/-
  Contracts of package lex: strings between quotation marks; the token with which a string begins.
-/
import Derived.Test.YtmfbnlaohlnljaaGreatDoorLxF
namespace Go.Proofs.YtmfbnlaohlnljaaGreatDoor
open Go.RowKit

set_option maxHeartbeats 1000000 in
theorem all_quot (l : List UInt8) (w : World) (hl : l.length ≤ 20000) :
    Calls Tryz.prog 77 #[.string ⟨l.toArray⟩, .func (.func 79) #[] #[]] w fun e w' => e = .returned (.bool (Lx.allB Lx.quot l)) ∧ w = w' := by
  have hr := run_quotable ⟨l.toArray⟩ w (by rw [ba_size]; unfold maxLen; omega)
  simp only at hr
  obtain ⟨s, hs⟩ : ∃ s : ByteArray, s = ⟨l.toArray⟩ := ⟨_, rfl⟩
  have hz : s.size = l.length := by rw [hs]; rfl
  have hle := Lx.runN_le Lx.quot l
  obtain ⟨b, hb⟩ : ∃ b, b = Lx.allB Lx.quot l := ⟨_, rfl⟩
  rw [← hb, ← hs]
  unfold Lx.allB at hb
  rw [← hs] at hr
  rw [← hz] at hb hle hl
  generalize Lx.runN Lx.quot l = n at hr hb hle
  have HR := Lib.hid hr
  have hb2 : ((n : Int) == (s.size : Int)) = b := by rw [hb, Bool.eq_iff_iff]; simp; omega
  clear hr hs hz hb
  go_enter Tryz.func77, Tryz.ntmps77
  go_wp2_with fail
  refine HR.out.mono ?_; rintro e w' ⟨rfl, rfl⟩
  go_wp2_with fail
  go_ret
  exact ⟨by simp, rfl⟩
theorem all_letter (l : List UInt8) (w : World) (hl : l.length ≤ 20000) :
    Calls Tryz.prog 77 #[.string ⟨l.toArray⟩, .func (.func 78) #[] #[]] w fun e w' => e = .returned (.bool (Lx.allB Lx.letter l)) ∧ w = w' := by
  have hr := run_letter ⟨l.toArray⟩ w (by rw [ba_size]; unfold maxLen; omega)
  simp only at hr
  obtain ⟨s, hs⟩ : ∃ s : ByteArray, s = ⟨l.toArray⟩ := ⟨_, rfl⟩
  have hz : s.size = l.length := by rw [hs]; rfl
  have hle := Lx.runN_le Lx.letter l
  obtain ⟨b, hb⟩ : ∃ b, b = Lx.allB Lx.letter l := ⟨_, rfl⟩
  rw [← hb, ← hs]
  unfold Lx.allB at hb
  rw [← hs] at hr
  rw [← hz] at hb hle hl
  generalize Lx.runN Lx.letter l = n at hr hb hle
  have HR := Lib.hid hr
  have hb2 : ((n : Int) == (s.size : Int)) = b := by rw [hb, Bool.eq_iff_iff]; simp; omega
  clear hr hs hz hb
  go_enter Tryz.func77, Tryz.ntmps77
  go_wp2_with fail
  refine HR.out.mono ?_; rintro e w' ⟨rfl, rfl⟩
  go_wp2_with fail
  go_ret
  exact ⟨by simp, rfl⟩

theorem oneOf_bad (t : Lx.Tk) (n : Nat) (e : Int) (he : e ≠ 0) {w w' : World} (hb : Below w.heap.size w w') : OneOf (Lx.One.bad n e) w (.returned (oneV t n e)) w' :=
  ⟨t, rfl, fun h => absurd h he, hb⟩
theorem oneOf_ok (t : Lx.Tk) (n : Nat) {w w' : World} (hb : Below w.heap.size w w') : OneOf ⟨t, n, 0⟩ w (.returned (oneV t n 0)) w' :=
  ⟨t, rfl, fun _ => rfl, hb⟩
theorem notQ_iff (c : UInt8) : Lx.notQ c = true ↔ c ≠ 34 := by simp [Lx.notQ]

set_option maxHeartbeats 2000000 in
theorem quoted_any (c : UInt8) (t : List UInt8) (w : World) (he : EnvL w) (hl : t.length < 20000) :
    Calls Tryz.prog 88 #[.string ⟨(c :: t).toArray⟩] w (OneOf (Lx.strOf t) w) := by
  have hcut := Lx.cut_run 34 Lx.notQ notQ_iff t
  have hm := Lx.runN_le Lx.notQ t
  obtain ⟨o, ho⟩ : ∃ o, o = Lx.strOf t := ⟨_, rfl⟩
  rw [← ho]
  unfold Lx.strOf at ho
  simp only at ho
  generalize Lx.runN Lx.notQ t = m at hcut hm ho
  obtain ⟨s, hs⟩ : ∃ s : ByteArray, s = ⟨(c :: t).toArray⟩ := ⟨_, rfl⟩
  have hz : s.size = t.length + 1 := by rw [hs]; rfl
  have hz2 : 1 ≤ s.size := by omega
  have hz3 : s.size ≤ 20000 := by omega
  have HX : Hid (s.extract 1 s.size = ⟨t.toArray⟩) := by rw [hz, hs]; exact ext_tail (c :: t) 1
  have HE := Lib.hid he
  rw [← hs]
  clear hs he
  by_cases hend : m = t.length
  · rw [if_pos hend] at hcut
    rw [if_pos (Or.inl hend)] at ho
    subst ho
    have HC := Lib.hid hcut
    clear hcut hend hm hz
    go_enter Tryz.func88, Tryz.ntmps88
    go_wp2_with fail
    rw [HX.out]
    refine (cut_any _ _ _ (by exact (HE.out.below (by repeat (first | exact Below.refl _ _ | refine Below.setCell ?_ (by first | (simp; done) | (simp; omega) | omega) _ | refine below_drewN ?_ _ | refine Below.alloc ?_ (by first | (simp; done) | (simp; omega) | omega) _ | refine Below.trans ?_ (hb.mono (by first | (simp; done) | (simp; omega) | omega))))).toEnv) (by rw [ba_size]; omega) t [] false HC.out).mono ?_; rintro e w' ⟨rfl, n, rfl⟩
    go_wp2_with fail
    exact bodyPost_ret (v := oneV ⟨0, [], 0, 0⟩ 1 10) (by simp [results, Tryz.results88, go_sem, oneV, tokV]) rfl (oneOf_bad _ _ _ (by decide) (below6 (below_drewN ((Below.refl _ _).alloc (Nat.le_refl _) _) _) (Nat.le_refl _) _ _ _ _ _ _))
  · rw [if_neg hend] at hcut
    have HC := Lib.hid hcut
    have hq := fun W => all_quot (t.take m) W (by rw [List.length_take]; omega)
    have hml : (t.take m).length = m := by rw [List.length_take]; omega
    obtain ⟨x, hx⟩ : ∃ x : ByteArray, x = ⟨(t.take m).toArray⟩ := ⟨_, rfl⟩
    have hxz : x.size = m := by rw [hx]; exact hml
    have hm2 : x.size ≤ 20000 := by omega
    rw [← hx] at hq
    cases hall : Lx.allB Lx.quot (t.take m)
    · rw [if_pos (Or.inr hall)] at ho
      rw [hall] at hq
      subst ho
      have HQ := Lib.hid hq
      have HXX := Lib.hid hx
      clear hcut hend hm hz hq hall hx hml hxz
      go_enter Tryz.func88, Tryz.ntmps88
      go_wp2_with fail
      rw [HX.out]
      refine (cut_any _ _ _ (by exact (HE.out.below (by repeat (first | exact Below.refl _ _ | refine Below.setCell ?_ (by first | (simp; done) | (simp; omega) | omega) _ | refine below_drewN ?_ _ | refine Below.alloc ?_ (by first | (simp; done) | (simp; omega) | omega) _ | refine Below.trans ?_ (hb.mono (by first | (simp; done) | (simp; omega) | omega))))).toEnv) (by rw [ba_size]; omega) _ _ true HC.out).mono ?_; rintro e w' ⟨rfl, n, rfl⟩
      rw [← HXX.out]
      go_wp2_with (go_at_call 77; refine (HQ.out _).mono ?_; rintro e w' ⟨rfl, rfl⟩)
      exact bodyPost_ret (v := oneV ⟨0, [], 0, 0⟩ 1 10) (by simp [results, Tryz.results88, go_sem, oneV, tokV]) rfl (oneOf_bad _ _ _ (by decide) (below6 (below_drewN ((Below.refl _ _).alloc (Nat.le_refl _) _) _) (Nat.le_refl _) _ _ _ _ _ _))
    · rw [if_neg (by rw [hall]; simp; exact hend)] at ho
      rw [hall] at hq
      have HQ := Lib.hid hq
      have HXX := Lib.hid hx
      by_cases h100 : 100 < m
      · rw [if_pos h100] at ho
        rw [← hxz] at ho h100
        subst ho
        clear hcut hend hm hz hq hall hx hml hxz
        go_enter Tryz.func88, Tryz.ntmps88
        go_wp2_with fail
        rw [HX.out]
        refine (cut_any _ _ _ (by exact (HE.out.below (by repeat (first | exact Below.refl _ _ | refine Below.setCell ?_ (by first | (simp; done) | (simp; omega) | omega) _ | refine below_drewN ?_ _ | refine Below.alloc ?_ (by first | (simp; done) | (simp; omega) | omega) _ | refine Below.trans ?_ (hb.mono (by first | (simp; done) | (simp; omega) | omega))))).toEnv) (by rw [ba_size]; omega) _ _ true HC.out).mono ?_; rintro e w' ⟨rfl, n, rfl⟩
        rw [← HXX.out]
        go_wp2_with (go_at_call 77; refine (HQ.out _).mono ?_; rintro e w' ⟨rfl, rfl⟩)
        exact bodyPost_ret (v := oneV ⟨0, [], 0, 0⟩ (x.size + 2) 3) (by simp [results, Tryz.results88, go_sem, oneV, tokV]) rfl (oneOf_bad _ _ _ (by decide) (below6 (below_drewN ((Below.refl _ _).alloc (Nat.le_refl _) _) _) (Nat.le_refl _) _ _ _ _ _ _))
      · rw [if_neg h100] at ho
        rw [← hxz] at h100
        have HO := Lib.hid ho
        have HZ := Lib.hid hxz
        clear hcut hend hm hz hq hall hx hml ho hxz
        go_enter Tryz.func88, Tryz.ntmps88
        go_wp2_with fail
        rw [HX.out]
        refine (cut_any _ _ _ (by exact (HE.out.below (by repeat (first | exact Below.refl _ _ | refine Below.setCell ?_ (by first | (simp; done) | (simp; omega) | omega) _ | refine below_drewN ?_ _ | refine Below.alloc ?_ (by first | (simp; done) | (simp; omega) | omega) _ | refine Below.trans ?_ (hb.mono (by first | (simp; done) | (simp; omega) | omega))))).toEnv) (by rw [ba_size]; omega) _ _ true HC.out).mono ?_; rintro e w' ⟨rfl, n, rfl⟩
        rw [← HXX.out]
        go_wp2_with (go_at_call 77; refine (HQ.out _).mono ?_; rintro e w' ⟨rfl, rfl⟩)
        exact bodyPost_ret (v := oneV ⟨3, t.take m, 0, 0⟩ (x.size + 2) 0) (by simp [results, Tryz.results88, go_sem, oneV, tokV]; exact HXX.out) rfl (by rw [HO.out, ← HZ.out]; exact oneOf_ok _ _ (below6 (below_drewN ((Below.refl _ _).alloc (Nat.le_refl _) _) _) (Nat.le_refl _) _ _ _ _ _ _))
end Go.Proofs.YtmfbnlaohlnljaaGreatDoor
