/-
  Contracts of package lex: the token with which a string begins.
-/
import Derived.Test.YtmfbnlaohlnljaaGreatDoorLxG
namespace Go.Proofs.YtmfbnlaohlnljaaGreatDoor
open Go.RowKit



set_option maxHeartbeats 2000000 in
theorem first_name (l : List UInt8) (w : World) (he : EnvL w) (hl : l.length ≤ 20000) (h : 0 < Lx.runN Lx.letter l) :
    Calls Tryz.prog 55 #[.string ⟨l.toArray⟩] w (OneOf (if 40 < Lx.runN Lx.letter l then Lx.One.bad (Lx.runN Lx.letter l) 3 else ⟨⟨0, l.take (Lx.runN Lx.letter l), 0, 0⟩, Lx.runN Lx.letter l, 0⟩) w) := by
  have hrl := fun W => run_letter ⟨l.toArray⟩ W (by rw [ba_size]; unfold maxLen; omega)
  simp only at hrl
  have hle := Lx.runN_le Lx.letter l
  have hlz := Lib.hid (ba_size l)
  have hnm := fun W => name_any (l.take (Lx.runN Lx.letter l)) W (by rw [List.length_take]; omega)
  have htl : (l.take (Lx.runN Lx.letter l)).length = Lx.runN Lx.letter l := by rw [List.length_take]; omega
  rw [htl] at hnm
  have HN := Lib.hid hnm
  have hx := ext_head l (Lx.runN Lx.letter l)
  have HX := Lib.hid hx
  clear hnm htl hx
  generalize Lx.runN Lx.letter l = n at *
  obtain ⟨s, hs⟩ : ∃ s : ByteArray, s = ⟨l.toArray⟩ := ⟨_, rfl⟩
  have hz : s.size = l.length := by rw [hs]; rfl
  have HS := Lib.hid hs
  have HE := Lib.hid he
  rw [← hs] at hrl ⊢
  have HRL := Lib.hid hrl
  rw [← hz] at hle hl
  have HZZ := Lib.hid hz
  clear hs he hrl hz
  generalize (if 40 < n then Lx.One.bad n 3 else ⟨⟨0, l.take n, 0, 0⟩, n, 0⟩) = oo at *
  go_enter Tryz.func55, Tryz.ntmps55
  go_wp2_with fail
  refine (HRL.out _).mono ?_; rintro e w' ⟨rfl, rfl⟩
  go_wp2_with fail
  rw [HS.out, HX.out]
  refine (HN.out _).mono ?_; rintro e w' ⟨t, rfl, ht, hb⟩
  simp only [oneV, tokV]
  have hB := ((Below.refl w.heap.size w).alloc (Nat.le_refl _) _).trans (hb.mono (by simp)); have hz6 := (hb.block w.heap.size (by simp)).trans (heap_alloc_new w _); have HZ := Lib.hid hz6; obtain ⟨⟨z0, z1, z2, z3, z4, z5⟩, ⟨y0, y1, y2, y3, y4, y5⟩, hlt⟩ := blk6 hz6; clear hz6
  go_wp2_with fail
  obtain ⟨⟨q0, q1, q2, q3, q4, q5⟩, -, -⟩ := blk6 (set6 HZ.out (.int .i64 t.kind) (.string ⟨t.text.toArray⟩) (.int .i64 t.p) (.int .i64 t.q) (.int .i64 0) (.int .i64 0)); exact bodyPost_ret (v := oneV t _ _) (by simp [results, Tryz.results55, go_sem, oneV, tokV, q0, q1, q2, q3, q4, q5]) rfl ⟨t, rfl, ht, below6 hB (Nat.le_refl _) _ _ _ _ _ _⟩


set_option maxHeartbeats 2000000 in
theorem first_number (l : List UInt8) (w : World) (he : EnvL w) (hl : l.length ≤ 20000) (h : Lx.runN Lx.letter l = 0) (h2 : 0 < Lx.numeral l) :
    Calls Tryz.prog 55 #[.string ⟨l.toArray⟩] w (OneOf (Lx.numOf (l.take (Lx.numeral l))) w) := by
  have hrl := fun W => run_letter ⟨l.toArray⟩ W (by rw [ba_size]; unfold maxLen; omega)
  simp only at hrl
  have hle := Lx.runN_le Lx.letter l
  have hlz := Lib.hid (ba_size l)
  have hnu := fun W => numeral_any l W hl
  have HNL : Hid (Lx.numeral l ≤ l.length) := Lx.numeral_le l
  have hno := fun W (hW : EnvL W) (h0 : 0 < Lx.numeral l) => number_any l W hW h0 hl
  have hx := ext_head l (Lx.numeral l)
  have HX := Lib.hid hx
  have HO := Lib.hid hno
  rw [show (⟨l.toArray⟩ : ByteArray) = ⟨l.toArray⟩ from rfl] at hnu
  have HNU0 := Lib.hid hnu
  clear hnu hx hno
  generalize Lx.runN Lx.letter l = n at *
  obtain ⟨s, hs⟩ : ∃ s : ByteArray, s = ⟨l.toArray⟩ := ⟨_, rfl⟩
  have hz : s.size = l.length := by rw [hs]; rfl
  have HS := Lib.hid hs
  have HE := Lib.hid he
  rw [← hs] at hrl ⊢
  have HRL := Lib.hid hrl
  rw [← hz] at hle hl
  have HZZ := Lib.hid hz
  clear hs he hrl hz
  subst h
  have HNU := HNU0.out
  rw [← HS.out] at HNU
  replace HNU := Lib.hid HNU
  have HNL2 := HNL.out
  rw [← HZZ.out] at HNL2
  generalize Lx.numOf (l.take (Lx.numeral l)) = oo at *
  obtain ⟨tk, htk⟩ : ∃ tk, tk = l.take (Lx.numeral l) := ⟨_, rfl⟩
  rw [← htk] at HX HO
  clear HNU0 HNL htk
  have HO2 : Hid (∀ W, EnvL W → Calls Tryz.prog 87 #[.string ⟨tk.toArray⟩] W (OneOf oo W)) := fun W hW => HO.out W hW h2
  clear HO
  generalize Lx.numeral l = k at *
  go_enter Tryz.func55, Tryz.ntmps55
  go_wp2_with fail
  refine (HRL.out _).mono ?_; rintro e w' ⟨rfl, rfl⟩
  go_wp2_with fail
  refine (HNU.out _).mono ?_; rintro e w' ⟨rfl, rfl⟩
  go_wp2_with fail
  rw [HS.out, HX.out]
  refine (HO2.out _ (by exact HE.out.below (by repeat (first | exact Below.refl _ _ | refine Below.setCell ?_ (by first | (simp; done) | (simp; omega) | omega) _ | refine below_drewN ?_ _ | refine Below.alloc ?_ (by first | (simp; done) | (simp; omega) | omega) _ | refine Below.trans ?_ (hb.mono (by first | (simp; done) | (simp; omega) | omega)))))).mono ?_; rintro e w' ⟨t, rfl, ht, hb⟩
  simp only [oneV, tokV]
  have hB := ((Below.refl w.heap.size w).alloc (Nat.le_refl _) _).trans (hb.mono (by simp)); have hz6 := (hb.block w.heap.size (by simp)).trans (heap_alloc_new w _); have HZ := Lib.hid hz6; obtain ⟨⟨z0, z1, z2, z3, z4, z5⟩, ⟨y0, y1, y2, y3, y4, y5⟩, hlt⟩ := blk6 hz6; clear hz6
  go_wp2_with fail
  obtain ⟨⟨q0, q1, q2, q3, q4, q5⟩, -, -⟩ := blk6 (set6 HZ.out (.int .i64 t.kind) (.string ⟨t.text.toArray⟩) (.int .i64 t.p) (.int .i64 t.q) (.int .i64 0) (.int .i64 0)); exact bodyPost_ret (v := oneV t _ _) (by simp [results, Tryz.results55, go_sem, oneV, tokV, q0, q1, q2, q3, q4, q5]) rfl ⟨t, rfl, ht, below6 hB (Nat.le_refl _) _ _ _ _ _ _⟩


set_option maxHeartbeats 2000000 in
theorem first_quoted (l : List UInt8) (t : List UInt8) (w : World) (he : EnvL w) (hl : l.length ≤ 20000) (h : Lx.runN Lx.letter l = 0) (h2 : Lx.numeral l = 0) (hc : l = 34 :: t) :
    Calls Tryz.prog 55 #[.string ⟨l.toArray⟩] w (OneOf (Lx.strOf t) w) := by
  have hrl := fun W => run_letter ⟨l.toArray⟩ W (by rw [ba_size]; unfold maxLen; omega)
  simp only at hrl
  have hle := Lx.runN_le Lx.letter l
  have hlz := Lib.hid (ba_size l)
  have hnu := fun W => numeral_any l W hl
  rw [h2] at hnu
  have hqu := fun W (hW : EnvL W) => quoted_any 34 t W hW (by rw [hc] at hl; simp only [List.length_cons] at hl; omega)
  rw [← hc] at hqu
  have HQ0 := Lib.hid hqu
  have HNU0 := Lib.hid hnu
  have H0 : Hid (l.getD 0 0 = 34 ∧ 0 < l.length) := by rw [hc]; exact ⟨rfl, by simp⟩
  clear hnu hqu hc
  generalize Lx.runN Lx.letter l = n at *
  obtain ⟨s, hs⟩ : ∃ s : ByteArray, s = ⟨l.toArray⟩ := ⟨_, rfl⟩
  have hz : s.size = l.length := by rw [hs]; rfl
  have HS := Lib.hid hs
  have HE := Lib.hid he
  rw [← hs] at hrl ⊢
  have HRL := Lib.hid hrl
  rw [← hz] at hle hl
  have HZZ := Lib.hid hz
  clear hs he hrl hz
  subst h
  have HNU := HNU0.out
  rw [← HS.out] at HNU
  replace HNU := Lib.hid HNU
  have HQ := HQ0.out
  rw [← HS.out] at HQ
  replace HQ := Lib.hid HQ
  have hpos : 0 < s.size := by rw [HZZ.out]; exact H0.out.2
  have hg : s[0] = 34 := by rw [ba_get s 0 hpos, HS.out]; exact H0.out.1
  have hg2 : ((s[0].toNat : Int) == 34) = true := by rw [hg]; rfl
  clear HNU0 HQ0 hg
  generalize Lx.strOf t = oo at *
  clear t
  go_enter Tryz.func55, Tryz.ntmps55
  go_wp2_with fail
  refine (HRL.out _).mono ?_; rintro e w' ⟨rfl, rfl⟩
  go_wp2_with fail
  refine (HNU.out _).mono ?_; rintro e w' ⟨rfl, rfl⟩
  go_wp2_with fail
  skip
  refine (HQ.out _ (by exact HE.out.below (by repeat (first | exact Below.refl _ _ | refine Below.setCell ?_ (by first | (simp; done) | (simp; omega) | omega) _ | refine below_drewN ?_ _ | refine Below.alloc ?_ (by first | (simp; done) | (simp; omega) | omega) _ | refine Below.trans ?_ (hb.mono (by first | (simp; done) | (simp; omega) | omega)))))).mono ?_; rintro e w' ⟨t, rfl, ht, hb⟩
  simp only [oneV, tokV]
  have hB := ((Below.refl w.heap.size w).alloc (Nat.le_refl _) _).trans (hb.mono (by simp)); have hz6 := (hb.block w.heap.size (by simp)).trans (heap_alloc_new w _); have HZ := Lib.hid hz6; obtain ⟨⟨z0, z1, z2, z3, z4, z5⟩, ⟨y0, y1, y2, y3, y4, y5⟩, hlt⟩ := blk6 hz6; clear hz6
  go_wp2_with fail
  obtain ⟨⟨q0, q1, q2, q3, q4, q5⟩, -, -⟩ := blk6 (set6 HZ.out (.int .i64 t.kind) (.string ⟨t.text.toArray⟩) (.int .i64 t.p) (.int .i64 t.q) (.int .i64 0) (.int .i64 0)); exact bodyPost_ret (v := oneV t _ _) (by simp [results, Tryz.results55, go_sem, oneV, tokV, q0, q1, q2, q3, q4, q5]) rfl ⟨t, rfl, ht, below6 hB (Nat.le_refl _) _ _ _ _ _ _⟩


set_option maxHeartbeats 2000000 in
theorem first_none (l : List UInt8) (w : World) (he : EnvL w) (hl : l.length ≤ 20000) (h : Lx.runN Lx.letter l = 0) (h2 : Lx.numeral l = 0) (hc : l.getD 0 0 ≠ 34) (hne : l ≠ []) (hsg : Lx.sgn l = []) :
    Calls Tryz.prog 55 #[.string ⟨l.toArray⟩] w (OneOf (Lx.One.bad 1 10) w) := by
  have hrl := fun W => run_letter ⟨l.toArray⟩ W (by rw [ba_size]; unfold maxLen; omega)
  simp only at hrl
  have hle := Lx.runN_le Lx.letter l
  have hlz := Lib.hid (ba_size l)
  have hnu := fun W => numeral_any l W hl
  rw [h2] at hnu
  have hsi := fun W (hW : EnvL W) => signAhead_any ⟨l.toArray⟩ W hW
  simp only at hsi
  have HSI0 := Lib.hid hsi
  have HNU0 := Lib.hid hnu
  have H0 : Hid (l.getD 0 0 ≠ 34 ∧ 0 < l.length) := ⟨hc, by cases l; exact absurd rfl hne; simp⟩
  clear hnu hsi hc hne
  generalize Lx.runN Lx.letter l = n at *
  obtain ⟨s, hs⟩ : ∃ s : ByteArray, s = ⟨l.toArray⟩ := ⟨_, rfl⟩
  have hz : s.size = l.length := by rw [hs]; rfl
  have HS := Lib.hid hs
  have HE := Lib.hid he
  rw [← hs] at hrl ⊢
  have HRL := Lib.hid hrl
  rw [← hz] at hle hl
  have HZZ := Lib.hid hz
  clear hs he hrl hz
  subst h
  have HNU := HNU0.out
  rw [← HS.out] at HNU
  replace HNU := Lib.hid HNU
  have HSI := HSI0.out
  rw [← HS.out] at HSI
  have hpos : 0 < s.size := by rw [HZZ.out]; exact H0.out.2
  have hg : s[0] ≠ 34 := by rw [ba_get s 0 hpos, HS.out]; exact H0.out.1
  have hg2 : ((s[0].toNat : Int) == 34) = false := u8_ne (fun e => hg (by rw [← UInt8.toNat_inj]; have : (34 : UInt8).toNat = 34 := rfl; omega))
  clear HNU0 HSI0 hg
  rw [hsg] at HSI
  replace HSI := Lib.hid HSI
  clear hsg
  go_enter Tryz.func55, Tryz.ntmps55
  go_wp2_with fail
  refine (HRL.out _).mono ?_; rintro e w' ⟨rfl, rfl⟩
  go_wp2_with fail
  refine (HNU.out _).mono ?_; rintro e w' ⟨rfl, rfl⟩
  go_wp2_with fail
  refine (HSI.out _ (by exact HE.out.below (by repeat (first | exact Below.refl _ _ | refine Below.setCell ?_ (by first | (simp; done) | (simp; omega) | omega) _ | refine below_drewN ?_ _ | refine Below.alloc ?_ (by first | (simp; done) | (simp; omega) | omega) _ | refine Below.trans ?_ (hb.mono (by first | (simp; done) | (simp; omega) | omega)))))).mono ?_; rintro e w' ⟨rfl, rfl⟩
  go_wp2_with fail
  exact bodyPost_ret (v := oneV ⟨0, [], 0, 0⟩ 1 10) (by simp [results, Tryz.results55, go_sem, oneV, tokV]) rfl (oneOf_bad _ _ _ (by decide) ((Below.refl _ _).alloc (Nat.le_refl _) _))


set_option maxHeartbeats 2000000 in
theorem first_sign (l : List UInt8) (w : World) (he : EnvL w) (hl : l.length ≤ 20000) (h : Lx.runN Lx.letter l = 0) (h2 : Lx.numeral l = 0) (hc : l.getD 0 0 ≠ 34) (hne : l ≠ []) (hsg : Lx.sgn l ≠ []) :
    Calls Tryz.prog 55 #[.string ⟨l.toArray⟩] w (OneOf ⟨⟨4, Lx.sgn l, 0, 0⟩, (Lx.sgn l).length, 0⟩ w) := by
  have hrl := fun W => run_letter ⟨l.toArray⟩ W (by rw [ba_size]; unfold maxLen; omega)
  simp only at hrl
  have hle := Lx.runN_le Lx.letter l
  have hlz := Lib.hid (ba_size l)
  have hnu := fun W => numeral_any l W hl
  rw [h2] at hnu
  have hsi := fun W (hW : EnvL W) => signAhead_any ⟨l.toArray⟩ W hW
  simp only at hsi
  have HSI0 := Lib.hid hsi
  have HNU0 := Lib.hid hnu
  have H0 : Hid (l.getD 0 0 ≠ 34 ∧ 0 < l.length) := ⟨hc, by cases l; exact absurd rfl hne; simp⟩
  clear hnu hsi hc hne
  generalize Lx.runN Lx.letter l = n at *
  obtain ⟨s, hs⟩ : ∃ s : ByteArray, s = ⟨l.toArray⟩ := ⟨_, rfl⟩
  have hz : s.size = l.length := by rw [hs]; rfl
  have HS := Lib.hid hs
  have HE := Lib.hid he
  rw [← hs] at hrl ⊢
  have HRL := Lib.hid hrl
  rw [← hz] at hle hl
  have HZZ := Lib.hid hz
  clear hs he hrl hz
  subst h
  have HNU := HNU0.out
  rw [← HS.out] at HNU
  replace HNU := Lib.hid HNU
  have HSI := HSI0.out
  rw [← HS.out] at HSI
  have hpos : 0 < s.size := by rw [HZZ.out]; exact H0.out.2
  have hg : s[0] ≠ 34 := by rw [ba_get s 0 hpos, HS.out]; exact H0.out.1
  have hg2 : ((s[0].toNat : Int) == 34) = false := u8_ne (fun e => hg (by rw [← UInt8.toNat_inj]; have : (34 : UInt8).toNat = 34 := rfl; omega))
  clear HNU0 HSI0 hg
  have hz4 : (Lx.sgn l).length ≤ 4 := by
    rcases Lx.sgn_mem l with h | ⟨h, -⟩
    · exact absurd h hsg
    · exact (Lx.sgs_small _ h).2.1
  generalize Lx.sgn l = g at *
  obtain ⟨x, hx⟩ : ∃ x : ByteArray, x = ⟨g.toArray⟩ := ⟨_, rfl⟩
  have hxz : x.size = g.length := by rw [hx]; rfl
  have hemp : x.toList.isEmpty = false := by rw [hx, Lib.toList_data]; simpa using hsg
  have hx4 : x.size ≤ 4 := by omega
  rw [← hx] at HSI
  rw [← hxz]
  replace HSI := Lib.hid HSI
  have HXX := Lib.hid hx
  clear hsg hz4 hxz hx
  go_enter Tryz.func55, Tryz.ntmps55
  go_wp2_with fail
  refine (HRL.out _).mono ?_; rintro e w' ⟨rfl, rfl⟩
  go_wp2_with fail
  refine (HNU.out _).mono ?_; rintro e w' ⟨rfl, rfl⟩
  go_wp2_with fail
  refine (HSI.out _ (by exact HE.out.below (by repeat (first | exact Below.refl _ _ | refine Below.setCell ?_ (by first | (simp; done) | (simp; omega) | omega) _ | refine below_drewN ?_ _ | refine Below.alloc ?_ (by first | (simp; done) | (simp; omega) | omega) _ | refine Below.trans ?_ (hb.mono (by first | (simp; done) | (simp; omega) | omega)))))).mono ?_; rintro e w' ⟨rfl, rfl⟩
  go_wp2_with fail
  exact bodyPost_ret (v := oneV ⟨4, g, 0, 0⟩ x.size 0) (by simp [results, Tryz.results55, go_sem, oneV, tokV]; exact HXX.out) rfl (oneOf_ok _ _ ((Below.refl _ _).alloc (Nat.le_refl _) _))


theorem first_any (l : List UInt8) (w : World) (he : EnvL w) (hl : l.length ≤ 20000) (hne : l ≠ []) :
    Calls Tryz.prog 55 #[.string ⟨l.toArray⟩] w (OneOf (Lx.first l) w) := by
  unfold Lx.first
  by_cases h1 : 0 < Lx.runN Lx.letter l
  · rw [if_pos h1]; exact first_name l w he hl h1
  rw [if_neg h1]
  by_cases h2 : 0 < Lx.numeral l
  · rw [if_pos h2]; exact first_number l w he hl (by omega) h2
  rw [if_neg h2]
  by_cases h3 : l.getD 0 0 = 34
  · rw [if_pos h3]
    cases l with
    | nil => exact absurd rfl hne
    | cons c t =>
      simp only [List.getD_cons_zero] at h3
      subst h3
      exact first_quoted (34 :: t) t w he hl (by omega) (by omega) rfl
  rw [if_neg h3]
  by_cases h4 : Lx.sgn l = []
  · rw [if_pos h4]; exact first_none l w he hl (by omega) (by omega) h3 hne h4
  · rw [if_neg h4]; exact first_sign l w he hl (by omega) (by omega) h3 hne h4
end Go.Proofs.YtmfbnlaohlnljaaGreatDoor
