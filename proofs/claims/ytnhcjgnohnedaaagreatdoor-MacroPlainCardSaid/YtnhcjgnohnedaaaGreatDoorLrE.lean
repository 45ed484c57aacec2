/-
  Contracts of the reference of layer 3: tokens that are the same.
-/
import Derived.Test.YtnhcjgnohnedaaaGreatDoorLrH
import Derived.Test.YtnhcjgnohnedaaaGreatDoorLxP
import Derived.BigQuiet
import Derived.Deep.QuietTactic
namespace Go.Proofs.YtnhcjgnohnedaaaGreatDoor
open Go.RowKit

set_option maxRecDepth 100000 in
set_option maxHeartbeats 8000000 in
theorem rsame_any (A1 A2 : Option Addr) (c1 c2 : Nat) (l m : List Tv) (w : World) (h1 : TokSl w w.heap.size A1 l) (h2 : TokSl w w.heap.size A2 m) (hl : l.length ≤ 1000000000) :
    Calls Tryz.prog 22 #[.slice A1 l.length c1, .slice A2 m.length c2] w fun e w' => e = .returned (.bool (sameTvs l m)) ∧ Below w.heap.size w w' := by
  obtain ⟨b, hb⟩ : ∃ b, b = sameTvs l m := ⟨_, rfl⟩
  rw [← hb]
  have H1 := Lib.hid h1
  have H2 := Lib.hid h2
  by_cases hn : l.length = m.length
  case neg =>
    have hb2 : b = false := by
      rw [hb]; cases hs : sameTvs l m
      · rfl
      · exact absurd ((sameTvs_iff l m).1 hs).1 hn
    subst hb2
    have hn2 : ((l.length : Int) == (m.length : Int)) = false := by simp; omega
    have hn3 : ((l.length : Int) != (m.length : Int)) = true := by simp; omega
    clear h1 h2 hb
    go_enter Tryz.func22, Tryz.ntmps22
    go_wp2_with fail
    go_ret
    exact ⟨rfl, Below.refl _ _⟩
  have HM : Hid (m.length = l.length) := hn.symm
  rw [← hn]
  generalize hL : l.length = n at *
  have HL := Lib.hid hL
  have HB := Lib.hid hb
  have n2 : ((n : Int) == (n : Int)) = true := by simp
  clear h1 h2 hb hL hn
  go_enter Tryz.func22, Tryz.ntmps22
  go_wp2_with fail
  go_loopw [13] (fun v wr => ∃ k : Nat, v = .int .i64 k ∧ k ≤ n ∧ Hid (∀ i x y, i < k → l[i]? = some x → m[i]? = some y → sameTv x y = true) ∧ Below w.heap.size w wr) (fun v _ => n - (intOf v).toNat)
  case atStart => exact ⟨0, rfl, by omega, fun i x y h => by omega, Below.refl _ _⟩
  case round =>
    obtain ⟨k, rfl, hk, hs, hB⟩ := hrel
    by_cases hlt : k < n
    · obtain ⟨ad1, rfl, hb1, at1⟩ := H1.out (by rw [HL.out]; omega)
      obtain ⟨ad2, rfl, hb2, at2⟩ := H2.out (by rw [HM.out]; omega)
      have hx : l[k]? = some (l[k]'(by rw [HL.out]; exact hlt)) := List.getElem?_eq_getElem _
      have hy : m[k]? = some (m[k]'(by rw [HM.out]; exact hlt)) := List.getElem?_eq_getElem _
      generalize l[k]'(by rw [HL.out]; exact hlt) = x at hx
      generalize m[k]'(by rw [HM.out]; exact hlt) = y at hy
      have tx := (at1 k x hx).below hB (by rw [block_of_add]; exact hb1)
      have ty := (at2 k y hy).below hB (by rw [block_of_add]; exact hb2)
      have g1 := block_of_add ad1 (k * 6)
      have g2 := block_of_add ad2 (k * 6)
      obtain ⟨⟨xb, xo, xs⟩, hE1⟩ : ∃ E, ad1.add (k * 6) = E := ⟨_, rfl⟩
      obtain ⟨⟨yb, yo, ys⟩, hE2⟩ : ∃ E, ad2.add (k * 6) = E := ⟨_, rfl⟩
      rw [hE1] at tx g1
      rw [hE2] at ty g2
      obtain ⟨x0, x1, x2, x3, x4, x5⟩ := tx
      simp only at x0 x1 x2 x3 x4 x5 g1
      obtain ⟨y0, y1, y2, y3, y4, y5⟩ := ty
      simp only at y0 y1 y2 y3 y4 y5 g2
      have hsz := hB.size
      have HX := Lib.hid hx
      have HY := Lib.hid hy
      have BB := Lib.hid hB
      have hxb : xb < wr.heap.size := by omega
      have hyb : yb < wr.heap.size := by omega
      clear hx hy at1 at2 g1 g2 hb1 hb2 hB
      have hk0 : (0 : Int) ≤ (k : Int) := by omega
      have hk1 : (k : Int) < (n : Int) := by omega
      have n3 : decide ((k : Int) < (n : Int)) = true := decide_eq_true hk1
      have HK : Hid (k < n) := hlt
      by_cases ek : x.k = y.k
      · by_cases et : x.t = y.t
        · by_cases ep : x.p = y.p
          · by_cases eq : x.q = y.q
            · have hst : Hid (sameTv x y = true) := decide_eq_true ⟨ek, et, ep, eq⟩
              rw [ek] at x0; rw [et] at x1; rw [ep] at x2; rw [eq] at x3
              clear ek et ep eq
              go_wp2_with fail; go_quiet (fail); go_wp2_with fail
              refine ⟨⟨k + 1, by go_num, by omega, ?_, below_drewN BB.out _⟩, by simp [intOf]; omega⟩
              intro i u v hi hu hv
              by_cases e : i = k
              · subst e
                rw [HX.out] at hu; rw [HY.out] at hv
                injection hu with hu; injection hv with hv
                subst hu hv; exact hst.out
              · exact hs.out i u v (by omega) hu hv
            · have hno : Hid (¬ sameTv x y = true) := fun h => eq (of_decide_eq_true h).2.2.2
              have e4 : (x.q == y.q) = false := by simpa using eq
              rw [ek] at x0; rw [et] at x1; rw [ep] at x2
              clear ek et ep eq
              obtain rfl : b = false := by
                rw [HB.out]
                cases hz : sameTvs l m
                · rfl
                · exact absurd (((sameTvs_iff l m).1 hz).2 k x y HX.out HY.out) hno.out
              clear HB
              go_wp2_with fail; go_quiet (fail); go_wp2_with fail
              go_ret
              exact ⟨rfl, below_drewN BB.out _⟩
          · have hno : Hid (¬ sameTv x y = true) := fun h => ep (of_decide_eq_true h).2.2.1
            have e4 : (x.p == y.p) = false := by simpa using ep
            rw [ek] at x0; rw [et] at x1
            clear ek et ep
            obtain rfl : b = false := by
              rw [HB.out]
              cases hz : sameTvs l m
              · rfl
              · exact absurd (((sameTvs_iff l m).1 hz).2 k x y HX.out HY.out) hno.out
            clear HB
            go_wp2_with fail; go_quiet (fail); go_wp2_with fail
            go_ret
            exact ⟨rfl, below_drewN BB.out _⟩
        · have hno : Hid (¬ sameTv x y = true) := fun h => et (of_decide_eq_true h).2.1
          have e4 : (x.t.toList == y.t.toList) = false := by
            rw [Lib.toList_data, Lib.toList_data]; simp only [beq_eq_false_iff_ne, ne_eq]; intro h; exact et (by rw [ba_list x.t, ba_list y.t, h])
          rw [ek] at x0
          clear ek et
          obtain rfl : b = false := by
            rw [HB.out]
            cases hz : sameTvs l m
            · rfl
            · exact absurd (((sameTvs_iff l m).1 hz).2 k x y HX.out HY.out) hno.out
          clear HB
          go_wp2_with fail; go_quiet (fail); go_wp2_with fail
          go_ret
          exact ⟨rfl, below_drewN BB.out _⟩
      · have hno : Hid (¬ sameTv x y = true) := fun h => ek (of_decide_eq_true h).1
        have e4 : (x.k == y.k) = false := by simpa using ek
        have e5 : (x.k != y.k) = true := by simpa using ek
        clear ek
        obtain rfl : b = false := by
          rw [HB.out]
          cases hz : sameTvs l m
          · rfl
          · exact absurd (((sameTvs_iff l m).1 hz).2 k x y HX.out HY.out) hno.out
        clear HB
        go_wp2_with fail; go_quiet (fail); go_wp2_with fail
        go_ret
        exact ⟨rfl, below_drewN BB.out _⟩
    · have hbt : b = true := by
        rw [HB.out]; refine (sameTvs_iff l m).2 ⟨by rw [HL.out, HM.out], fun i u v hu hv => hs.out i u v ?_ hu hv⟩
        have := (List.getElem?_eq_some_iff.1 hu).1
        have := HL.out
        omega
      subst hbt
      clear HB
      go_wp2_with fail
      go_ret
      exact ⟨rfl, hB⟩
end Go.Proofs.YtnhcjgnohnedaaaGreatDoor
