/-
  Contracts of package lex: Same; slices of tokens.
-/
import Derived.Test.YtcgiibjkonleeaaGreatDoorLxN
namespace Go.Proofs.YtcgiibjkonleeaaGreatDoor
open Go.RowKit

/-- A token as it lies in memory. -/
structure Tv where
  k : Int
  t : ByteArray
  p : Int
  q : Int
  a : Int
  c : Int
def TokAt (w : World) (E : Addr) (x : Tv) : Prop :=
  w.cell? E = some (.int .i64 x.k) ∧ w.cell? ⟨E.block, E.off + 1, none⟩ = some (.string x.t) ∧ w.cell? ⟨E.block, E.off + 2, none⟩ = some (.int .i64 x.p) ∧ w.cell? ⟨E.block, E.off + 3, none⟩ = some (.int .i64 x.q) ∧
  w.cell? ⟨E.block, E.off + 4, none⟩ = some (.int .i64 x.a) ∧ w.cell? ⟨E.block, E.off + 5, none⟩ = some (.int .i64 x.c)
/-- A slice of tokens, below block B. -/
def TokSl (w : World) (B : Nat) (A : Option Addr) (l : List Tv) : Prop :=
  0 < l.length → ∃ ad, A = some ad ∧ ad.block < B ∧ ∀ j x, l[j]? = some x → TokAt w (ad.add (j * 6)) x
theorem block_of_add (a : Addr) (n : Nat) : (a.add n).block = a.block := by unfold Addr.add; split <;> rfl
theorem TokAt.keep {w w' : World} {E : Addr} {x : Tv} (h : TokAt w E x) (hk : ∀ p : Addr, p.block = E.block → w'.cell? p = w.cell? p) : TokAt w' E x := by
  obtain ⟨h0, h1, h2, h3, h4, h5⟩ := h
  exact ⟨(hk E rfl).trans h0, (hk ⟨_, _, none⟩ rfl).trans h1, (hk ⟨_, _, none⟩ rfl).trans h2, (hk ⟨_, _, none⟩ rfl).trans h3, (hk ⟨_, _, none⟩ rfl).trans h4, (hk ⟨_, _, none⟩ rfl).trans h5⟩
theorem TokAt.below {w w' : World} {B : Nat} {E : Addr} {x : Tv} (h : TokAt w E x) (hb : Below B w w') (hB : E.block < B) : TokAt w' E x :=
  h.keep fun p hp => hb.cell (by omega)
theorem TokSl.below {w w' : World} {B : Nat} {A : Option Addr} {l : List Tv} (h : TokSl w B A l) (hb : Below B w w') : TokSl w' B A l := fun hn => by
  obtain ⟨ad, e, hB, hc⟩ := h hn
  exact ⟨ad, e, hB, fun j x hj => (hc j x hj).below hb (by rw [block_of_add]; exact hB)⟩
theorem TokSl.more {w : World} {B B' : Nat} {A : Option Addr} {l : List Tv} (h : TokSl w B A l) (hB : B ≤ B') : TokSl w B' A l := fun hn => by
  obtain ⟨ad, e, hb, hc⟩ := h hn
  exact ⟨ad, e, by omega, hc⟩

/-- Are two tokens the same, but for their positions? -/
def sameTv (x y : Tv) : Bool := decide (x.k = y.k ∧ x.t = y.t ∧ x.p = y.p ∧ x.q = y.q)
def sameTvs : List Tv → List Tv → Bool
  | [], [] => true
  | x :: l, y :: m => sameTv x y && sameTvs l m
  | _, _ => false
theorem sameTvs_iff : ∀ (l m : List Tv), sameTvs l m = true ↔ (l.length = m.length ∧ ∀ (i : Nat) (x y : Tv), l[i]? = some x → m[i]? = some y → sameTv x y = true)
  | [], [] => by simp [sameTvs]
  | [], _ :: _ => by simp [sameTvs]
  | _ :: _, [] => by simp [sameTvs]
  | x :: l, y :: m => by
    simp only [sameTvs, Bool.and_eq_true, sameTvs_iff l m, List.length_cons]
    constructor
    · rintro ⟨h1, h2, h3⟩
      refine ⟨by omega, fun i a b ha hb => ?_⟩
      cases i with
      | zero => simp at ha hb; subst ha hb; exact h1
      | succ i => exact h3 i a b (by simpa using ha) (by simpa using hb)
    · rintro ⟨h2, h3⟩
      exact ⟨h3 0 x y rfl rfl, by omega, fun i a b ha hb => h3 (i + 1) a b (by simpa using ha) (by simpa using hb)⟩

set_option maxRecDepth 100000 in
set_option maxHeartbeats 8000000 in
theorem same_any (A1 A2 : Option Addr) (c1 c2 : Nat) (l m : List Tv) (w : World) (h1 : TokSl w w.heap.size A1 l) (h2 : TokSl w w.heap.size A2 m) (hl : l.length ≤ 1000000000) :
    Calls Tryz.prog 15 #[.slice A1 l.length c1, .slice A2 m.length c2] w fun e w' => e = .returned (.bool (sameTvs l m)) ∧ Below w.heap.size w w' := by
  obtain ⟨b, hb⟩ : ∃ b, b = sameTvs l m := ⟨_, rfl⟩
  rw [← hb]
  have H1 := Lib.hid h1
  have H2 := Lib.hid h2
  by_cases hn : l.length = m.length
  case neg =>
    have hb2 : b = false := by
      rw [hb]; cases hs : sameTvs l m
      · rfl
      · exact absurd ((sameTvs_iff l m).1 hs).1 hn
    subst hb2
    have hn2 : ((l.length : Int) == (m.length : Int)) = false := by simp; omega
    have hn3 : ((l.length : Int) != (m.length : Int)) = true := by simp; omega
    clear h1 h2 hb
    go_enter Tryz.func15, Tryz.ntmps15
    go_wp2_with fail
    go_ret
    exact ⟨rfl, Below.refl _ _⟩
  have HM : Hid (m.length = l.length) := hn.symm
  rw [← hn]
  generalize hL : l.length = n at *
  have HL := Lib.hid hL
  have HB := Lib.hid hb
  have n2 : ((n : Int) == (n : Int)) = true := by simp
  clear h1 h2 hb hL hn
  go_enter Tryz.func15, Tryz.ntmps15
  go_wp2_with fail
  go_loopw [14] (fun v wr => ∃ k : Nat, v = .int .i64 k ∧ k ≤ n ∧ Hid (∀ i x y, i < k → l[i]? = some x → m[i]? = some y → sameTv x y = true) ∧ Below w.heap.size w wr) (fun v _ => n - (intOf v).toNat)
  case atStart => exact ⟨0, rfl, by omega, fun i x y h => by omega, Below.refl _ _⟩
  case round =>
    obtain ⟨k, rfl, hk, hs, hB⟩ := hrel
    by_cases hlt : k < n
    · obtain ⟨ad1, rfl, hb1, at1⟩ := H1.out (by rw [HL.out]; omega)
      obtain ⟨ad2, rfl, hb2, at2⟩ := H2.out (by rw [HM.out]; omega)
      have hx : l[k]? = some (l[k]'(by rw [HL.out]; exact hlt)) := List.getElem?_eq_getElem _
      have hy : m[k]? = some (m[k]'(by rw [HM.out]; exact hlt)) := List.getElem?_eq_getElem _
      generalize l[k]'(by rw [HL.out]; exact hlt) = x at hx
      generalize m[k]'(by rw [HM.out]; exact hlt) = y at hy
      have tx := (at1 k x hx).below hB (by rw [block_of_add]; exact hb1)
      have ty := (at2 k y hy).below hB (by rw [block_of_add]; exact hb2)
      have g1 := block_of_add ad1 (k * 6)
      have g2 := block_of_add ad2 (k * 6)
      obtain ⟨⟨xb, xo, xs⟩, hE1⟩ : ∃ E, ad1.add (k * 6) = E := ⟨_, rfl⟩
      obtain ⟨⟨yb, yo, ys⟩, hE2⟩ : ∃ E, ad2.add (k * 6) = E := ⟨_, rfl⟩
      rw [hE1] at tx g1
      rw [hE2] at ty g2
      obtain ⟨x0, x1, x2, x3, x4, x5⟩ := tx
      simp only at x0 x1 x2 x3 x4 x5 g1
      obtain ⟨y0, y1, y2, y3, y4, y5⟩ := ty
      simp only at y0 y1 y2 y3 y4 y5 g2
      have hsz := hB.size
      have HX := Lib.hid hx
      have HY := Lib.hid hy
      have BB := Lib.hid hB
      have hxb : xb < wr.heap.size := by omega
      have hyb : yb < wr.heap.size := by omega
      clear hx hy at1 at2 g1 g2 hb1 hb2 hB
      have hk0 : (0 : Int) ≤ (k : Int) := by omega
      have hk1 : (k : Int) < (n : Int) := by omega
      have n3 : decide ((k : Int) < (n : Int)) = true := decide_eq_true hk1
      have HK : Hid (k < n) := hlt
      by_cases ek : x.k = y.k
      · by_cases et : x.t = y.t
        · by_cases ep : x.p = y.p
          · by_cases eq : x.q = y.q
            · have hst : Hid (sameTv x y = true) := decide_eq_true ⟨ek, et, ep, eq⟩
              rw [ek] at x0; rw [et] at x1; rw [ep] at x2; rw [eq] at x3
              clear ek et ep eq
              go_wp2_with fail; go_region; go_wp2_with fail; go_region; go_wp2_with fail
              refine ⟨⟨k + 1, by go_num, by omega, ?_, ((BB.out.alloc hsz _).drew).drew⟩, by simp [intOf]; omega⟩
              intro i u v hi hu hv
              by_cases e : i = k
              · subst e
                rw [HX.out] at hu; rw [HY.out] at hv
                injection hu with hu; injection hv with hv
                subst hu hv; exact hst.out
              · exact hs.out i u v (by omega) hu hv
            · have hno : Hid (¬ sameTv x y = true) := fun h => eq (of_decide_eq_true h).2.2.2
              have e4 : (x.q == y.q) = false := by simpa using eq
              rw [ek] at x0; rw [et] at x1; rw [ep] at x2
              clear ek et ep eq
              obtain rfl : b = false := by
                rw [HB.out]
                cases hz : sameTvs l m
                · rfl
                · exact absurd (((sameTvs_iff l m).1 hz).2 k x y HX.out HY.out) hno.out
              clear HB
              go_wp2_with fail; go_region; go_wp2_with fail; go_region; go_wp2_with fail
              go_ret
              exact ⟨rfl, ((BB.out.alloc hsz _).drew).drew⟩
          · have hno : Hid (¬ sameTv x y = true) := fun h => ep (of_decide_eq_true h).2.2.1
            have e4 : (x.p == y.p) = false := by simpa using ep
            rw [ek] at x0; rw [et] at x1
            clear ek et ep
            obtain rfl : b = false := by
              rw [HB.out]
              cases hz : sameTvs l m
              · rfl
              · exact absurd (((sameTvs_iff l m).1 hz).2 k x y HX.out HY.out) hno.out
            clear HB
            go_wp2_with fail; go_region; go_wp2_with fail; go_region; go_wp2_with fail
            go_ret
            exact ⟨rfl, ((BB.out.alloc hsz _).drew).drew⟩
        · have hno : Hid (¬ sameTv x y = true) := fun h => et (of_decide_eq_true h).2.1
          have e4 : (x.t.toList == y.t.toList) = false := by
            rw [Lib.toList_data, Lib.toList_data]; simp only [beq_eq_false_iff_ne, ne_eq]; intro h; exact et (by rw [ba_list x.t, ba_list y.t, h])
          rw [ek] at x0
          clear ek et
          obtain rfl : b = false := by
            rw [HB.out]
            cases hz : sameTvs l m
            · rfl
            · exact absurd (((sameTvs_iff l m).1 hz).2 k x y HX.out HY.out) hno.out
          clear HB
          go_wp2_with fail; go_region; go_wp2_with fail; go_region; go_wp2_with fail
          go_ret
          exact ⟨rfl, ((BB.out.alloc hsz _).drew).drew⟩
      · have hno : Hid (¬ sameTv x y = true) := fun h => ek (of_decide_eq_true h).1
        have e4 : (x.k == y.k) = false := by simpa using ek
        clear ek
        obtain rfl : b = false := by
          rw [HB.out]
          cases hz : sameTvs l m
          · rfl
          · exact absurd (((sameTvs_iff l m).1 hz).2 k x y HX.out HY.out) hno.out
        clear HB
        go_wp2_with fail; go_region; go_wp2_with fail; go_region; go_wp2_with fail
        go_ret
        exact ⟨rfl, ((BB.out.alloc hsz _).drew).drew⟩
    · have hbt : b = true := by
        rw [HB.out]; refine (sameTvs_iff l m).2 ⟨by rw [HL.out, HM.out], fun i u v hu hv => hs.out i u v ?_ hu hv⟩
        have := (List.getElem?_eq_some_iff.1 hu).1
        have := HL.out
        omega
      subst hbt
      clear HB
      go_wp2_with fail
      go_ret
      exact ⟨rfl, hB⟩
end Go.Proofs.YtcgiibjkonleeaaGreatDoor
