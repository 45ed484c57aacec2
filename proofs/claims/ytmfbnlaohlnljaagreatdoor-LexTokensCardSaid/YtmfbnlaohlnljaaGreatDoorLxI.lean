/-
  Contracts of package lex: the reader goes past a token.
-/
import Derived.Test.YtmfbnlaohlnljaaGreatDoorLxH
import Derived.BigRegion
namespace Go.Proofs.YtmfbnlaohlnljaaGreatDoor
open Go.RowKit

def faultV (e : Int) (nm : List UInt8) (ln cl : Int) : Value := .agg #[.int .i64 e, .string ⟨nm.toArray⟩, .int .i64 ln, .int .i64 cl]

theorem blk_new2 (w : World) (o1 o2 : Obj) : ((w.alloc o1).alloc o2).heap[w.heap.size + 1]? = some o2 := by
  have := heap_alloc_new (w.alloc o1) o2
  rwa [show (w.alloc o1).heap.size = w.heap.size + 1 by simp] at this
theorem far6 {w : World} {b b' : Nat} (hne : b' ≠ b) (v0 v1 v2 v3 v4 v5 : Value) :
    ((((((w.setCell ⟨b, 0, none⟩ v0).setCell ⟨b, 1, none⟩ v1).setCell ⟨b, 2, none⟩ v2).setCell ⟨b, 3, none⟩ v3).setCell ⟨b, 4, none⟩ v4).setCell ⟨b, 5, none⟩ v5).heap[b']? = w.heap[b']? :=
  (Below.heap_setCell _ ⟨b, 5, none⟩ _ _ hne).trans ((Below.heap_setCell _ ⟨b, 4, none⟩ _ _ hne).trans ((Below.heap_setCell _ ⟨b, 3, none⟩ _ _ hne).trans ((Below.heap_setCell _ ⟨b, 2, none⟩ _ _ hne).trans ((Below.heap_setCell _ ⟨b, 1, none⟩ _ _ hne).trans (Below.heap_setCell _ ⟨b, 0, none⟩ _ _ hne)))))
theorem far4 {w : World} {b b' : Nat} (hne : b' ≠ b) (v0 v1 v2 v3 : Value) :
    ((((w.setCell ⟨b, 0, none⟩ v0).setCell ⟨b, 1, none⟩ v1).setCell ⟨b, 2, none⟩ v2).setCell ⟨b, 3, none⟩ v3).heap[b']? = w.heap[b']? :=
  (Below.heap_setCell _ ⟨b, 3, none⟩ _ _ hne).trans ((Below.heap_setCell _ ⟨b, 2, none⟩ _ _ hne).trans ((Below.heap_setCell _ ⟨b, 1, none⟩ _ _ hne).trans (Below.heap_setCell _ ⟨b, 0, none⟩ _ _ hne)))
theorem grown_far {a w : World} {r : Option Nat} (h : a.grownBy w r) {g i : Nat} (hp : a.heap.size ≤ g) (v : Value) : a.grownBy (w.setCell ⟨g, i, none⟩ v) r :=
  ⟨h.os, h.tape, h.output, by simpa [World.setCell] using h.size, fun j hj hn => (Below.heap_setCell w ⟨g, i, none⟩ v j (fun e => by simp only at e; omega)).trans (h.block j hj hn)⟩
theorem grown6 {a w : World} {r : Option Nat} (h : a.grownBy w r) {b : Nat} (hb : a.heap.size ≤ b) (v0 v1 v2 v3 v4 v5 : Value) :
    a.grownBy ((((((w.setCell ⟨b, 0, none⟩ v0).setCell ⟨b, 1, none⟩ v1).setCell ⟨b, 2, none⟩ v2).setCell ⟨b, 3, none⟩ v3).setCell ⟨b, 4, none⟩ v4).setCell ⟨b, 5, none⟩ v5) r :=
  grown_far (grown_far (grown_far (grown_far (grown_far (grown_far h hb _) hb _) hb _) hb _) hb _) hb _
theorem grown4 {a w : World} {r : Option Nat} (h : a.grownBy w r) {b : Nat} (hb : a.heap.size ≤ b) (v0 v1 v2 v3 : Value) :
    a.grownBy ((((w.setCell ⟨b, 0, none⟩ v0).setCell ⟨b, 1, none⟩ v1).setCell ⟨b, 2, none⟩ v2).setCell ⟨b, 3, none⟩ v3) r :=
  grown_far (grown_far (grown_far (grown_far h hb _) hb _) hb _) hb _
theorem blk4b {w : World} {b : Nat} {t : TypeId} {c0 c1 c2 c3 : Value} (h : w.heap[b]? = some (.cells #[c0, c1, c2, c3] t (0, 0))) :
    (w.cell? ⟨b, 0, none⟩ = some c0 ∧ w.cell? ⟨b, 1, none⟩ = some c1 ∧ w.cell? ⟨b, 2, none⟩ = some c2 ∧ w.cell? ⟨b, 3, none⟩ = some c3) ∧
    (w.frozen? ⟨b, 0, none⟩ = false ∧ w.frozen? ⟨b, 1, none⟩ = false ∧ w.frozen? ⟨b, 2, none⟩ = false ∧ w.frozen? ⟨b, 3, none⟩ = false) ∧ b < w.heap.size := blk4 h

set_option maxRecDepth 100000 in
set_option maxHeartbeats 4000000 in
theorem next_bad (o : Lx.One) (b : Nat) (l : List UInt8) (ln cl : Int) (w : World) (he : EnvL w) (h : RdB w b l ln cl) (hl : l.length ≤ 20000) (hn : o.n ≤ l.length)
    (hf : ∀ W, EnvL W → Calls Tryz.prog 55 #[.string ⟨l.toArray⟩] W (OneOf o W)) (hbad : o.e ≠ 0) :
    Calls Tryz.prog 29 #[.pointer (some ⟨b, 0, none⟩)] w fun e w' => e = .returned (.tuple #[tokV ⟨0, [], 0, 0⟩ 0 0, faultV o.e (l.take (min o.n 40)) ln cl]) ∧ Below w.heap.size w w' := by
  have HE := Lib.hid he
  have hx := ext_head l (min o.n 40)
  obtain ⟨s, hs⟩ : ∃ s : ByteArray, s = ⟨l.toArray⟩ := ⟨_, rfl⟩
  have hz : s.size = l.length := by rw [hs]; rfl
  have c0 := h.at_.1
  have hbl := h.lt
  rw [← hs] at hf hx c0
  rw [← hz] at hn hl
  have HX := Lib.hid hx
  have HS := Lib.hid hs
  have hbad2 : (o.e != 0) = true := by simpa using hbad
  have hbad3 : (o.e == 0) = false := by simpa using hbad
  have HH := Lib.hid h
  have HF := Lib.hid hf
  clear hf he hx hs hz h hbad
  go_enter Tryz.func29, Tryz.ntmps29
  go_wp2_with fail
  refine (HF.out _ (by exact HE.out.below (((Below.refl _ _).alloc (Nat.le_refl _) _).alloc (by simp) _))).mono ?_; rintro e w1 ⟨t, rfl, ht, hb⟩
  clear ht
  simp only [oneV, tokV]
  have hB := (((Below.refl w.heap.size w).alloc (Nat.le_refl _) _).alloc (by simp) _).trans (hb.mono (by simp; omega))
  have h2 := (hb.block w.heap.size (by simp; omega)).trans (blk_alloc (heap_alloc_new w _) _)
  have h3 := (hb.block (w.heap.size + 1) (by simp)).trans (blk_new2 w _ _)
  have hr : RdB w1 b l ln cl := (hb.block b (by simp; omega)).trans (blk_alloc (blk_alloc HH.out _) _)
  have hB2 := hB.alloc hB.size (.cells #[.int .i64 t.kind, .string ⟨t.text.toArray⟩, .int .i64 t.p, .int .i64 t.q, .int .i64 0, .int .i64 0] 43)
  have g2 := blk_alloc h2 (.cells #[.int .i64 t.kind, .string ⟨t.text.toArray⟩, .int .i64 t.p, .int .i64 t.q, .int .i64 0, .int .i64 0] 43)
  have g3 := blk_alloc h3 (.cells #[.int .i64 t.kind, .string ⟨t.text.toArray⟩, .int .i64 t.p, .int .i64 t.q, .int .i64 0, .int .i64 0] 43)
  have gr : RdB (w1.alloc (.cells #[.int .i64 t.kind, .string ⟨t.text.toArray⟩, .int .i64 t.p, .int .i64 t.q, .int .i64 0, .int .i64 0] 43)) b l ln cl := blk_alloc hr _
  clear hr h2 h3 hB hb c0
  go_wp2_with fail
  generalize w1.alloc (.cells #[.int .i64 t.kind, .string ⟨t.text.toArray⟩, .int .i64 t.p, .int .i64 t.q, .int .i64 0, .int .i64 0] 43) = W at *
  have G2 := Lib.hid g2
  have G3 := Lib.hid g3
  have BB := Lib.hid hB2
  obtain ⟨⟨z0, z1, z2, z3, z4, z5⟩, ⟨y0, y1, y2, y3, y4, y5⟩, hlt2⟩ := blk6 g2
  obtain ⟨⟨x0, x1, x2, x3⟩, ⟨v0, v1, v2, v3⟩, hlt3⟩ := blk4 g3
  have r0 := gr.at_.1
  rw [← HS.out] at r0
  obtain ⟨-, r1, r2, -, -, -⟩ := gr.at_
  clear g2 g3 gr hB2
  have key : ∀ k : Nat, Hid (s.extract 0 k = ⟨(l.take (min o.n 40)).toArray⟩) → (((((((((((W.setCell ⟨w.heap.size, 0, none⟩ (.int .i64 0)).setCell ⟨w.heap.size, 1, none⟩ (.string ⟨#[]⟩)).setCell ⟨w.heap.size, 2, none⟩ (.int .i64 0)).setCell ⟨w.heap.size, 3, none⟩ (.int .i64 0)).setCell ⟨w.heap.size, 4, none⟩ (.int .i64 0)).setCell ⟨w.heap.size, 5, none⟩ (.int .i64 0)).setCell
      ⟨w.heap.size + 1, 0, none⟩ (.int .i64 o.e)).setCell ⟨w.heap.size + 1, 1, none⟩ (.string (s.extract 0 k))).setCell ⟨w.heap.size + 1, 2, none⟩ (.int .i64 ln)).setCell ⟨w.heap.size + 1, 3, none⟩ (.int .i64 cl)).heap[w.heap.size]? = some (.cells #[.int .i64 0, .string ⟨#[]⟩, .int .i64 0, .int .i64 0, .int .i64 0, .int .i64 0] 43 (0, 0)) ∧
      ((((((((((W.setCell ⟨w.heap.size, 0, none⟩ (.int .i64 0)).setCell ⟨w.heap.size, 1, none⟩ (.string ⟨#[]⟩)).setCell ⟨w.heap.size, 2, none⟩ (.int .i64 0)).setCell ⟨w.heap.size, 3, none⟩ (.int .i64 0)).setCell ⟨w.heap.size, 4, none⟩ (.int .i64 0)).setCell ⟨w.heap.size, 5, none⟩ (.int .i64 0)).setCell
      ⟨w.heap.size + 1, 0, none⟩ (.int .i64 o.e)).setCell ⟨w.heap.size + 1, 1, none⟩ (.string (s.extract 0 k))).setCell ⟨w.heap.size + 1, 2, none⟩ (.int .i64 ln)).setCell ⟨w.heap.size + 1, 3, none⟩ (.int .i64 cl)).heap[w.heap.size + 1]? = some (.cells #[.int .i64 o.e, .string (s.extract 0 k), .int .i64 ln, .int .i64 cl] 26 (0, 0))) := fun k _ =>
    ⟨(far4 (by omega) _ _ _ _).trans (set6 G2.out _ _ _ _ _ _), set4 ((far6 (by omega) _ _ _ _ _ _).trans G3.out) _ _ _ _⟩
  have KEY := Lib.hid key
  clear key
  by_cases h40 : o.n ≤ 40
  · have hm : min (o.n : Int) 40 = o.n := by omega
    have HK : Hid (s.extract 0 o.n = ⟨(l.take (min o.n 40)).toArray⟩) := by have := HX.out; rwa [Nat.min_eq_left h40] at this ⊢
    go_region
    go_wp2_with fail
    obtain ⟨k2, k3⟩ := KEY.out o.n HK
    obtain ⟨⟨a0, a1, a2, a3, a4, a5⟩, -, -⟩ := blk6 k2
    obtain ⟨⟨b0, b1, b2, b3⟩, -, -⟩ := blk4 k3
    exact bodyPost_ret (v := .tuple #[tokV ⟨0, [], 0, 0⟩ 0 0, faultV o.e (l.take (min o.n 40)) ln cl]) (by simp [results, Tryz.results29, go_sem, tokV, faultV, a0, a1, a2, a3, a4, a5, b0, b1, b2, b3]; exact HK.out) rfl ⟨rfl, (below4 (below6 BB.out (Nat.le_refl _) _ _ _ _ _ _) (by omega) _ _ _ _).drew⟩
  · have hm : min (o.n : Int) 40 = 40 := by omega
    have HK : Hid (s.extract 0 40 = ⟨(l.take (min o.n 40)).toArray⟩) := by have := HX.out; rwa [Nat.min_eq_right (by omega)] at this ⊢
    go_region
    go_wp2_with fail
    obtain ⟨k2, k3⟩ := KEY.out 40 HK
    obtain ⟨⟨a0, a1, a2, a3, a4, a5⟩, -, -⟩ := blk6 k2
    obtain ⟨⟨b0, b1, b2, b3⟩, -, -⟩ := blk4 k3
    exact bodyPost_ret (v := .tuple #[tokV ⟨0, [], 0, 0⟩ 0 0, faultV o.e (l.take (min o.n 40)) ln cl]) (by simp [results, Tryz.results29, go_sem, tokV, faultV, a0, a1, a2, a3, a4, a5, b0, b1, b2, b3]; exact HK.out) rfl ⟨rfl, (below4 (below6 BB.out (Nat.le_refl _) _ _ _ _ _ _) (by omega) _ _ _ _).drew⟩

set_option maxRecDepth 100000 in
set_option maxHeartbeats 4000000 in
theorem next_ok (t : Lx.Tk) (n : Nat) (b : Nat) (l : List UInt8) (ln cl : Int) (w : World) (he : EnvL w) (h : Rd w b l (ln, cl)) (_hl : l.length ≤ 20000) (hn : n ≤ l.length)
    (hf : ∀ W, EnvL W → Calls Tryz.prog 55 #[.string ⟨l.toArray⟩] W (OneOf ⟨t, n, 0⟩ W)) :
    Calls Tryz.prog 29 #[.pointer (some ⟨b, 0, none⟩)] w fun e w' => e = .returned (.tuple #[tokV t ln cl, faultV 0 [] 0 0]) ∧ Rd w' b (l.drop n) (Lx.adv (l.take n) (ln, cl)) ∧ w.grownBy w' (some b) := by
  have HE := Lib.hid he
  obtain ⟨s, hs⟩ : ∃ s : ByteArray, s = ⟨l.toArray⟩ := ⟨_, rfl⟩
  have hz : s.size = l.length := by rw [hs]; rfl
  have c0 := h.blk.at_.1
  have hbl := h.blk.lt
  rw [← hs] at hf c0
  have hn0 := Lib.hid hn
  rw [← hz] at hn _hl
  have HS := Lib.hid hs
  have HH := Lib.hid h
  have HF := Lib.hid hf
  clear hf he hs hz h
  go_enter Tryz.func29, Tryz.ntmps29
  go_wp2_with fail
  refine (HF.out _ (by exact HE.out.below (((Below.refl _ _).alloc (Nat.le_refl _) _).alloc (by simp) _))).mono ?_; rintro e w1 ⟨t', rfl, ht, hb⟩
  obtain rfl : t = t' := (ht rfl).symm
  clear ht
  simp only [oneV, tokV]
  have hB := (((Below.refl w.heap.size w).alloc (Nat.le_refl _) _).alloc (by simp) _).trans (hb.mono (by simp; omega))
  have h2 := (hb.block w.heap.size (by simp; omega)).trans (blk_alloc (heap_alloc_new w _) _)
  have h3 := (hb.block (w.heap.size + 1) (by simp)).trans (blk_new2 w _ _)
  have hr : RdB w1 b l ln cl := (hb.block b (by simp; omega)).trans (blk_alloc (blk_alloc HH.out.blk _) _)
  have hsz := hb.size
  simp at hsz
  have BB := Lib.hid hB
  have G2 := Lib.hid h2
  have G3 := Lib.hid h3
  have GR := Lib.hid hr
  obtain ⟨-, r1, r2, -, -, -⟩ := hr.at_
  have hlt := hr.lt
  clear hr h2 h3 hB hb c0
  go_wp2_with fail
  go_region
  go_wp2_with fail
  have gr4 : Rd (w1.alloc (.cells #[.int .i64 t.kind, .string ⟨t.text.toArray⟩, .int .i64 t.p, .int .i64 t.q, .int .i64 ln, .int .i64 cl] 43)).drew b l (ln, cl) :=
    ⟨blk_alloc GR.out _, HH.out.b1, HH.out.b2, HH.out.b3, HH.out.b4⟩
  refine (pass_rd b l (ln, cl) n _ gr4 hn0.out).mono ?_; rintro e w2 ⟨rfl, hr2, hg⟩
  have gB : Hid (w.grownBy w2 (some b)) := grown_trans (grown_of ((BB.out.alloc BB.out.size _).drew) _) hg
  have k4 := (hg.block w1.heap.size (by simp) (by simp; omega)).trans (heap_alloc_new w1 _)
  have k2 := (hg.block w.heap.size (by simp; omega) (by simp; omega)).trans (blk_alloc G2.out _)
  have k3 := (hg.block (w.heap.size + 1) (by simp; omega) (by simp; omega)).trans (blk_alloc G3.out _)
  have HR2 := Lib.hid hr2
  have K2 := Lib.hid k2
  have K3 := Lib.hid k3
  obtain ⟨⟨z0, z1, z2, z3, z4, z5⟩, ⟨y0, y1, y2, y3, y4, y5⟩, hlt2⟩ := blk6 k2
  obtain ⟨⟨x0, x1, x2, x3⟩, ⟨v0, v1, v2, v3⟩, hlt3⟩ := blk4 k3
  obtain ⟨⟨m0, m1, m2, m3, m4, m5⟩, -, hlt4⟩ := blk6 k4
  clear hr2 hg k2 k3 k4 r1 r2 gr4
  go_wp2_with fail
  obtain ⟨⟨a0, a1, a2, a3, a4, a5⟩, -, -⟩ := blk6 ((far4 (b := w.heap.size + 1) (by omega) (.int .i64 0) (.string ⟨#[]⟩) (.int .i64 0) (.int .i64 0)).trans (set6 K2.out (.int .i64 t.kind) (.string ⟨t.text.toArray⟩) (.int .i64 t.p) (.int .i64 t.q) (.int .i64 ln) (.int .i64 cl)))
  obtain ⟨⟨b0, b1, b2, b3⟩, -, -⟩ := blk4 (set4 ((far6 (b := w.heap.size) (by omega) (.int .i64 t.kind) (.string ⟨t.text.toArray⟩) (.int .i64 t.p) (.int .i64 t.q) (.int .i64 ln) (.int .i64 cl)).trans K3.out) (.int .i64 0) (.string ⟨#[]⟩) (.int .i64 0) (.int .i64 0))
  have hfin : RdB _ b (l.drop n) _ _ := (far4 (b := w.heap.size + 1) (by omega) (.int .i64 0) (.string ⟨#[]⟩) (.int .i64 0) (.int .i64 0)).trans ((far6 (b := w.heap.size) (by omega) (.int .i64 t.kind) (.string ⟨t.text.toArray⟩) (.int .i64 t.p) (.int .i64 t.q) (.int .i64 ln) (.int .i64 cl)).trans HR2.out.blk)
  exact bodyPost_ret (v := .tuple #[tokV t ln cl, faultV 0 [] 0 0]) (by simp [results, Tryz.results29, go_sem, tokV, faultV, a0, a1, a2, a3, a4, a5, b0, b1, b2, b3]) rfl
    ⟨rfl, ⟨hfin, HR2.out.b1, HR2.out.b2, HR2.out.b3, HR2.out.b4⟩, grown4 (grown6 gB.out (Nat.le_refl _) _ _ _ _ _ _) (by omega) _ _ _ _⟩
end Go.Proofs.YtmfbnlaohlnljaaGreatDoor
