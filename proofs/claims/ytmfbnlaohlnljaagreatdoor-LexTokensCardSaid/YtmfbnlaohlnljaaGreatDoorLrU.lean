/-
  Contracts of the reference of layer 3: tokens that are equal, also in their positions.
  The walk of LexTokens: it returns true at any string.
-/
import Derived.Test.YtmfbnlaohlnljaaGreatDoorLrE
import Derived.Test.YtmfbnlaohlnljaaGreatDoorLrT
import Derived.Test.YtmfbnlaohlnljaaGreatDoorLxS
namespace Go.Proofs.YtmfbnlaohlnljaaGreatDoor
open Go.RowKit

set_option maxRecDepth 100000 in
set_option maxHeartbeats 8000000 in
/-- Rows of the same tokens are equal. -/
theorem requal_any (A1 A2 : Option Addr) (c1 c2 : Nat) (l : List Tv) (w : World) (h1 : TokSl w w.heap.size A1 l) (h2 : TokSl w w.heap.size A2 l) (hl : l.length ≤ 1000000000) :
    Calls Tryz.prog 12 #[.slice A1 l.length c1, .slice A2 l.length c2] w fun e w' => e = .returned (.bool true) ∧ Below w.heap.size w w' := by
  have H1 := Lib.hid h1
  have H2 := Lib.hid h2
  generalize hL : l.length = n at *
  have HL := Lib.hid hL
  have n2 : ((n : Int) == (n : Int)) = true := by simp
  clear h1 h2 hL
  go_enter Tryz.func12, Tryz.ntmps12
  go_wp2_with fail
  go_loopw [13] (fun v wr => ∃ k : Nat, v = .int .i64 k ∧ k ≤ n ∧ Below w.heap.size w wr) (fun v _ => n - (intOf v).toNat)
  case atStart => exact ⟨0, rfl, by omega, Below.refl _ _⟩
  case round =>
    obtain ⟨k, rfl, hk, hB⟩ := hrel
    by_cases hlt : k < n
    · obtain ⟨ad1, rfl, hb1, at1⟩ := H1.out (by rw [HL.out]; omega)
      obtain ⟨ad2, rfl, hb2, at2⟩ := H2.out (by rw [HL.out]; omega)
      have hx : l[k]? = some (l[k]'(by rw [HL.out]; exact hlt)) := List.getElem?_eq_getElem _
      generalize l[k]'(by rw [HL.out]; exact hlt) = x at hx
      have tx := (at1 k x hx).below hB (by rw [block_of_add]; exact hb1)
      have ty := (at2 k x hx).below hB (by rw [block_of_add]; exact hb2)
      have g1 := block_of_add ad1 (k * 6)
      have g2 := block_of_add ad2 (k * 6)
      obtain ⟨⟨xb, xo, xs⟩, hE1⟩ : ∃ E, ad1.add (k * 6) = E := ⟨_, rfl⟩
      obtain ⟨⟨yb, yo, ys⟩, hE2⟩ : ∃ E, ad2.add (k * 6) = E := ⟨_, rfl⟩
      rw [hE1] at tx g1
      rw [hE2] at ty g2
      obtain ⟨x0, x1, x2, x3, x4, x5⟩ := tx
      simp only at x0 x1 x2 x3 x4 x5 g1
      obtain ⟨y0, y1, y2, y3, y4, y5⟩ := ty
      simp only at y0 y1 y2 y3 y4 y5 g2
      have hsz := hB.size
      have BB := Lib.hid hB
      have hxb : xb < wr.heap.size := by omega
      have hyb : yb < wr.heap.size := by omega
      clear hx at1 at2 g1 g2 hb1 hb2 hB
      have hk0 : (0 : Int) ≤ (k : Int) := by omega
      have hk1 : (k : Int) < (n : Int) := by omega
      go_wp2_with fail
      go_quiet (fail)
      go_wp2_with fail
      exact ⟨⟨k + 1, by go_num, by omega, below_drewN BB.out _⟩, by simp [intOf]; omega⟩
    · go_wp2_with fail
      go_ret
      exact ⟨rfl, hB⟩
end Go.Proofs.YtmfbnlaohlnljaaGreatDoor

namespace Go.Proofs.YtmfbnlaohlnljaaGreatDoor
open Go.RowKit

def resTv : Lx.Res → List Tv
  | .ok l => l.map Tv.of
  | .bad _ _ _ _ => []
/-- What Tokens leaves, as the law reads it. -/
def TokRead (R : Lx.Res) (c : Int) (nm : List UInt8) (x y : Int) (w : World) (e : Ending) (w' : World) : Prop :=
  ∃ A k, e = .returned (.tuple #[.slice A (resTv R).length k, .agg #[.int .i64 c, .string ⟨nm.toArray⟩, .int .i64 x, .int .i64 y]]) ∧ TokSl w' w'.heap.size A (resTv R) ∧ Below w.heap.size w w'
theorem resTv_len (R : Lx.Res) (w : World) (e : Ending) (w' : World) (h : TokensOf R w e w') : (resTv R).length ≤ 20000 := by
  cases R with
  | ok l => obtain ⟨-, v, -, -, h3⟩ := h; simpa [resTv] using h3
  | bad c nm a b => simp [resTv]
theorem tok_read (R : Lx.Res) : ∃ c nm x y, ∀ w e w', TokensOf R w e w' → TokRead R c nm x y w e w' ∧ (resTv R).length ≤ 20000 := by
  cases R with
  | ok l =>
    refine ⟨0, [], 0, 0, fun w e w' h => ⟨?_, resTv_len _ _ _ _ h⟩⟩
    obtain ⟨hb, v, rfl, h2, h3⟩ := h
    obtain ⟨A, k, rfl, h4, -, -⟩ := h2.sl
    exact ⟨A, k, by simp [resTv, faultV], h4, hb⟩
  | bad c nm a b =>
    refine ⟨c, nm, a, b, fun w e w' h => ⟨?_, resTv_len _ _ _ _ h⟩⟩
    obtain ⟨hb, rfl⟩ := h
    exact ⟨none, 0, rfl, fun hn => by simp [resTv] at hn, hb⟩

set_option maxRecDepth 100000 in
set_option maxHeartbeats 4000000 in
theorem ltokens_run (s : ByteArray) (R : Lx.Res) (w : World) (he : EnvL w) (ws : s.size ≤ maxLen) (hs : s.size ≤ 3000 ∨ 20000 < s.size)
    (h1 : ∀ W, EnvL W → Calls Tryz.prog 10 #[.string s] W (TokensOf R W)) (h2 : ∀ W, EnvL W → Calls Tryz.prog 11 #[.string s] W (TokensOf R W)) :
    Calls Tryz.prog 3 #[.string s] w fun e w' => e = .returned (.bool true) ∧ Below w.heap.size w w' := by
  unfold maxLen at ws
  obtain ⟨c, nm, x, y, hR⟩ := tok_read R
  have C1 := Lib.hid (fun W (hW : EnvL W) => (h1 W hW).mono (hR W))
  have C2 := Lib.hid (fun W (hW : EnvL W) => (h2 W hW).mono (hR W))
  have HE := Lib.hid he
  have HA := Lib.hid (fun W (hW : EnvL W) => lawake_any W hW)
  have HQ := Lib.hid (fun (A1 A2 : Option Addr) (c1 c2 : Nat) (W : World) (a : TokSl W W.heap.size A1 (resTv R)) (b : TokSl W W.heap.size A2 (resTv R)) (h : (resTv R).length ≤ 1000000000) => requal_any A1 A2 c1 c2 (resTv R) W a b h)
  obtain ⟨NM, hNM⟩ : ∃ NM : ByteArray, NM = ⟨nm.toArray⟩ := ⟨_, rfl⟩
  unfold TokRead at C1 C2
  rw [← hNM] at C1 C2
  generalize resTv R = L at C1 C2 HQ
  clear he h1 h2 hR hNM
  rcases hs with hs | hs
  · go_enter Tryz.func3, Tryz.ntmps3
    go_wp2_with fail
    (refine (C1.out _ HE.out).mono ?_; rintro e w1 ⟨⟨A1, k1, rfl, sl1, hb1⟩, hlen⟩; have B1 := Lib.hid (hb1.alloc hb1.size (.cells #[.int .i64 c, .string NM, .int .i64 x, .int .i64 y] 26)); have K1 := Lib.hid (heap_alloc_new w1 (.cells #[.int .i64 c, .string NM, .int .i64 x, .int .i64 y] 26)); have hz1 := hb1.size; have S1 := Lib.hid sl1; have HLEN := Lib.hid hlen; clear sl1 hb1 hlen; go_wp2_with fail; refine (C2.out _ (HE.out.below B1.out)).mono ?_; rintro e w2 ⟨⟨A2, k2, rfl, sl2, hb2⟩, -⟩)
    have B2 := Lib.hid (B1.out.trans (hb2.mono B1.out.size))
    have S2 := Lib.hid sl2
    have S1' := Lib.hid ((S1.out.below (((Below.refl _ _).alloc (Nat.le_refl _) (.cells #[.int .i64 c, .string NM, .int .i64 x, .int .i64 y] 26)).trans (hb2.mono (by simp)))).more (show w1.heap.size ≤ w2.heap.size by have := hb2.size; simp at this; omega))
    have K1' := Lib.hid ((hb2.block w1.heap.size (by simp)).trans K1.out)
    have K2 := Lib.hid (heap_alloc_new w2 (.cells #[.int .i64 c, .string NM, .int .i64 x, .int .i64 y] 26))
    clear sl2 hb2
    go_wp2_with fail
    refine (HQ.out A1 A2 k1 k2 _ ((S1'.out.below (Below.alloc (Below.refl w2.heap.size w2) (Nat.le_refl _) _)).more (by simp)) ((S2.out.below (Below.alloc (Below.refl w2.heap.size w2) (Nat.le_refl _) _)).more (by simp)) (by have := HLEN.out; omega)).mono ?_; rintro e w3 ⟨rfl, hb3⟩
    have BB := Lib.hid ((B2.out.alloc B2.out.size (.cells #[.int .i64 c, .string NM, .int .i64 x, .int .i64 y] 26)).trans (hb3.mono (by have := B2.out.size; simp; omega)))
    obtain ⟨⟨p0, p1, p2, p3⟩, -, pl⟩ := blk4 ((hb3.block w1.heap.size (by have := S1'.out; have := (Array.getElem?_eq_some_iff.1 K1'.out).1; simp; omega)).trans (blk_alloc K1'.out (.cells #[.int .i64 c, .string NM, .int .i64 x, .int .i64 y] 26)))
    obtain ⟨⟨q0, q1, q2, q3⟩, -, ql⟩ := blk4 ((hb3.block w2.heap.size (by simp)).trans K2.out)
    clear hb3
    go_wp2_with fail
    refine (HA.out _ (HE.out.below BB.out)).mono ?_; rintro e w4 ⟨rfl, hb⟩
    go_wp2_with fail
    go_ret
    exact ⟨rfl, BB.out.trans (hb.mono BB.out.size)⟩
  · go_enter Tryz.func3, Tryz.ntmps3
    go_wp2_with fail
    (refine (C1.out _ HE.out).mono ?_; rintro e w1 ⟨⟨A1, k1, rfl, sl1, hb1⟩, hlen⟩; have B1 := Lib.hid (hb1.alloc hb1.size (.cells #[.int .i64 c, .string NM, .int .i64 x, .int .i64 y] 26)); have K1 := Lib.hid (heap_alloc_new w1 (.cells #[.int .i64 c, .string NM, .int .i64 x, .int .i64 y] 26)); have hz1 := hb1.size; have S1 := Lib.hid sl1; have HLEN := Lib.hid hlen; clear sl1 hb1 hlen; go_wp2_with fail; refine (C2.out _ (HE.out.below B1.out)).mono ?_; rintro e w2 ⟨⟨A2, k2, rfl, sl2, hb2⟩, -⟩)
    have B2 := Lib.hid (B1.out.trans (hb2.mono B1.out.size))
    have S2 := Lib.hid sl2
    have S1' := Lib.hid ((S1.out.below (((Below.refl _ _).alloc (Nat.le_refl _) (.cells #[.int .i64 c, .string NM, .int .i64 x, .int .i64 y] 26)).trans (hb2.mono (by simp)))).more (show w1.heap.size ≤ w2.heap.size by have := hb2.size; simp at this; omega))
    have K1' := Lib.hid ((hb2.block w1.heap.size (by simp)).trans K1.out)
    have K2 := Lib.hid (heap_alloc_new w2 (.cells #[.int .i64 c, .string NM, .int .i64 x, .int .i64 y] 26))
    clear sl2 hb2
    go_wp2_with fail
    refine (HQ.out A1 A2 k1 k2 _ ((S1'.out.below (Below.alloc (Below.refl w2.heap.size w2) (Nat.le_refl _) _)).more (by simp)) ((S2.out.below (Below.alloc (Below.refl w2.heap.size w2) (Nat.le_refl _) _)).more (by simp)) (by have := HLEN.out; omega)).mono ?_; rintro e w3 ⟨rfl, hb3⟩
    have BB := Lib.hid ((B2.out.alloc B2.out.size (.cells #[.int .i64 c, .string NM, .int .i64 x, .int .i64 y] 26)).trans (hb3.mono (by have := B2.out.size; simp; omega)))
    obtain ⟨⟨p0, p1, p2, p3⟩, -, pl⟩ := blk4 ((hb3.block w1.heap.size (by have := S1'.out; have := (Array.getElem?_eq_some_iff.1 K1'.out).1; simp; omega)).trans (blk_alloc K1'.out (.cells #[.int .i64 c, .string NM, .int .i64 x, .int .i64 y] 26)))
    obtain ⟨⟨q0, q1, q2, q3⟩, -, ql⟩ := blk4 ((hb3.block w2.heap.size (by simp)).trans K2.out)
    clear hb3
    go_wp2_with fail
    refine (HA.out _ (HE.out.below BB.out)).mono ?_; rintro e w4 ⟨rfl, hb⟩
    go_wp2_with fail
    go_ret
    exact ⟨rfl, BB.out.trans (hb.mono BB.out.size)⟩
set_option maxHeartbeats 1000000 in
theorem ltokens_mid (s : ByteArray) (w : World) (he : EnvL w) (h1 : 3000 < s.size) (h2 : s.size ≤ 20000) :
    Calls Tryz.prog 3 #[.string s] w fun e w' => e = .returned (.bool true) ∧ Below w.heap.size w w' := by
  have HA := Lib.hid (lawake_any w he)
  clear he
  go_enter Tryz.func3, Tryz.ntmps3
  go_wp2_with fail
  refine HA.out.mono ?_; rintro e w1 ⟨rfl, hb⟩
  go_wp2_with fail
  go_ret
  exact ⟨rfl, hb⟩
theorem ltokens_any (s : ByteArray) (w : World) (he : EnvL w) (ws : s.size ≤ maxLen) :
    Calls Tryz.prog 3 #[.string s] w fun e w' => e = .returned (.bool true) ∧ Below w.heap.size w w' := by
  by_cases h1 : s.size ≤ 3000
  · have hn : s.data.toList.length = s.size := Lib.size_eq s
    refine ltokens_run s (Lx.toks s.data.toList (1, 1)) w he ws (Or.inl h1) (fun W hW => ?_) (fun W _ => ?_)
    · have := tokens_any s.data.toList W hW (by omega)
      rwa [← ba_list s] at this
    · have := rtokens_any s.data.toList W (by omega)
      rwa [← ba_list s] at this
  · by_cases h2 : s.size ≤ 20000
    · exact ltokens_mid s w he (by omega) h2
    · exact ltokens_run s (.bad 3 [] 0 0) w he ws (Or.inr (by omega)) (fun W _ => tokens_long s W (by omega) ws) (fun W _ => rtokens_long s W (by omega) ws)
end Go.Proofs.YtmfbnlaohlnljaaGreatDoor
