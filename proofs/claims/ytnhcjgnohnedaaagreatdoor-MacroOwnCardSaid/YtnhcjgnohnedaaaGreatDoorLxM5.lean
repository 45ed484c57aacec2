/-
  The chapter's examples hold: awake returns true.
  Contracts of the reference of layer 3: tokens that are equal, also in their positions.
  The mathematics of tokens, further: positions do not matter; parts of a string.
  The mathematics of tokens, further: tokens of two strings with blanks and comments between them.
-/
import Derived.Test.YtnhcjgnohnedaaaGreatDoorLxY
import Derived.Test.YtnhcjgnohnedaaaGreatDoorLrT
import Derived.Test.YtnhcjgnohnedaaaGreatDoorLrE
import Derived.Test.YtnhcjgnohnedaaaGreatDoorShelfS
namespace Go.Proofs.YtnhcjgnohnedaaaGreatDoor
open Go.RowKit Go.Sort
open Go.Proofs (encStr)

/-- What the law's own tokens returns. -/
def MTok (l : List Tv) (w : World) (e : Ending) (w' : World) : Prop := ∃ A c, e = .returned (.slice A l.length c) ∧ TokSl w' w'.heap.size A l ∧ (A = none → c = 0 ∧ l = []) ∧ l.length ≤ c ∧ l.length ≤ 20000 ∧ Below w.heap.size w w'
theorem Toks.cap {w : World} {B : Nat} {A : Option Addr} {n c : Nat} {l : List Lx.Tp} (h : Toks w B (.slice A n c) l) : n ≤ c := by
  rcases h.2 with ⟨e, h0⟩ | ⟨g, cap, cur, e, hB, hg, hn, hc, hs, ht⟩
  · injection e with e1 e2 e3; omega
  · injection e with e1 e2 e3; omega
set_option maxRecDepth 100000 in
set_option maxHeartbeats 1000000 in
theorem mtokens_any (s : List UInt8) (w : World) (hl : s.length ≤ 20000) (hok : tokIs s = true) :
    Calls Tryz.prog 21 #[.string ⟨s.toArray⟩] w (MTok (tvOf s) w) := by
  have hr := rtokens_any s w hl
  rw [tokOf_ok s hok] at hr
  obtain ⟨T, hT⟩ : ∃ T, T = tokOf s := ⟨_, rfl⟩
  obtain ⟨V, hV⟩ : ∃ V, V = tvOf s := ⟨_, rfl⟩
  have hv : T.map Tv.of = V := by rw [hV, hT]; rfl
  rw [← hT] at hr
  rw [← hV]
  obtain ⟨S, hS⟩ : ∃ S : ByteArray, S = ⟨s.toArray⟩ := ⟨_, rfl⟩
  rw [← hS] at hr ⊢
  have HR := Lib.hid hr
  have HV := Lib.hid hv
  clear hr hl hok hT hv hS hV
  go_enter Tryz.func21, Tryz.ntmps21
  go_wp2_with fail
  refine HR.out.mono ?_
  rintro e w1 ⟨hb, v, rfl, ht, hn⟩
  obtain ⟨A, c, rfl, h4, -, h6⟩ := ht.sl
  have hc := ht.cap
  have hm : V.length = T.length := by rw [← HV.out, List.length_map]
  have h7 : A = none → c = 0 ∧ V = [] := fun e => ⟨(h6 e).1, by rw [← HV.out, (h6 e).2]; rfl⟩
  rw [HV.out] at h4
  rw [← hm] at hc hn ⊢
  obtain ⟨n, hn'⟩ : ∃ n, n = V.length := ⟨_, rfl⟩
  rw [← hn'] at hc hn ⊢
  have HN := Lib.hid hn'
  have H4 := Lib.hid h4
  have HB := Lib.hid hb
  have H7 := Lib.hid h7
  clear h4 hb ht h6 h7 hn' hm HR HV
  simp only [faultV]
  go_wp2_with fail
  go_ret
  exact ⟨A, c, by rw [HN.out]; rfl, (H4.out.below ((Below.refl _ _).alloc (Nat.le_refl _) _)).more (by simp), H7.out, by rw [← HN.out]; exact hc, by rw [← HN.out]; exact hn, HB.out.alloc HB.out.size _⟩
theorem own_kind {w : World} {B : Nat} {v : Value} {O : List Tv} (h : TokOwn w B v O) (j : Nat) (k : Int) (hk : kindAt O j = some k) : ∃ g c, v = .slice (some ⟨g, 0, none⟩) O.length c ∧ w.cell? ⟨g, j * 6, none⟩ = some (.int .i64 k) ∧ B ≤ g ∧ g < w.heap.size := by
  unfold kindAt at hk
  cases hy : O[j]? with
  | none => rw [hy] at hk; cases hk
  | some y =>
    rw [hy] at hk
    injection hk with hk
    rcases h.2 with ⟨e, h0⟩ | ⟨g, cap, cur, e, hB, hg, hn, hc, -, ht⟩
    · rw [List.eq_nil_of_length_eq_zero h0] at hy; cases hy
    · refine ⟨g, cap, e, ?_, hB, (Array.getElem?_eq_some_iff.1 hg).1⟩
      subst e
      have := World.ownsRow.cells h (g := g) rfl (j * 6 + 0) (.int .i64 k) (by rw [rowV_get O j y hy 0 (by omega), ← hk]; rfl)
      rwa [addr_row, Nat.add_zero] at this
theorem own_str {w : World} {B : Nat} {v : Value} {L : List (List UInt8)} {x : List UInt8} (h : w.ownsRow B 9 1 v L.length (L.map encStr)) (hx : L[0]? = some x) : ∃ g c, v = .slice (some ⟨g, 0, none⟩) L.length c ∧ w.cell? ⟨g, 0, none⟩ = some (.string ⟨x.toArray⟩) ∧ B ≤ g ∧ g < w.heap.size := by
  rcases h.2 with ⟨e, h0⟩ | ⟨g, cap, cur, e, hB, hg, hn, hc, -, ht⟩
  · rw [List.eq_nil_of_length_eq_zero h0] at hx; cases hx
  · refine ⟨g, cap, e, ?_, hB, (Array.getElem?_eq_some_iff.1 hg).1⟩
    subst e
    have := World.ownsRow.cells h (g := g) rfl 0 (.string ⟨x.toArray⟩) (by rw [List.getElem?_map, hx]; rfl)
    rwa [addr_row] at this
theorem rsame_any' (A1 A2 : Option Addr) (c1 c2 n m : Nat) (l k : List Tv) (w : World) (hn : n = l.length) (hm : m = k.length) (h1 : TokSl w w.heap.size A1 l) (h2 : TokSl w w.heap.size A2 k) (hl : l.length ≤ 1000000000) :
    Calls Tryz.prog 22 #[.slice A1 n c1, .slice A2 m c2] w fun e w' => e = .returned (.bool (sameTvs l k)) ∧ Below w.heap.size w w' := by
  rw [hn, hm]; exact rsame_any A1 A2 c1 c2 l k w h1 h2 hl
/-- Expand of an example. -/
theorem mexp (s : List UInt8) (F : Mx.Flt) (hF : Mx.expandF (tvOf s) = F) (hf : ∀ x ∈ tvOf s, x.fit) (A : Option Addr) (c : Nat) (w : World) (he : EnvL w) (h1 : TokSl w w.heap.size A (tvOf s)) (hc : (tvOf s).length ≤ c) (hl : (tvOf s).length ≤ 20000) :
    Calls Tryz.prog 11 #[.slice A (tvOf s).length c] w fun e w' => ∃ v, e = .returned (.tuple #[v, F.agg]) ∧ TokOwn w' w.heap.size v (Mx.expandO (tvOf s)) ∧ Below w.heap.size w w' := by
  rw [← hF]
  exact expand_any A c _ w he h1 hc (by omega) hf
set_option maxRecDepth 100000 in
set_option maxHeartbeats 8000000 in
/-- The chapter's examples hold. -/
theorem mawake_any (w : World) (he : EnvL w) : Calls Tryz.prog 10 #[] w fun e w' => e = .returned (.bool true) ∧ Below w.heap.size w w' := by
  have HE := Lib.hid he
  have t1 := fun W => mtokens_any mw1 W (by decide) mw1_ok
  have t2 := fun W => mtokens_any mw2 W (by decide) mw2_ok
  have t3 := fun W => mtokens_any mw3 W (by decide) mw3_ok
  have t4 := fun W => mtokens_any mw4 W (by decide) mw4_ok
  have t5 := fun W => mtokens_any mw5 W (by decide) mw5_ok
  have t6 := fun W => mtokens_any mw6 W (by decide) mw6_ok
  have t7 := fun W => mtokens_any mw7 W (by decide) mw7_ok
  have x1 := mexp mw1 _ mx1_f mw1_fit
  have x2 := mexp mw2 _ mx2_f mw2_fit
  have x3 := mexp mw3 _ mx3_f mw3_fit
  have x4 := fun A c W hW h1 (hc : (tvOf mw4).length ≤ c) (hl : (tvOf mw4).length ≤ 20000) => macros_any A c (tvOf mw4) W hW h1 hc (by omega) mw4_fit
  have x5 := fun A c W hW h1 hA (hl : (tvOf mw5).length ≤ 20000) => rename_ok A c (tvOf mw5) ⟨#[97]⟩ ⟨#[98]⟩ W hW h1 hA (by omega) mw5_fit (by unfold maxLen; decide) (by unfold maxLen; decide) mx5_ok
  have s1 := mx1_same
  have s5 := mx5_same
  have k4 := mx2_k4
  have k10 := mx2_k10
  have l1 := mx1_len
  have l2 := mx2_len
  have m4 := mx4_mac
  rw [mx4_f] at x4
  have l5 : (List.map (Mx.rn ⟨#[97]⟩ ⟨#[98]⟩) (tvOf mw5)).length ≤ 1000000000 := by decide +kernel
  generalize tvOf mw1 = T1 at *
  generalize tvOf mw2 = T2 at *
  generalize tvOf mw3 = T3 at *
  generalize tvOf mw4 = T4 at *
  generalize tvOf mw5 = T5 at *
  generalize tvOf mw6 = T6 at *
  generalize tvOf mw7 = T7 at *
  generalize Mx.expandO T1 = O1 at *
  generalize Mx.expandO T2 = O2 at *
  generalize Mx.expandO T3 = O3 at *
  generalize List.map (Mx.rn ⟨#[97]⟩ ⟨#[98]⟩) T5 = O5 at *
  have hem : Mx.str [] = ⟨#[]⟩ := rfl
  simp only [Mx.Flt.agg, Mx.noFlt, hem] at x1 x2 x3 x4
  clear hem
  have C1 := Lib.hid t1
  have C2 := Lib.hid t2
  have C3 := Lib.hid t3
  have C4 := Lib.hid t4
  have C5 := Lib.hid t5
  have C6 := Lib.hid t6
  have C7 := Lib.hid t7
  have X1 := Lib.hid x1
  have X2 := Lib.hid x2
  have X3 := Lib.hid x3
  have X4 := Lib.hid x4
  have X5 := Lib.hid x5
  have S1 := Lib.hid s1
  have S5 := Lib.hid s5
  have K4 := Lib.hid k4
  have K10 := Lib.hid k10
  have L1 := Lib.hid l1
  have L2 := Lib.hid l2
  have M4 := Lib.hid m4
  have L5 := Lib.hid l5
  clear t1 t2 t3 t4 t5 t6 t7 x1 x2 x3 x4 x5 s1 s5 k4 k10 l1 l2 m4 l5 he
  go_enter Tryz.func10, Tryz.ntmps10
  go_wp2_with fail
  refine (C1.out _).mono ?_; rintro e w1 ⟨A1, c1, rfl, ht1, ha1, hc1, hl1, hb1⟩
  have B1 := Lib.hid hb1
  have TT1 := Lib.hid ht1
  clear ha1 hb1 ht1
  go_wp2_with fail
  refine (X1.out A1 c1 _ (HE.out.below B1.out) TT1.out hc1 hl1).mono ?_; rintro e w2 ⟨v1, rfl, hv1, hb2⟩
  have B2 := Lib.hid (B1.out.trans (hb2.mono B1.out.size))
  obtain ⟨P1, d1, rfl, hs1⟩ := hv1.sl
  obtain ⟨n1, hn1⟩ : ∃ n1, n1 = O1.length := ⟨_, rfl⟩
  rw [← hn1]
  have HN1 := Lib.hid hn1
  have SL1 := Lib.hid (hs1.below (heap_new_b w2 (.cells #[.int .i64 0, .string ⟨#[]⟩, .int .i64 0, .int .i64 0] 27) _ (Nat.le_refl _)))
  have B3 := Lib.hid (B2.out.alloc B2.out.size (.cells #[.int .i64 0, .string ⟨#[]⟩, .int .i64 0, .int .i64 0] 27))
  have K1 := Lib.hid (heap_alloc_new w2 (.cells #[.int .i64 0, .string ⟨#[]⟩, .int .i64 0, .int .i64 0] 27))
  have D1 := Lib.hid (Below.refl (w2.alloc (.cells #[.int .i64 0, .string ⟨#[]⟩, .int .i64 0, .int .i64 0] 27)).heap.size (w2.alloc (.cells #[.int .i64 0, .string ⟨#[]⟩, .int .i64 0, .int .i64 0] 27)))
  clear hv1 hb2 hc1 hl1 hs1 hn1 TT1
  go_wp2_with fail
  obtain ⟨V1, hV1⟩ : ∃ V1, w2.alloc (.cells #[.int .i64 0, .string ⟨#[]⟩, .int .i64 0, .int .i64 0] 27) = V1 := ⟨_, rfl⟩
  have hz1 : V1.heap.size = w2.heap.size + 1 := by rw [← hV1]; simp
  rw [hV1] at SL1 B3 K1 D1 ⊢
  have SL1 : Hid (TokSl V1 V1.heap.size P1 O1) := Lib.hid (SL1.out.more (by omega))
  clear hV1
  refine (C2.out _).mono ?_; rintro e w3 ⟨A2, c2, rfl, ht2, -, hc2, hl2, hb2⟩
  have B4 := Lib.hid (B3.out.trans (hb2.mono B3.out.size))
  have D2 := Lib.hid hb2
  have TT2 := Lib.hid ht2
  clear hb2 ht2
  go_wp2_with fail
  refine (X2.out A2 c2 _ (HE.out.below B4.out) TT2.out hc2 hl2).mono ?_; rintro e w4 ⟨v2, rfl, hv2, hb2⟩
  have B5 := Lib.hid (B4.out.trans (hb2.mono B4.out.size))
  have D2 := Lib.hid (D2.out.trans (hb2.mono D2.out.size))
  obtain ⟨g2, d2, rfl, q4, hg2, hg2'⟩ := own_kind hv2 4 0 K4.out
  obtain ⟨g2', d2', e2, q10, -, -⟩ := own_kind hv2 10 1 K10.out
  injection e2 with e2 e3 e4
  injection e2 with e2
  injection e2 with e2
  subst e2 e4
  rw [L2.out]
  have Q4 : Hid (w4.cell? ⟨g2, 24, none⟩ = some (.int .i64 0)) := Lib.hid q4
  have Q10 : Hid (w4.cell? ⟨g2, 60, none⟩ = some (.int .i64 1)) := Lib.hid q10
  have B6 := Lib.hid (B5.out.alloc B5.out.size (.cells #[.int .i64 0, .string ⟨#[]⟩, .int .i64 0, .int .i64 0] 27))
  have D2 := Lib.hid (D2.out.alloc D2.out.size (.cells #[.int .i64 0, .string ⟨#[]⟩, .int .i64 0, .int .i64 0] 27))
  have K2 := Lib.hid (heap_alloc_new w4 (.cells #[.int .i64 0, .string ⟨#[]⟩, .int .i64 0, .int .i64 0] 27))
  have Q4 : Hid ((w4.alloc (.cells #[.int .i64 0, .string ⟨#[]⟩, .int .i64 0, .int .i64 0] 27)).cell? ⟨g2, 24, none⟩ = some (.int .i64 0)) := Lib.hid (by rw [World.cell?_alloc_lt _ _ _ (by simpa using hg2')]; exact Q4.out)
  have Q10 : Hid ((w4.alloc (.cells #[.int .i64 0, .string ⟨#[]⟩, .int .i64 0, .int .i64 0] 27)).cell? ⟨g2, 60, none⟩ = some (.int .i64 1)) := Lib.hid (by rw [World.cell?_alloc_lt _ _ _ (by simpa using hg2')]; exact Q10.out)
  clear hv2 hb2 hc2 hl2 q4 q10 e3 TT2 B4 B5
  go_wp2_with fail
  obtain ⟨V2, hV2⟩ : ∃ V2, w4.alloc (.cells #[.int .i64 0, .string ⟨#[]⟩, .int .i64 0, .int .i64 0] 27) = V2 := ⟨_, rfl⟩
  have hz2 : V2.heap.size = w4.heap.size + 1 := by rw [← hV2]; simp
  rw [hV2] at B6 D2 K2 Q4 Q10 ⊢
  clear hV2
  refine (C3.out _).mono ?_; rintro e w5 ⟨A3, c3, rfl, ht3, -, hc3, hl3, hb3⟩
  have B7 := Lib.hid (B6.out.trans (hb3.mono B6.out.size))
  have D3 := Lib.hid hb3
  have TT3 := Lib.hid ht3
  clear hb3 ht3
  go_wp2_with fail
  refine (X3.out A3 c3 _ (HE.out.below B7.out) TT3.out hc3 hl3).mono ?_; rintro e w6 ⟨v3, rfl, hv3, hb3⟩
  have B8 := Lib.hid (B7.out.trans (hb3.mono B7.out.size))
  have D3 := Lib.hid (D3.out.trans (hb3.mono D3.out.size))
  obtain ⟨P3, d3, rfl, -⟩ := hv3.sl
  obtain ⟨n3, hn3⟩ : ∃ n3, n3 = O3.length := ⟨_, rfl⟩
  rw [← hn3]
  have B9 := Lib.hid (B8.out.alloc B8.out.size (.cells #[.int .i64 11, .string ⟨#[101, 110, 100, 103, 114, 111, 117, 112]⟩, .int .i64 1, .int .i64 1] 27))
  have D3 := Lib.hid (D3.out.alloc D3.out.size (.cells #[.int .i64 11, .string ⟨#[101, 110, 100, 103, 114, 111, 117, 112]⟩, .int .i64 1, .int .i64 1] 27))
  have K3 := Lib.hid (heap_alloc_new w6 (.cells #[.int .i64 11, .string ⟨#[101, 110, 100, 103, 114, 111, 117, 112]⟩, .int .i64 1, .int .i64 1] 27))
  clear hv3 hb3 hc3 hl3 hn3 TT3 B7 B8
  go_wp2_with fail
  obtain ⟨V3, hV3⟩ : ∃ V3, w6.alloc (.cells #[.int .i64 11, .string ⟨#[101, 110, 100, 103, 114, 111, 117, 112]⟩, .int .i64 1, .int .i64 1] 27) = V3 := ⟨_, rfl⟩
  have hz3 : V3.heap.size = w6.heap.size + 1 := by rw [← hV3]; simp
  rw [hV3] at B9 D3 K3 ⊢
  clear hV3
  refine (C4.out _).mono ?_; rintro e w7 ⟨A4, c4, rfl, ht4, -, hc4, hl4, hb4⟩
  have B10 := Lib.hid (B9.out.trans (hb4.mono B9.out.size))
  have D4 := Lib.hid hb4
  have TT4 := Lib.hid ht4
  clear hb4 ht4
  go_wp2_with fail
  refine (X4.out A4 c4 _ (HE.out.below B10.out) TT4.out hc4 hl4).mono ?_; rintro e w8 ⟨v4, LL, rfl, him, hv4, hb4⟩
  obtain ⟨hm1, hm2⟩ := M4.out _ him
  obtain ⟨g4, d4, rfl, q4, hg4, hg4'⟩ := own_str hv4 hm2
  rw [hm1]
  have B11 := Lib.hid (B10.out.trans (hb4.mono B10.out.size))
  have D4 := Lib.hid (D4.out.trans (hb4.mono D4.out.size))
  have B12 := Lib.hid (B11.out.alloc B11.out.size (.cells #[.int .i64 0, .string ⟨#[]⟩, .int .i64 0, .int .i64 0] 27))
  have D4 := Lib.hid (D4.out.alloc D4.out.size (.cells #[.int .i64 0, .string ⟨#[]⟩, .int .i64 0, .int .i64 0] 27))
  have K4 := Lib.hid (heap_alloc_new w8 (.cells #[.int .i64 0, .string ⟨#[]⟩, .int .i64 0, .int .i64 0] 27))
  have QS : Hid ((w8.alloc (.cells #[.int .i64 0, .string ⟨#[]⟩, .int .i64 0, .int .i64 0] 27)).cell? ⟨g4, 0, none⟩ = some (.string ⟨#[97]⟩)) := Lib.hid (by rw [World.cell?_alloc_lt _ _ _ (by simpa using hg4')]; exact q4)
  clear hv4 hb4 hc4 hl4 him hm1 hm2 q4 TT4 B10 B11
  go_wp2_with fail
  obtain ⟨V4, hV4⟩ : ∃ V4, w8.alloc (.cells #[.int .i64 0, .string ⟨#[]⟩, .int .i64 0, .int .i64 0] 27) = V4 := ⟨_, rfl⟩
  have hz4 : V4.heap.size = w8.heap.size + 1 := by rw [← hV4]; simp
  rw [hV4] at B12 D4 K4 QS ⊢
  clear hV4
  refine (C5.out _).mono ?_; rintro e w9 ⟨A5, c5, rfl, ht5, ha5, hc5, hl5, hb5⟩
  have B13 := Lib.hid (B12.out.trans (hb5.mono B12.out.size))
  have D5 := Lib.hid hb5
  have TT5 := Lib.hid ht5
  have HA5 := Lib.hid ha5
  clear hb5 ht5 ha5
  go_wp2_with fail
  refine (X5.out A5 c5 _ (HE.out.below B13.out) TT5.out HA5.out hl5).mono ?_; rintro e w10 ⟨v5, rfl, hv5, hb5⟩
  have B14 := Lib.hid (B13.out.trans (hb5.mono B13.out.size))
  have D5 := Lib.hid (D5.out.trans (hb5.mono D5.out.size))
  obtain ⟨P5, d5, rfl, hs5⟩ := hv5.sl
  obtain ⟨n5, hn5⟩ : ∃ n5, n5 = O5.length := ⟨_, rfl⟩
  rw [← hn5]
  have HN5 := Lib.hid hn5
  have SL5 := Lib.hid hs5
  clear hv5 hb5 hc5 hl5 hs5 hn5 TT5 HA5 B13
  go_wp2_with fail
  refine (C6.out _).mono ?_; rintro e w11 ⟨A6, c6, rfl, ht6, -, hc6, hl6, hb6⟩
  have B15 := Lib.hid (B14.out.trans (hb6.mono B14.out.size))
  have D6 := Lib.hid hb6
  have TT6 := Lib.hid ht6
  have F4 := D5.out.trans (D6.out.mono D5.out.size)
  have F3 := D4.out.trans (F4.mono D4.out.size)
  have F2 := D3.out.trans (F3.mono D3.out.size)
  have SL1' := Lib.hid ((SL1.out.below (D2.out.trans (F2.mono D2.out.size))).more (D2.out.trans (F2.mono D2.out.size)).size)
  clear hb6 ht6 F4 F3 F2
  go_wp2_with fail
  refine (rsame_any' P1 A6 d1 c6 n1 _ O1 T6 _ HN1.out rfl SL1'.out TT6.out L1.out).mono ?_; rintro e w12 ⟨rfl, hb6⟩
  have B16 := Lib.hid (B15.out.trans (hb6.mono B15.out.size))
  have D6 := Lib.hid (D6.out.trans (hb6.mono D6.out.size))
  rw [S1.out]
  have F4 := D5.out.trans (D6.out.mono D5.out.size)
  have F3 := D4.out.trans (F4.mono D4.out.size)
  have F2 := D3.out.trans (F3.mono D3.out.size)
  have F1 := D2.out.trans (F2.mono D2.out.size)
  have z2 := D2.out.size
  have z3 := D3.out.size
  have z4 := D4.out.size
  obtain ⟨⟨k0, k1, k2, k3⟩, -, -⟩ := blk4 ((F1.block w2.heap.size (by omega)).trans K1.out)
  obtain ⟨⟨g0, g1, g2', g3⟩, -, -⟩ := blk4 ((F2.block w4.heap.size (by omega)).trans K2.out)
  obtain ⟨⟨h0, h1, h2, h3⟩, -, -⟩ := blk4 ((F3.block w6.heap.size (by omega)).trans K3.out)
  obtain ⟨⟨i0, i1, i2, i3⟩, -, -⟩ := blk4 ((F4.block w8.heap.size (by omega)).trans K4.out)
  have q4 : w12.cell? ⟨g2, 24, none⟩ = some (.int .i64 0) := (F2.cell (p := ⟨g2, 24, none⟩) (by simp; omega)).trans Q4.out
  have q10 : w12.cell? ⟨g2, 60, none⟩ = some (.int .i64 1) := (F2.cell (p := ⟨g2, 60, none⟩) (by simp; omega)).trans Q10.out
  have qs : w12.cell? ⟨g4, 0, none⟩ = some (.string ⟨#[97]⟩) := (F4.cell (p := ⟨g4, 0, none⟩) (by simp; omega)).trans QS.out
  have hq4 := Lib.hid (show g4 < V4.heap.size by omega)
  clear hb6 F4 F3 F2 F1 z2 z3 z4
  go_wp2_with fail
  refine (C7.out _).mono ?_; rintro e w13 ⟨A7, c7, rfl, ht7, -, hc7, hl7, hb7⟩
  have B17 := Lib.hid (B16.out.trans (hb7.mono B16.out.size))
  have TT7 := Lib.hid ht7
  have SL5' := Lib.hid ((SL5.out.below (D6.out.trans (hb7.mono D6.out.size))).more (D6.out.trans (hb7.mono D6.out.size)).size)
  clear hb7 ht7 k0 k1 k2 k3 g0 g1 g2' g3 h0 h1 h2 h3 i0 i1 i2 i3 q4 q10 qs
  go_wp2_with fail
  refine (rsame_any' P5 A7 d5 c7 n5 _ O5 T7 _ HN5.out rfl SL5'.out TT7.out L5.out).mono ?_; rintro e w14 ⟨rfl, hb7⟩
  have B18 := Lib.hid (B17.out.trans (hb7.mono B17.out.size))
  rw [S5.out]
  clear hb7
  go_wp2_with fail
  go_ret
  exact ⟨rfl, B18.out⟩
end Go.Proofs.YtnhcjgnohnedaaaGreatDoor

namespace Go.Proofs.YtnhcjgnohnedaaaGreatDoor
open Go.RowKit

set_option maxRecDepth 100000 in
set_option maxHeartbeats 8000000 in
/-- Rows of the same tokens are equal. -/
theorem requal_any (A1 A2 : Option Addr) (c1 c2 : Nat) (l : List Tv) (w : World) (h1 : TokSl w w.heap.size A1 l) (h2 : TokSl w w.heap.size A2 l) (hl : l.length ≤ 1000000000) :
    Calls Tryz.prog 15 #[.slice A1 l.length c1, .slice A2 l.length c2] w fun e w' => e = .returned (.bool true) ∧ Below w.heap.size w w' := by
  have H1 := Lib.hid h1
  have H2 := Lib.hid h2
  generalize hL : l.length = n at *
  have HL := Lib.hid hL
  have n2 : ((n : Int) == (n : Int)) = true := by simp
  clear h1 h2 hL
  go_enter Tryz.func15, Tryz.ntmps15
  go_wp2_with fail
  go_loopw [13] (fun v wr => ∃ k : Nat, v = .int .i64 k ∧ k ≤ n ∧ Below w.heap.size w wr) (fun v _ => n - (intOf v).toNat)
  case atStart => exact ⟨0, rfl, by omega, Below.refl _ _⟩
  case round =>
    obtain ⟨k, rfl, hk, hB⟩ := hrel
    by_cases hlt : k < n
    · obtain ⟨ad1, rfl, hb1, at1⟩ := H1.out (by rw [HL.out]; omega)
      obtain ⟨ad2, rfl, hb2, at2⟩ := H2.out (by rw [HL.out]; omega)
      have hx : l[k]? = some (l[k]'(by rw [HL.out]; exact hlt)) := List.getElem?_eq_getElem _
      generalize l[k]'(by rw [HL.out]; exact hlt) = x at hx
      have tx := (at1 k x hx).below hB (by rw [block_of_add]; exact hb1)
      have ty := (at2 k x hx).below hB (by rw [block_of_add]; exact hb2)
      have g1 := block_of_add ad1 (k * 6)
      have g2 := block_of_add ad2 (k * 6)
      obtain ⟨⟨xb, xo, xs⟩, hE1⟩ : ∃ E, ad1.add (k * 6) = E := ⟨_, rfl⟩
      obtain ⟨⟨yb, yo, ys⟩, hE2⟩ : ∃ E, ad2.add (k * 6) = E := ⟨_, rfl⟩
      rw [hE1] at tx g1
      rw [hE2] at ty g2
      obtain ⟨x0, x1, x2, x3, x4, x5⟩ := tx
      simp only at x0 x1 x2 x3 x4 x5 g1
      obtain ⟨y0, y1, y2, y3, y4, y5⟩ := ty
      simp only at y0 y1 y2 y3 y4 y5 g2
      have hsz := hB.size
      have BB := Lib.hid hB
      have hxb : xb < wr.heap.size := by omega
      have hyb : yb < wr.heap.size := by omega
      clear hx at1 at2 g1 g2 hb1 hb2 hB
      have hk0 : (0 : Int) ≤ (k : Int) := by omega
      have hk1 : (k : Int) < (n : Int) := by omega
      go_wp2_with fail
      go_quiet (fail)
      go_wp2_with fail
      exact ⟨⟨k + 1, by go_num, by omega, below_drewN BB.out _⟩, by simp [intOf]; omega⟩
    · go_wp2_with fail
      go_ret
      exact ⟨rfl, hB⟩
end Go.Proofs.YtnhcjgnohnedaaaGreatDoor

namespace Go.Proofs.YtnhcjgnohnedaaaGreatDoor
namespace Lx

/-- The tokens, but for their positions. -/
def Res.bare : Res → Option (List Tk)
  | .ok l => some (l.map (·.toTk))
  | .bad .. => none
theorem bare_cons (t : Tp) (r : Res) : (r.cons t).bare = r.bare.map (t.toTk :: ·) := by cases r <;> rfl
/-- Cases of a string's front. -/
theorem front (l : List UInt8) : l = [] ∨ (∃ c t, l = c :: t ∧ blank c = true) ∨ (∃ t, l = 37 :: t) ∨ (∃ c t, l = c :: t ∧ blank c = false ∧ c ≠ 37) := by
  cases l with
  | nil => left; rfl
  | cons c t =>
    right
    cases h : blank c
    · right
      by_cases e : c = 37
      · left; exact ⟨t, by rw [e]⟩
      · right; exact ⟨c, t, rfl, h, e⟩
    · left; exact ⟨c, t, rfl, h⟩
theorem notNl_pos (t : List UInt8) : 1 ≤ runN notNl (37 :: t) := by simp [runN, notNl]
theorem bare_pos : ∀ (n : Nat) (l : List UInt8) (p q : Int × Int), l.length < n → (toks l p).bare = (toks l q).bare := by
  intro n
  induction n with
  | zero => intro l p q h; omega
  | succ n ih =>
    intro l p q h
    rcases front l with rfl | ⟨c, t, rfl, hb⟩ | ⟨t, rfl⟩ | ⟨c, t, rfl, hb, h37⟩
    · rfl
    · rw [toks_blank c t p hb, toks_blank c t q hb]
      exact ih t _ _ (by simp only [List.length_cons] at h; omega)
    · rw [toks_comment, toks_comment]
      have := notNl_pos t
      have h2 : (37 :: t).length = t.length + 1 := rfl
      exact ih _ _ _ (by rw [List.length_drop]; omega)
    · have hn := first_n (c :: t) (by simp)
      by_cases he : (first (c :: t)).e = 0
      · rw [toks_tok c t p hb h37 he, toks_tok c t q hb h37 he, bare_cons, bare_cons, ih _ _ _ (by rw [List.length_drop]; omega)]
      · rw [toks_bad c t p hb h37 he, toks_bad c t q hb h37 he]; rfl
/-- The tokens of a string, but for their positions. -/
def bar (l : List UInt8) : Option (List Tk) := (toks l (1, 1)).bare
theorem bar_at (l : List UInt8) (p : Int × Int) : (toks l p).bare = bar l := bare_pos _ l _ _ (Nat.lt_succ_self _)
theorem bar_nil : bar [] = some [] := rfl
theorem bar_blank (c : UInt8) (l : List UInt8) (h : blank c = true) : bar (c :: l) = bar l := by unfold bar; rw [toks_blank c l _ h, bar_at]; rfl
theorem bar_comment (l : List UInt8) : bar (37 :: l) = bar ((37 :: l).drop (runN notNl (37 :: l))) := by unfold bar; rw [toks_comment, bar_at]; rfl
theorem bar_tok (c : UInt8) (l : List UInt8) (hb : blank c = false) (h37 : c ≠ 37) (he : (first (c :: l)).e = 0) : bar (c :: l) = (bar ((c :: l).drop (first (c :: l)).n)).map ((first (c :: l)).t :: ·) := by
  unfold bar; rw [toks_tok c l _ hb h37 he, bare_cons, bar_at]; rfl
theorem bar_bad (c : UInt8) (l : List UInt8) (hb : blank c = false) (h37 : c ≠ 37) (he : (first (c :: l)).e ≠ 0) : bar (c :: l) = none := by
  unfold bar; rw [toks_bad c l _ hb h37 he]; rfl
theorem bar_ok {l : List UInt8} {ts : List Tp} {p : Int × Int} (h : toks l p = .ok ts) : bar l = some (ts.map (·.toTk)) := by rw [← bar_at l p, h]; rfl
theorem ok_of_bar {l : List UInt8} {a : List Tk} (h : bar l = some a) (p : Int × Int) : ∃ ts, toks l p = .ok ts ∧ ts.map (·.toTk) = a := by
  rw [← bar_at l p] at h
  cases hr : toks l p with
  | ok ts => rw [hr] at h; exact ⟨ts, rfl, by simpa [Res.bare] using h⟩
  | bad e n x y => rw [hr] at h; simp [Res.bare] at h

/-- A byte that ends every token. -/
structure Ends (d : UInt8) : Prop where
  l : letter d = false
  g : digit d = false
  p : d ≠ 46
  s : ∀ x ∈ sgs, d ∉ x
theorem runN_app_stop (p : UInt8 → Bool) (d : UInt8) (hd : p d = false) (s r : List UInt8) : runN p (s ++ d :: r) = runN p s := by
  induction s with
  | nil => simp [runN, hd]
  | cons c s ih => simp only [List.cons_append, runN, ih]
theorem runN_app_lt (p : UInt8 → Bool) (s x : List UInt8) (h : runN p s < s.length) : runN p (s ++ x) = runN p s := by
  induction s with
  | nil => simp at h
  | cons c s ih =>
    by_cases hc : p c = true
    · simp only [List.cons_append, runN, hc, if_true, List.length_cons] at h ⊢
      rw [ih (by omega)]
    · simp [runN, hc]
theorem numeral_app (d : UInt8) (hd : Ends d) (s r : List UInt8) : numeral (s ++ d :: r) = numeral s := by
  have h1 := runN_app_stop digit d hd.g s r
  have hle := runN_le digit s
  unfold numeral
  rw [h1, List.drop_append_of_le_length hle]
  cases h : s.drop (runN digit s) with
  | nil =>
    simp only [List.nil_append]
    split
    · rename_i t e; injection e with e _; exact absurd e hd.p
    · rfl
  | cons c t =>
    simp only [List.cons_append]
    by_cases hc : c = 46
    · subst hc
      simp only [runN_app_stop digit d hd.g t r]
    · split
      · rename_i t' e; injection e with e _; exact absurd e hc
      · split
        · rename_i t' e; injection e with e _; exact absurd e hc
        · rfl
theorem sgn_app (d : UInt8) (hd : Ends d) (s r : List UInt8) : sgn (s ++ d :: r) = sgn s := by
  unfold sgn
  congr 1
  have key : ∀ x ∈ sgs, x.isPrefixOf (s ++ d :: r) = x.isPrefixOf s := by
    intro x hx
    rw [Bool.eq_iff_iff, List.isPrefixOf_iff_prefix, List.isPrefixOf_iff_prefix]
    constructor
    · intro h
      by_cases hl : x.length ≤ s.length
      · exact List.prefix_of_prefix_length_le h (List.prefix_append s (d :: r)) hl
      · exfalso
        have hx2 := List.IsPrefix.getElem (i := s.length) h (by omega)
        have : x[s.length]'(by omega) = d := by rw [hx2]; simp
        exact hd.s x hx (this ▸ List.getElem_mem _)
    · intro h; exact h.trans (List.prefix_append _ _)
  generalize sgs = L at key
  induction L with
  | nil => rfl
  | cons x L ih =>
    rw [List.find?_cons, List.find?_cons, key x (by simp), ih (fun y hy => key y (by simp [hy]))]
end Lx
end Go.Proofs.YtnhcjgnohnedaaaGreatDoor

namespace Go.Proofs.YtnhcjgnohnedaaaGreatDoor
namespace Lx

theorem take_app_le (s x : List UInt8) (n : Nat) (h : n ≤ s.length) : (s ++ x).take n = s.take n := List.take_append_of_le_length h
theorem strOf_app (s x : List UInt8) (h : (strOf s).e = 0) : strOf (s ++ x) = strOf s := by
  have hm := runN_le notQ s
  unfold strOf at h ⊢
  simp only at h ⊢
  split at h
  · simp [One.bad] at h
  · rename_i hb
    have hlt : runN notQ s < s.length := by
      have : ¬ runN notQ s = s.length := fun e => hb (Or.inl e)
      omega
    have hall : ¬ allB quot (s.take (runN notQ s)) = false := fun e => hb (Or.inr e)
    rw [runN_app_lt notQ s x hlt, take_app_le s x _ hm, if_neg hb, if_neg (by rw [List.length_append]; rintro (h1 | h1); omega; exact hall h1)]
/-- A token is read as it is alone, if a byte that ends every token follows. -/
theorem first_app (d : UInt8) (hd : Ends d) (s r : List UInt8) (hs : s ≠ []) (h : (first s).e = 0) : first (s ++ d :: r) = first s := by
  have hl := runN_app_stop letter d hd.l s r
  have hn := numeral_app d hd s r
  have hg := sgn_app d hd s r
  have a := runN_le letter s
  have b := numeral_le s
  have h0 : (s ++ d :: r).getD 0 0 = s.getD 0 0 := by cases s with | nil => exact absurd rfl hs | cons c s => rfl
  have h1 : (s ++ d :: r).drop 1 = s.drop 1 ++ d :: r := by cases s with | nil => exact absurd rfl hs | cons c s => rfl
  unfold first at h ⊢
  rw [hl, hn, hg, h0, h1, take_app_le s _ _ a, take_app_le s _ _ b]
  split
  · rfl
  split
  · rfl
  split
  · rename_i h2 h3 h4
    rw [if_neg h2, if_neg h3, if_pos h4] at h
    exact strOf_app _ _ h
  · rfl

/-- What may stand between two tokens. -/
structure Sep (x : List UInt8) : Prop where
  ends : ∃ d y, x = d :: y ∧ Ends d
  gone : ∀ r, bar (x ++ r) = bar r
  eaten : ∀ r, bar ((x ++ r).drop (runN notNl (x ++ r))) = bar r
theorem bar_parts (x : List UInt8) (hx : Sep x) (r : List UInt8) : ∀ (n : Nat) (s : List UInt8) (a : List Tk), s.length < n → bar s = some a → bar (s ++ x ++ r) = (bar r).map (a ++ ·) := by
  intro n
  induction n with
  | zero => intro s a h; omega
  | succ n ih =>
    intro s a hlen h
    rcases front s with rfl | ⟨c, t, rfl, hb⟩ | ⟨t, rfl⟩ | ⟨c, t, rfl, hb, h37⟩
    · rw [bar_nil] at h
      injection h with h
      subst h
      rw [List.nil_append, hx.gone]
      cases bar r <;> simp
    · rw [bar_blank c t hb] at h
      rw [List.cons_append, List.cons_append, bar_blank c _ hb]
      exact ih t a (by simp only [List.length_cons] at hlen; omega) h
    · have hp := notNl_pos t
      have hle := runN_le notNl (37 :: t)
      rw [bar_comment] at h
      by_cases hf : runN notNl (37 :: t) = (37 :: t).length
      · rw [hf, List.drop_length, bar_nil] at h
        injection h with h
        subst h
        have hall := (runN_eq_length notNl (37 :: t)).1 hf
        have e : runN notNl (37 :: t ++ x ++ r) = (37 :: t).length + runN notNl (x ++ r) := by rw [List.append_assoc]; exact runN_app notNl _ _ hall
        have hc : bar (37 :: t ++ x ++ r) = bar ((37 :: t ++ x ++ r).drop (runN notNl (37 :: t ++ x ++ r))) := by
          rw [List.cons_append, List.cons_append]; exact bar_comment _
        rw [hc, e, List.append_assoc, List.drop_append, List.drop_eq_nil_of_le (by omega), List.nil_append, show (37 :: t).length + runN notNl (x ++ r) - (37 :: t).length = runN notNl (x ++ r) by omega, hx.eaten]
        cases bar r <;> simp
      · have hlt : runN notNl (37 :: t) < (37 :: t).length := by omega
        have e : runN notNl (37 :: t ++ (x ++ r)) = runN notNl (37 :: t) := runN_app_lt notNl _ _ hlt
        have hc : bar (37 :: t ++ x ++ r) = bar ((37 :: t ++ (x ++ r)).drop (runN notNl (37 :: t ++ (x ++ r)))) := by
          rw [List.append_assoc]; exact bar_comment _
        rw [hc, e, List.drop_append_of_le_length hle, ← List.append_assoc]
        exact ih _ a (by rw [List.length_drop]; omega) h
    · have hn := first_n (c :: t) (by simp)
      by_cases he : (first (c :: t)).e = 0
      · rw [bar_tok c t hb h37 he] at h
        cases h2 : bar ((c :: t).drop (first (c :: t)).n) with
        | none => rw [h2] at h; cases h
        | some a' =>
          rw [h2] at h
          simp only [Option.map_some, Option.some.injEq] at h
          obtain ⟨d, y, hd, hends⟩ := hx.ends
          have hf : first (c :: t ++ x ++ r) = first (c :: t) := by rw [List.append_assoc, hd]; exact first_app d hends _ _ (by simp) he
          have hc : bar (c :: t ++ x ++ r) = (bar ((c :: t ++ x ++ r).drop (first (c :: t)).n)).map ((first (c :: t)).t :: ·) := by
            have := bar_tok c (t ++ x ++ r) hb h37 (by have := hf; simp only [List.cons_append] at this; rw [this]; exact he)
            simp only [List.cons_append] at hf ⊢
            rw [this, hf]
          rw [hc, List.append_assoc, List.drop_append_of_le_length hn.2, ← List.append_assoc, ih _ a' (by rw [List.length_drop]; omega) h2, ← h]
          cases bar r <;> simp
      · rw [bar_bad c t hb h37 he] at h; cases h

theorem ends10 : Ends 10 := ⟨by decide, by decide, by decide, by decide +kernel⟩
theorem ends32 : Ends 32 := ⟨by decide, by decide, by decide, by decide +kernel⟩
theorem ends13 : Ends 13 := ⟨by decide, by decide, by decide, by decide +kernel⟩
theorem bl10 (l : List UInt8) : bar (10 :: l) = bar l := bar_blank 10 l (by decide)
theorem bl32 (l : List UInt8) : bar (32 :: l) = bar l := bar_blank 32 l (by decide)
theorem bl13 (l : List UInt8) : bar (13 :: l) = bar l := bar_blank 13 l (by decide)
theorem bl9 (l : List UInt8) : bar (9 :: l) = bar l := bar_blank 9 l (by decide)
theorem sep0 : Sep [10] := ⟨⟨10, [], rfl, ends10⟩, fun r => bl10 r, fun r => by simp [runN, notNl, bl10]⟩
theorem sep1 : Sep [10, 10] := ⟨⟨10, _, rfl, ends10⟩, fun r => by simp [bl10], fun r => by simp [runN, notNl, bl10]⟩
theorem sep2 : Sep [10, 32, 9] := ⟨⟨10, _, rfl, ends10⟩, fun r => by simp [bl10, bl32, bl9], fun r => by simp [runN, notNl, bl10, bl32, bl9]⟩
theorem com1 (r : List UInt8) : bar (37 :: 32 :: 97 :: 32 :: 34 :: 98 :: 10 :: r) = bar r := by rw [bar_comment]; simp [runN, notNl, bl10]
theorem sep3 : Sep [32, 37, 32, 97, 32, 34, 98, 10] := ⟨⟨32, _, rfl, ends32⟩, fun r => by simp [bl32, com1], fun r => by simp [runN, notNl, bl10]⟩
theorem sep4 : Sep [13, 10] := ⟨⟨13, _, rfl, ends13⟩, fun r => by simp [bl13, bl10], fun r => by simp [runN, notNl, bl10]⟩
theorem com2 (r : List UInt8) : bar (37 :: 10 :: r) = bar r := by rw [bar_comment]; simp [runN, notNl, bl10]
theorem com3 (r : List UInt8) : bar (37 :: 49 :: 46 :: 50 :: 46 :: 10 :: r) = bar r := by rw [bar_comment]; simp [runN, notNl, bl10]
theorem sep5 : Sep [10, 37, 10, 37, 49, 46, 50, 46, 10, 32] := ⟨⟨10, _, rfl, ends10⟩, fun r => by simp [bl10, bl32, com2, com3], fun r => by simp [runN, notNl, bl10, bl32, com2, com3]⟩
/-- The string that stands between, by a number. -/
def betw (b : Nat) : List UInt8 := [[10, 10], [10, 32, 9], [32, 37, 32, 97, 32, 34, 98, 10], [13, 10], [10, 37, 10, 37, 49, 46, 50, 46, 10, 32]].getD (b % 5) []
theorem betw_sep (b : Nat) : Sep (betw b) := by
  unfold betw
  have h : b % 5 = 0 ∨ b % 5 = 1 ∨ b % 5 = 2 ∨ b % 5 = 3 ∨ b % 5 = 4 := by omega
  rcases h with h | h | h | h | h <;> rw [h]
  · exact sep1
  · exact sep2
  · exact sep3
  · exact sep4
  · exact sep5
theorem betw_len (b : Nat) : (betw b).length ≤ 10 := by
  unfold betw
  have h : b % 5 = 0 ∨ b % 5 = 1 ∨ b % 5 = 2 ∨ b % 5 = 3 ∨ b % 5 = 4 := by omega
  rcases h with h | h | h | h | h <;> rw [h] <;> decide
theorem parts_of (x : List UInt8) (hx : Sep x) (s t : List UInt8) (a b : List Tk) (h1 : bar s = some a) (h2 : bar t = some b) : bar (s ++ x ++ t) = some (a ++ b) := by
  rw [bar_parts x hx t _ s a (Nat.lt_succ_self _) h1, h2]; rfl
end Lx
end Go.Proofs.YtnhcjgnohnedaaaGreatDoor
