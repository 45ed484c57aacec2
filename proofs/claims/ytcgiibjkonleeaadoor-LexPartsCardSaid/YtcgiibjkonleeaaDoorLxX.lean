/-
  The walk of LexParts: both strings give tokens.
-/
-- LAW 03
import Derived.Test.YtcgiibjkonleeaaDoorLxV
namespace Go.Proofs.YtcgiibjkonleeaaDoor
open Go.RowKit

theorem same_toks : ∀ (a b : List Lx.Tp), a.map (·.toTk) = b.map (·.toTk) → sameTvs (a.map Tv.of) (b.map Tv.of) = true
  | [], [], _ => rfl
  | [], _ :: _, h => by simp at h
  | _ :: _, [], h => by simp at h
  | x :: a, y :: b, h => by
    simp only [List.map_cons, List.cons.injEq] at h
    have e := h.1
    simp only [List.map_cons, sameTvs, Bool.and_eq_true]
    refine ⟨?_, same_toks a b h.2⟩
    have e1 := congrArg Lx.Tk.kind e
    have e2 := congrArg Lx.Tk.text e
    have e3 := congrArg Lx.Tk.p e
    have e4 := congrArg Lx.Tk.q e
    exact decide_eq_true ⟨e1, by simp [Tv.of, e2], e3, e4⟩
theorem len_toks {a b : List Lx.Tp} (h : a.map (·.toTk) = b.map (·.toTk)) : a.length = b.length := by
  have := congrArg List.length h
  simpa using this

set_option maxRecDepth 100000 in
set_option maxHeartbeats 4000000 in
theorem lparts_bad2 (s t : ByteArray) (b : Nat) (w : World) (he : EnvL w) (hl : s.size + t.size ≤ 3000) (ts : List Lx.Tp) (h1 : Lx.toks s.data.toList (1, 1) = .ok ts) (c : Int) (nm : List UInt8) (x y : Int) (h : Lx.toks t.data.toList (1, 1) = .bad c nm x y) :
    Calls Tryd.prog 5 #[.string s, .string t, .int .u8 b] w fun e w' => e = .returned (.bool true) ∧ Below w.heap.size w w' := by
  have hc := Lx.bad_ne _ _ _ _ _ _ _ (Nat.lt_succ_self _) h
  have z1 : s.data.toList.length = s.size := Lib.size_eq s
  have z2 : t.data.toList.length = t.size := Lib.size_eq t
  have C2 := Lib.hid (fun W (hW : EnvL W) => tokens_bad t.data.toList c nm x y W hW (by omega) h)
  have C1 := Lib.hid (fun W (hW : EnvL W) => tokens_ok s.data.toList ts W hW (by omega) h1)
  rw [← ba_list s] at C1
  rw [← ba_list t] at C2
  have HE := Lib.hid he
  have HA := Lib.hid (fun W (hW : EnvL W) => lawake_any W hW)
  have e1 : (c == 0) = false := by simpa using hc
  have e2 : (c != 0) = true := by simpa using hc
  clear he h h1 hc z1 z2
  go_enter Tryd.func5, Tryd.ntmps5
  go_wp2_with fail
  refine (C1.out _ HE.out).mono ?_; rintro e w1 ⟨A1, n1, rfl, -, -, -, hb1, -⟩
  simp only [faultV]
  have B1 := Lib.hid (hb1.alloc hb1.size (.cells #[.int .i64 0, .string ⟨#[]⟩, .int .i64 0, .int .i64 0] 37))
  have K1 := Lib.hid (heap_alloc_new w1 (.cells #[.int .i64 0, .string ⟨#[]⟩, .int .i64 0, .int .i64 0] 37))
  clear hb1
  go_wp2_with fail
  refine (C2.out _ (HE.out.below B1.out)).mono ?_; rintro e w2 ⟨rfl, hb2⟩
  simp only [faultV]
  have B2 := Lib.hid (B1.out.trans (hb2.mono B1.out.size))
  have K2 := (hb2.block w1.heap.size (by simp)).trans K1.out
  have B3 := Lib.hid (B2.out.alloc B2.out.size (.cells #[.int .i64 c, .string ⟨nm.toArray⟩, .int .i64 x, .int .i64 y] 37))
  obtain ⟨⟨k0, k1, k2, k3⟩, -, kl⟩ := blk4 K2
  clear hb2 K2
  go_wp2_with fail
  refine (HA.out _ (HE.out.below B3.out)).mono ?_; rintro e w3 ⟨rfl, hb3⟩
  go_wp2_with fail
  go_ret
  exact ⟨rfl, B3.out.trans (hb3.mono B3.out.size)⟩

theorem betw_at (b : Nat) : ([.string ⟨#[10, 10]⟩, .string ⟨#[10, 32, 9]⟩, .string ⟨#[32, 37, 32, 97, 32, 34, 98, 10]⟩, .string ⟨#[13, 10]⟩, .string ⟨#[10, 37, 10, 37, 49, 46, 50, 46, 10, 32]⟩] : List Value)[b % 5]? = some (.string ⟨(Lx.betw b).toArray⟩) := by
  unfold Lx.betw
  have h : b % 5 = 0 ∨ b % 5 = 1 ∨ b % 5 = 2 ∨ b % 5 = 3 ∨ b % 5 = 4 := by omega
  rcases h with h | h | h | h | h <;> rw [h] <;> rfl
set_option maxRecDepth 100000 in
set_option maxHeartbeats 16000000 in
theorem lparts_ok (s t : ByteArray) (b : Nat) (w : World) (he : EnvL w) (hl : s.size + t.size ≤ 3000) (hb : b < 256) (ta tb tc td : List Lx.Tp) (h1 : Lx.toks s.data.toList (1, 1) = .ok ta) (h2 : Lx.toks t.data.toList (1, 1) = .ok tb)
    (h3 : Lx.toks (s.data.toList ++ [10] ++ t.data.toList) (1, 1) = .ok tc) (h4 : Lx.toks (s.data.toList ++ Lx.betw b ++ t.data.toList) (1, 1) = .ok td)
    (s1 : sameTvs (tc.map Tv.of) ((ta ++ tb).map Tv.of) = true) (s2 : sameTvs (td.map Tv.of) ((ta ++ tb).map Tv.of) = true) :
    Calls Tryd.prog 5 #[.string s, .string t, .int .u8 b] w fun e w' => e = .returned (.bool true) ∧ Below w.heap.size w w' := by
  have z1 : s.data.toList.length = s.size := Lib.size_eq s
  have z2 : t.data.toList.length = t.size := Lib.size_eq t
  have hbl := Lx.betw_len b
  have C1 := Lib.hid (fun W (hW : EnvL W) => tokens_ok s.data.toList ta W hW (by omega) h1)
  have C2 := Lib.hid (fun W (hW : EnvL W) => tokens_ok t.data.toList tb W hW (by omega) h2)
  have C3 := Lib.hid (fun W (hW : EnvL W) => tokens_ok _ tc W hW (by simp only [List.length_append, List.length_cons, List.length_nil]; omega) h3)
  have C4 := Lib.hid (fun W (hW : EnvL W) => tokens_ok _ td W hW (by simp only [List.length_append]; omega) h4)
  rw [← ba_list s] at C1
  rw [← ba_list t] at C2
  have E3 : s ++ (⟨#[10]⟩ : ByteArray) ++ t = ⟨(s.data.toList ++ [10] ++ t.data.toList).toArray⟩ := by
    apply ByteArray.ext; simp
  have E4 : s ++ (⟨(Lx.betw b).toArray⟩ : ByteArray) ++ t = ⟨(s.data.toList ++ Lx.betw b ++ t.data.toList).toArray⟩ := by
    apply ByteArray.ext; simp
  rw [← E3] at C3
  rw [← E4] at C4
  have HE := Lib.hid he
  have HA := Lib.hid (fun W (hW : EnvL W) => lawake_any W hW)
  have S1 := Lib.hid s1
  have S2 := Lib.hid s2
  have hsz1 : (s ++ (⟨#[10]⟩ : ByteArray)).size ≤ 4000 := by rw [ByteArray.size_append]; show s.size + 1 ≤ 4000; omega
  have hsz3 : (s ++ (⟨(Lx.betw b).toArray⟩ : ByteArray)).size ≤ 4000 := by rw [ByteArray.size_append, show (⟨(Lx.betw b).toArray⟩ : ByteArray).size = (Lx.betw b).length from ba_size _]; omega
  clear he h1 h2 h3 h4 s1 s2 z1 z2 E3 E4
  go_enter Tryd.func5, Tryd.ntmps5
  go_wp2_with fail
  refine (C1.out _ HE.out).mono ?_; rintro e w1 ⟨A1, n1, rfl, sl1, -, l1, hb1, no1⟩
  simp only [faultV]
  have SL1 := Lib.hid (sl1.below (heap_new_b w1 (.cells #[.int .i64 0, .string ⟨#[]⟩, .int .i64 0, .int .i64 0] 37) _ (Nat.le_refl _)))
  have N1 := Lib.hid no1
  have B1 := Lib.hid (hb1.alloc hb1.size (.cells #[.int .i64 0, .string ⟨#[]⟩, .int .i64 0, .int .i64 0] 37))
  have K1 := Lib.hid (heap_alloc_new w1 (.cells #[.int .i64 0, .string ⟨#[]⟩, .int .i64 0, .int .i64 0] 37))
  have hz1 := hb1.size
  clear hb1 sl1 no1
  go_wp2_with fail
  refine (C2.out _ (HE.out.below B1.out)).mono ?_; rintro e w2 ⟨A2, n2, rfl, sl2, -, l2, hb2, no2⟩
  simp only [faultV]
  have SL2 := Lib.hid (sl2.below (heap_new_b w2 (.cells #[.int .i64 0, .string ⟨#[]⟩, .int .i64 0, .int .i64 0] 37) _ (Nat.le_refl _)))
  have N2 := Lib.hid no2
  have B2 := Lib.hid (B1.out.trans (hb2.mono B1.out.size))
  have hz2 := hb2.size
  simp at hz2
  have M1 := Lib.hid (blk_alloc ((hb2.block w1.heap.size (by simp)).trans K1.out) (.cells #[.int .i64 0, .string ⟨#[]⟩, .int .i64 0, .int .i64 0] 37))
  have M2 := Lib.hid (heap_alloc_new w2 (.cells #[.int .i64 0, .string ⟨#[]⟩, .int .i64 0, .int .i64 0] 37))
  have B3 := Lib.hid (B2.out.alloc B2.out.size (.cells #[.int .i64 0, .string ⟨#[]⟩, .int .i64 0, .int .i64 0] 37))
  have SL1' := Lib.hid ((SL1.out.below (B := w1.heap.size) (hb2.mono (by simp))).below (heap_new_b w2 (.cells #[.int .i64 0, .string ⟨#[]⟩, .int .i64 0, .int .i64 0] 37) _ (by omega)))
  obtain ⟨⟨k0, k1, k2, k3⟩, -, kl⟩ := blk4 M1.out
  clear hb2 K1 SL1 no2
  go_wp2_with fail
  refine (C3.out _ (HE.out.below B3.out)).mono ?_; rintro e w3 ⟨A3, n3, rfl, sl3, -, l3, hb3, -⟩
  simp only [faultV]
  have SL3 := Lib.hid (sl3.below (heap_new_b w3 (.cells #[.int .i64 0, .string ⟨#[]⟩, .int .i64 0, .int .i64 0] 37) _ (Nat.le_refl _)))
  have hz3 := hb3.size
  simp at hz3
  have B4 := Lib.hid (B3.out.trans (hb3.mono B3.out.size))
  have B5 := Lib.hid (B4.out.alloc B4.out.size (.cells #[.int .i64 0, .string ⟨#[]⟩, .int .i64 0, .int .i64 0] 37))
  have M3 := Lib.hid (heap_alloc_new w3 (.cells #[.int .i64 0, .string ⟨#[]⟩, .int .i64 0, .int .i64 0] 37))
  have SL1a := Lib.hid ((SL1'.out.below (hb3.mono (by simp; omega))).below (heap_new_b w3 (.cells #[.int .i64 0, .string ⟨#[]⟩, .int .i64 0, .int .i64 0] 37) _ (by omega)))
  have SL2a := Lib.hid ((SL2.out.below (hb3.mono (by simp))).below (heap_new_b w3 (.cells #[.int .i64 0, .string ⟨#[]⟩, .int .i64 0, .int .i64 0] 37) _ (by omega)))
  clear hb3 sl3 SL1' SL2 sl2 M1 M2 k0 k1 k2 k3 kl
  have LA : (ta.map Tv.of).length = ta.length := List.length_map _
  have LB : (tb.map Tv.of).length = tb.length := List.length_map _
  go_wp2_with (at_builtin; refine wpList_append_toks rfl _ _ rfl (w3.heap.size + 1) _ [] (ta.map Tv.of) rfl ?o1 w1.heap.size n1 A1 (by rw [LA]; rfl) ?o2 ?o3 ?o4 ?o5 ?_)
  case o1 => exact ⟨rfl, .inr ⟨w3.heap.size + 1, 0, #[], rfl, Nat.le_refl _, by have := heap_alloc_new (w3.alloc (.cells #[.int .i64 0, .string ⟨#[]⟩, .int .i64 0, .int .i64 0] 37)) (.cells #[] 32); simpa using this, Nat.le_refl _, by decide, rfl, rfl⟩⟩
  case o2 => intro e; obtain ⟨e1, e2⟩ := N1.out e; exact ⟨e1, by rw [e2]; rfl⟩
  case o3 => exact SL1a.out.below (heap_new_b _ _ _ (by simp; omega))
  case o4 => simp; omega
  case o5 => simp
  intro v1 w4 own1 gr1
  have hz4 := gr1.size
  simp at hz4
  have gb1 : Below (w3.heap.size + 1) (w3.alloc (.cells #[.int .i64 0, .string ⟨#[]⟩, .int .i64 0, .int .i64 0] 37)) w4 :=
    (((Below.refl _ _).alloc (by simp) _).grown gr1 (by simp) (fun k hk => by simp [Value.ownBlock] at hk; omega))
  go_wp2_with (at_builtin; refine wpList_append_toks rfl _ _ rfl (w3.heap.size + 1) v1 (ta.map Tv.of) (tb.map Tv.of) rfl own1 w2.heap.size n2 A2 (by rw [LB]; rfl) ?o2 ?o3 ?o4 ?o5 ?_)
  case o2 => intro e; obtain ⟨e1, e2⟩ := N2.out e; exact ⟨e1, by rw [e2]; rfl⟩
  case o3 => exact SL2a.out.below (gb1.mono (by omega))
  case o4 => simp; omega
  case o5 => omega
  intro v2 w5 own2 gr2
  have gb2 : Below (w3.heap.size + 1) (w3.alloc (.cells #[.int .i64 0, .string ⟨#[]⟩, .int .i64 0, .int .i64 0] 37)) w5 := by
    refine gb1.grown gr2 (by omega) (fun k hk => (own1.lt k hk).1)
  have hz5 := gb2.size
  simp at hz5
  obtain ⟨U, hU⟩ : ∃ U, U = (ta ++ tb).map Tv.of := ⟨_, rfl⟩
  rw [← List.map_append, ← hU] at own2
  rw [← hU] at S1 S2
  obtain ⟨A5, n5, rfl, sl5⟩ := own2.sl
  have B6 := Lib.hid (B5.out.trans (gb2.mono (by omega)))
  have M4 := Lib.hid ((gb2.block w3.heap.size (by simp)).trans M3.out)
  have SL3a := Lib.hid (SL3.out.below (gb2.mono (by omega)))
  have SL5 := Lib.hid sl5
  have hbt := betw_at b
  have LC : (tc.map Tv.of).length = tc.length := List.length_map _
  have LD : (td.map Tv.of).length = td.length := List.length_map _
  clear gb1 gb2 own1 own2 gr1 gr2 SL1a SL2a SL3 M3 N1 N2 hU LA LB sl5
  go_wp2_with fail
  have B7 := Lib.hid (B6.out.alloc B6.out.size (.cells #[.string ⟨#[10, 10]⟩, .string ⟨#[10, 32, 9]⟩, .string ⟨#[32, 37, 32, 97, 32, 34, 98, 10]⟩, .string ⟨#[13, 10]⟩, .string ⟨#[10, 37, 10, 37, 49, 46, 50, 46, 10, 32]⟩] 9))
  refine (C4.out _ (HE.out.below B7.out)).mono ?_; rintro e w6 ⟨A6, n6, rfl, sl6, -, l6, hb6, -⟩
  simp only [faultV]
  have hz6 := hb6.size
  simp at hz6
  have SL6 := Lib.hid (sl6.below (heap_new_b w6 (.cells #[.int .i64 0, .string ⟨#[]⟩, .int .i64 0, .int .i64 0] 37) _ (Nat.le_refl _)))
  have B8 := Lib.hid (B7.out.trans (hb6.mono B7.out.size))
  have gb3 : Below w5.heap.size w5 (w6.alloc (.cells #[.int .i64 0, .string ⟨#[]⟩, .int .i64 0, .int .i64 0] 37)) :=
    (((Below.refl _ _).alloc (Nat.le_refl _) _).trans (hb6.mono (by simp))).alloc (by omega) _
  have B9 := Lib.hid (B8.out.alloc B8.out.size (.cells #[.int .i64 0, .string ⟨#[]⟩, .int .i64 0, .int .i64 0] 37))
  have M5 := (gb3.block w3.heap.size (by omega)).trans M4.out
  have M6 := heap_alloc_new w6 (.cells #[.int .i64 0, .string ⟨#[]⟩, .int .i64 0, .int .i64 0] 37)
  have SL3b := Lib.hid (SL3a.out.below (gb3.mono (by omega)))
  have SL5b := Lib.hid (SL5.out.below gb3)
  obtain ⟨⟨k0, k1, k2, k3⟩, -, kl⟩ := blk4 M5
  clear M5 M4 gb3 hb6 sl6 SL3a SL5 hbt
  go_wp2_with fail
  have CS := same_any A3 A5 n3 n5 (tc.map Tv.of) U _ (SL3b.out.more (by simp; omega)) (SL5b.out.more (by simp; omega)) (by rw [LC]; omega)
  rw [LC] at CS
  refine CS.mono ?_; rintro e w7 ⟨rfl, hb7⟩
  clear CS
  rw [S1.out]
  have hz7 := hb7.size
  simp at hz7
  have B10 := Lib.hid (B9.out.trans (hb7.mono B9.out.size))
  have M7 := (hb7.block w6.heap.size (by simp)).trans M6
  have SL6b := Lib.hid (SL6.out.below (hb7.mono (by simp)))
  have SL5c := Lib.hid (SL5b.out.below (hb7.mono (by simp; omega)))
  obtain ⟨⟨x0, x1, x2, x3⟩, -, xl⟩ := blk4 M7
  clear hb7 M6 M7 k0 k1 k2 k3 kl SL3b SL5b SL6
  go_wp2_with fail
  have CS := same_any A6 A5 n6 n5 (td.map Tv.of) U _ (SL6b.out.more (by omega)) (SL5c.out.more (by omega)) (by rw [LD]; omega)
  rw [LD] at CS
  refine CS.mono ?_; rintro e w8 ⟨rfl, hb8⟩
  clear CS
  rw [S2.out]
  have B11 := Lib.hid (B10.out.trans (hb8.mono B10.out.size))
  clear hb8
  go_wp2_with fail
  refine (HA.out _ (HE.out.below B11.out)).mono ?_; rintro e w9 ⟨rfl, hb9⟩
  go_wp2_with fail
  go_ret
  exact ⟨rfl, B11.out.trans (hb9.mono B11.out.size)⟩

/-- LexParts returns true. -/
theorem lparts_any (s t : ByteArray) (b : Nat) (w : World) (he : EnvL w) (hs : s.size ≤ 140737488355328) (ht : t.size ≤ 140737488355328) (hb : b < 256) :
    Calls Tryd.prog 5 #[.string s, .string t, .int .u8 b] w fun e w' => e = .returned (.bool true) ∧ Below w.heap.size w w' := by
  by_cases hl : s.size + t.size ≤ 3000
  · cases h1 : Lx.toks s.data.toList (1, 1) with
    | bad c nm x y => exact lparts_bad1 s t b w he hl c nm x y h1
    | ok ta =>
      cases h2 : Lx.toks t.data.toList (1, 1) with
      | bad c nm x y => exact lparts_bad2 s t b w he hl ta h1 c nm x y h2
      | ok tb =>
        have b1 := Lx.bar_ok h1
        have b2 := Lx.bar_ok h2
        obtain ⟨tc, h3, e3⟩ := Lx.ok_of_bar (Lx.parts_of [10] Lx.sep0 _ _ _ _ b1 b2) (1, 1)
        obtain ⟨td, h4, e4⟩ := Lx.ok_of_bar (Lx.parts_of (Lx.betw b) (Lx.betw_sep b) _ _ _ _ b1 b2) (1, 1)
        exact lparts_ok s t b w he hl hb ta tb tc td h1 h2 h3 h4 (same_toks _ _ (by rw [e3, List.map_append])) (same_toks _ _ (by rw [e4, List.map_append]))
  · exact lparts_long s t b w he hs ht (by omega)
end Go.Proofs.YtcgiibjkonleeaaDoor
