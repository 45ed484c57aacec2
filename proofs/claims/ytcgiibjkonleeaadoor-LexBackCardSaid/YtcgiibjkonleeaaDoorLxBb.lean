/-
  The walk of LexBack: it returns true at any tokens and string.
-/
-- LAW 03
import Derived.Test.YtcgiibjkonleeaaDoorLxBa
namespace Go.Proofs.YtcgiibjkonleeaaDoor
open Go.RowKit

/-- What is known of a string of at most 3,000 bytes and of its tokens, written and read again. -/
inductive Again (s : List UInt8) : Prop where
  | bad (c : Int) (nm : List UInt8) (x y : Int) (h : Lx.toks s (1, 1) = .bad c nm x y) (hc : c ≠ 0)
  | long (ts : List Lx.Tp) (h : Lx.toks s (1, 1) = .ok ts) (hs : textS (ts.map Tv.of) = []) (he : textE (ts.map Tv.of) = 3) (hf : ∀ x ∈ ts.map Tv.of, x.fit)
  | same (ts : List Lx.Tp) (h : Lx.toks s (1, 1) = .ok ts) (u : List Lx.Tp) (hu : Lx.toks (textS (ts.map Tv.of)) (1, 1) = .ok u) (hl : (textS (ts.map Tv.of)).length ≤ 20000) (he : textE (ts.map Tv.of) = 0) (hf : ∀ x ∈ ts.map Tv.of, x.fit) (hsame : sameTvs (ts.map Tv.of) (u.map Tv.of) = true)
theorem again_any (s : List UInt8) : Again s := by
  cases h : Lx.toks s (1, 1) with
  | bad c nm x y => exact .bad c nm x y h (Lx.bad_ne' _ _ _ _ _ _ _ (Nat.lt_succ_self _) h)
  | ok ts =>
    have hv := Lx.toks_valid _ s (1, 1) ts (Nat.lt_succ_self _) h
    have hf : ∀ x ∈ ts.map Tv.of, x.fit := by
      intro x hx
      obtain ⟨t, ht, rfl⟩ := List.mem_map.1 hx
      exact of_fit (hv t ht).1
    have hok : ∀ x ∈ ts.map Tv.of, x.ok = true ∧ x.k ≠ 1 := by
      intro x hx
      obtain ⟨t, ht, rfl⟩ := List.mem_map.1 hx
      exact ⟨of_ok (hv t ht).1, (hv t ht).2⟩
    rcases textE_cases (ts.map Tv.of) with ⟨h1, -, h3, h4⟩ | ⟨h1, h2⟩ | ⟨-, -, h3⟩
    · have hb := Lx.bar_jn (ts.map Tv.of) hok
      rw [← h3] at hb
      obtain ⟨u, hu, hu2⟩ := Lx.ok_of_bar hb (1, 1)
      exact .same ts h u hu h4 h1 hf (same_tk _ _ hu2)
    · exact .long ts h h2 h1 hf
    · exact absurd (fun x hx => (hok x hx).1) h3
/-- What is known of tokens. -/
inductive First (l : List Tv) : Prop where
  | no (h : ¬ (textE l = 0 ∧ ∀ x ∈ l, x.k ≠ 1))
  | yes (h : textE l = 0) (hw : ∀ x ∈ l, x.k ≠ 1) (u : List Lx.Tp) (hu : Lx.toks (textS l) (1, 1) = .ok u) (hl : (textS l).length ≤ 20000) (hsame : sameTvs l (u.map Tv.of) = true)
theorem first_any' (l : List Tv) : First l := by
  by_cases h : textE l = 0 ∧ ∀ x ∈ l, x.k ≠ 1
  · rcases textE_cases l with ⟨h1, h2, h3, h4⟩ | ⟨h1, -⟩ | ⟨h1, -⟩
    · have hb := Lx.bar_jn l (fun x hx => ⟨h2 x hx, h.2 x hx⟩)
      rw [← h3] at hb
      obtain ⟨u, hu, hu2⟩ := Lx.ok_of_bar hb (1, 1)
      exact .yes h1 h.2 u hu h4 (same_tk _ _ hu2)
    · omega
    · omega
  · exact .no h


set_option maxRecDepth 100000 in
set_option maxHeartbeats 4000000 in
theorem lback_long (A : Option Addr) (c : Nat) (l : List Tv) (s : ByteArray) (w : World) (he : EnvL w) (h1 : TokSl w w.heap.size A l) (hl : l.length ≤ 9223372036854775807) (hf : ∀ x ∈ l, x.fit) (hs : 3000 < s.size) (ws : s.size ≤ maxLen) :
    Calls Tryd.prog 4 #[.slice A l.length c, .string s] w fun e w' => e = .returned (.bool true) ∧ Below w.heap.size w w' := by
  have HE := Lib.hid he
  have HA := Lib.hid (fun W (hW : EnvL W) => lawake_any W hW)
  have C1 := Lib.hid (lshort_any A c l w h1 hl hf)
  unfold maxLen at ws
  clear he h1 hf
  go_enter Tryd.func4, Tryd.ntmps4
  go_wp2_with fail
  refine C1.out.mono ?_; rintro e w1 ⟨⟨b, rfl, -⟩, hb⟩
  have B1 := Lib.hid hb
  clear hb
  cases b
  · go_wp2_with fail
    refine (HA.out _ (HE.out.below B1.out)).mono ?_; rintro e w2 ⟨rfl, hb⟩
    go_wp2_with fail
    go_ret
    exact ⟨rfl, B1.out.trans (hb.mono B1.out.size)⟩
  · go_wp2_with fail
    refine (HA.out _ (HE.out.below B1.out)).mono ?_; rintro e w2 ⟨rfl, hb⟩
    go_wp2_with fail
    go_ret
    exact ⟨rfl, B1.out.trans (hb.mono B1.out.size)⟩


set_option maxRecDepth 100000 in
set_option maxHeartbeats 16000000 in
theorem lback_bad (A : Option Addr) (c : Nat) (l : List Tv) (s : ByteArray) (w : World) (he : EnvL w) (h1 : TokSl w w.heap.size A l) (hl : l.length ≤ 9223372036854775807) (hf : ∀ x ∈ l, x.fit) (hs : s.size ≤ 3000)
    (cc : Int) (nm : List UInt8) (xx yy : Int) (h5 : Lx.toks s.data.toList (1, 1) = .bad cc nm xx yy) (hcc : cc ≠ 0) :
    Calls Tryd.prog 4 #[.slice A l.length c, .string s] w fun e w' => e = .returned (.bool true) ∧ Below w.heap.size w w' := by
  have z1 : s.data.toList.length = s.size := Lib.size_eq s
  have HE := Lib.hid he
  have HA := Lib.hid (fun W (hW : EnvL W) => lawake_any W hW)
  have C1 := Lib.hid (lshort_any A c l w h1 hl hf)
  have FS := Lib.hid (first_any' l)
  have H1 := Lib.hid h1
  have HF := Lib.hid hf
  have C5 := Lib.hid (fun W (hW : EnvL W) => tokens_bad s.data.toList cc nm xx yy W hW (by omega) h5)
  rw [← ba_list s] at C5
  have e1 : (cc == 0) = false := by simpa using hcc
  have e2 : (cc != 0) = true := by simpa using hcc
  clear h5 hcc
  generalize hL : l.length = n at *
  have HL := Lib.hid hL
  clear he h1 hf z1 hL
  go_enter Tryd.func4, Tryd.ntmps4
  go_wp2_with fail
  refine C1.out.mono ?_; rintro e w1 ⟨⟨b, rfl, hn⟩, hb⟩
  have B1 := Lib.hid hb
  clear hb
  cases b
  case false =>
    clear hn
    go_wp2_with fail
    refine (HA.out _ (HE.out.below B1.out)).mono ?_; rintro e w2 ⟨rfl, hb⟩
    go_wp2_with fail
    go_ret
    exact ⟨rfl, B1.out.trans (hb.mono B1.out.size)⟩
  have hn4 := hn rfl
  clear hn
  have hw1 := B1.out.size
  go_wp2_with fail
  go_loopw [5, 29] (fun vb v wr => ∃ (k : Nat) (b : Bool), v = .int .i64 k ∧ vb = .bool b ∧ k ≤ n ∧ Hid (b = (l.take k).any fun x => x.k == 1) ∧ Below w.heap.size w wr) (fun _ v _ => n - (intOf v).toNat)
  case atStart => exact ⟨0, false, rfl, rfl, by omega, rfl, B1.out⟩
  case round =>
    obtain ⟨k, b, rfl, rfl, hk, hany, hB⟩ := hrel
    by_cases hlt : k < n
    · obtain ⟨ad1, rfl, hb1, at1⟩ := H1.out (by rw [HL.out]; omega); have hx : l[k]? = some (l[k]'(by rw [HL.out]; exact hlt)) := List.getElem?_eq_getElem _; have hmem : l[k]'(by rw [HL.out]; exact hlt) ∈ l := List.getElem_mem _; generalize l[k]'(by rw [HL.out]; exact hlt) = x at hx hmem; have tx := (at1 k x hx).below hB (by rw [block_of_add]; exact hb1); have g1 := block_of_add ad1 (k * 6); obtain ⟨⟨xb, xo, xs⟩, hE1⟩ : ∃ E, ad1.add (k * 6) = E := ⟨_, rfl⟩; rw [hE1] at tx g1; obtain ⟨x0, x1, x2, x3, x4, x5⟩ := tx; simp only at x0 x1 x2 x3 x4 x5 g1; have hsz := hB.size; have BB := Lib.hid hB; have hxb : xb < wr.heap.size := (by omega); have hk0 : (0 : Int) ≤ (k : Int) := (by omega); have hk1 : (k : Int) < (n : Int) := (by omega)
      have HX := Lib.hid hx
      clear hx hmem at1 g1 hb1 hB
      have NX : Hid ((b || (x.k == 1)) = (l.take (k + 1)).any fun x => x.k == 1) := by
        show (b || (x.k == 1)) = (l.take (k + 1)).any fun x => x.k == 1
        have hk2 : k < l.length := by rw [HL.out]; exact hlt
        have hx2 := HX.out
        rw [List.getElem?_eq_getElem hk2] at hx2
        injection hx2 with hx2
        rw [List.take_succ_eq_append_getElem hk2, List.any_append, ← hany.out, hx2]; simp
      cases b
      · go_wp2_with fail
        go_roundw
        case rel => exact ⟨k + 1, _, by go_num, rfl, by omega, NX.out, BB.out.alloc hsz _⟩
        case measure => simp [intOf]; omega
      · go_wp2_with fail
        go_roundw
        case rel => exact ⟨k + 1, _, by go_num, rfl, by omega, NX.out, BB.out.alloc hsz _⟩
        case measure => simp [intOf]; omega
    · have hkn : k = n := by omega
      have HANY : Hid (b = l.any fun x => x.k == 1) := hany.out.trans (by rw [hkn, List.take_of_length_le (by rw [HL.out]; omega)])
      have BB := Lib.hid hB
      have SLA := Lib.hid (H1.out.below hB)
      have hszw := hB.size
      clear hany hB
      go_wp2_with fail
      have CT := text_any' A c l _ (HE.out.below BB.out) (SLA.out.more hszw) (by rw [HL.out]; omega) HF.out
      rw [HL.out] at CT
      refine CT.mono ?_; rintro e w3 ⟨rfl, hb⟩
      clear CT
      have B3 := Lib.hid (BB.out.trans (hb.mono BB.out.size))
      have SLB := Lib.hid (SLA.out.below (hb.mono hszw))
      have hz3 := B3.out.size
      clear hb SLA
      rcases FS.out with hno | ⟨hE0, hW0, u, hu, hul2, hsame⟩
      · have HQ : Hid ((textE l == 0) = true → b = true) := fun h => by
          rw [HANY.out, List.any_eq_true]
          refine Classical.byContradiction fun hc => hno ⟨by simpa using h, fun x hx e => hc ⟨x, hx, by simpa using e⟩⟩
        generalize textE l = E0 at HQ
        generalize textS l = S0
        clear hno
        cases hE : (E0 == 0)
        · go_wp2_with fail
          refine (C5.out _ (HE.out.below B3.out)).mono ?_; rintro e w5 ⟨rfl, hb⟩
          simp only [faultV]
          have B5 := Lib.hid ((B3.out.trans (hb.mono B3.out.size)).alloc (B3.out.trans (hb.mono B3.out.size)).size (.cells #[.int .i64 cc, .string ⟨nm.toArray⟩, .int .i64 xx, .int .i64 yy] 37))
          clear hb
          go_wp2_with fail
          refine (HA.out _ (HE.out.below B5.out)).mono ?_; rintro e w6 ⟨rfl, hb⟩
          go_wp2_with fail
          go_ret
          exact ⟨rfl, B5.out.trans (hb.mono B5.out.size)⟩
        · obtain rfl : b = true := HQ.out hE
          go_wp2_with fail
          refine (C5.out _ (HE.out.below B3.out)).mono ?_; rintro e w5 ⟨rfl, hb⟩
          simp only [faultV]
          have B5 := Lib.hid ((B3.out.trans (hb.mono B3.out.size)).alloc (B3.out.trans (hb.mono B3.out.size)).size (.cells #[.int .i64 cc, .string ⟨nm.toArray⟩, .int .i64 xx, .int .i64 yy] 37))
          clear hb
          go_wp2_with fail
          refine (HA.out _ (HE.out.below B5.out)).mono ?_; rintro e w6 ⟨rfl, hb⟩
          go_wp2_with fail
          go_ret
          exact ⟨rfl, B5.out.trans (hb.mono B5.out.size)⟩
      · have hbf : b = false := by
          rw [HANY.out, List.any_eq_false]
          intro x hx
          simpa using hW0 x hx
        subst hbf
        have CU := Lib.hid (fun W (hW : EnvL W) => tokens_ok _ u W hW hul2 hu)
        have HS1 := Lib.hid hsame
        have LV : (u.map Tv.of).length = u.length := List.length_map _
        rw [hE0]
        clear hE0 hW0 hu hul2 hsame
        generalize textS l = S0 at CU
        go_wp2_with fail
        refine (CU.out _ (HE.out.below B3.out)).mono ?_; rintro e w4 ⟨A4, n4, rfl, sl4, -, l4, hb, -⟩
        simp only [faultV]
        have hz4 := hb.size
        have SL4 := Lib.hid (sl4.below (heap_new_b w4 (.cells #[.int .i64 0, .string ⟨#[]⟩, .int .i64 0, .int .i64 0] 37) _ (Nat.le_refl _)))
        have SLC := Lib.hid ((SLB.out.below (hb.mono (by omega))).below (heap_new_b w4 (.cells #[.int .i64 0, .string ⟨#[]⟩, .int .i64 0, .int .i64 0] 37) _ (by omega)))
        have B4 := Lib.hid ((B3.out.trans (hb.mono B3.out.size)).alloc (B3.out.trans (hb.mono B3.out.size)).size (.cells #[.int .i64 0, .string ⟨#[]⟩, .int .i64 0, .int .i64 0] 37))
        clear hb sl4
        go_wp2_with fail
        have CS := same_any A A4 c n4 l (u.map Tv.of) _ (SLC.out.more (by simp; omega)) (SL4.out.more (by simp)) (by rw [HL.out]; omega)
        rw [HL.out, LV, HS1.out] at CS
        refine CS.mono ?_; rintro e w8 ⟨rfl, hb⟩
        clear CS
        have BS := Lib.hid (B4.out.trans (hb.mono B4.out.size))
        clear hb
        go_wp2_with fail
        refine (C5.out _ (HE.out.below BS.out)).mono ?_; rintro e w5 ⟨rfl, hb⟩
        simp only [faultV]
        have B5 := Lib.hid ((BS.out.trans (hb.mono BS.out.size)).alloc (BS.out.trans (hb.mono BS.out.size)).size (.cells #[.int .i64 cc, .string ⟨nm.toArray⟩, .int .i64 xx, .int .i64 yy] 37))
        clear hb
        go_wp2_with fail
        refine (HA.out _ (HE.out.below B5.out)).mono ?_; rintro e w6 ⟨rfl, hb⟩
        go_wp2_with fail
        go_ret
        exact ⟨rfl, B5.out.trans (hb.mono B5.out.size)⟩

set_option maxRecDepth 100000 in
set_option maxHeartbeats 16000000 in
theorem lback_lim (A : Option Addr) (c : Nat) (l : List Tv) (s : ByteArray) (w : World) (he : EnvL w) (h1 : TokSl w w.heap.size A l) (hl : l.length ≤ 9223372036854775807) (hf : ∀ x ∈ l, x.fit) (hs : s.size ≤ 3000)
    (ts : List Lx.Tp) (h5 : Lx.toks s.data.toList (1, 1) = .ok ts) (hts : textS (ts.map Tv.of) = []) (hte : textE (ts.map Tv.of) = 3) (hft : ∀ x ∈ ts.map Tv.of, x.fit) :
    Calls Tryd.prog 4 #[.slice A l.length c, .string s] w fun e w' => e = .returned (.bool true) ∧ Below w.heap.size w w' := by
  have z1 : s.data.toList.length = s.size := Lib.size_eq s
  have HE := Lib.hid he
  have HA := Lib.hid (fun W (hW : EnvL W) => lawake_any W hW)
  have C1 := Lib.hid (lshort_any A c l w h1 hl hf)
  have FS := Lib.hid (first_any' l)
  have H1 := Lib.hid h1
  have HF := Lib.hid hf
  have C5 := Lib.hid (fun W (hW : EnvL W) => tokens_ok s.data.toList ts W hW (by omega) h5)
  rw [← ba_list s] at C5
  have HTE := Lib.hid hte
  have HFT := Lib.hid hft
  have LT : (ts.map Tv.of).length = ts.length := List.length_map _
  have HTS := Lib.hid hts
  have C7 := Lib.hid (fun W (hW : EnvL W) => tokens_ok [] [] W hW (by simp) (Lx.toks_nil (1, 1)))
  clear h5 hts hte hft
  generalize hL : l.length = n at *
  have HL := Lib.hid hL
  clear he h1 hf z1 hL
  go_enter Tryd.func4, Tryd.ntmps4
  go_wp2_with fail
  refine C1.out.mono ?_; rintro e w1 ⟨⟨b, rfl, hn⟩, hb⟩
  have B1 := Lib.hid hb
  clear hb
  cases b
  case false =>
    clear hn
    go_wp2_with fail
    refine (HA.out _ (HE.out.below B1.out)).mono ?_; rintro e w2 ⟨rfl, hb⟩
    go_wp2_with fail
    go_ret
    exact ⟨rfl, B1.out.trans (hb.mono B1.out.size)⟩
  have hn4 := hn rfl
  clear hn
  have hw1 := B1.out.size
  go_wp2_with fail
  go_loopw [5, 29] (fun vb v wr => ∃ (k : Nat) (b : Bool), v = .int .i64 k ∧ vb = .bool b ∧ k ≤ n ∧ Hid (b = (l.take k).any fun x => x.k == 1) ∧ Below w.heap.size w wr) (fun _ v _ => n - (intOf v).toNat)
  case atStart => exact ⟨0, false, rfl, rfl, by omega, rfl, B1.out⟩
  case round =>
    obtain ⟨k, b, rfl, rfl, hk, hany, hB⟩ := hrel
    by_cases hlt : k < n
    · obtain ⟨ad1, rfl, hb1, at1⟩ := H1.out (by rw [HL.out]; omega); have hx : l[k]? = some (l[k]'(by rw [HL.out]; exact hlt)) := List.getElem?_eq_getElem _; have hmem : l[k]'(by rw [HL.out]; exact hlt) ∈ l := List.getElem_mem _; generalize l[k]'(by rw [HL.out]; exact hlt) = x at hx hmem; have tx := (at1 k x hx).below hB (by rw [block_of_add]; exact hb1); have g1 := block_of_add ad1 (k * 6); obtain ⟨⟨xb, xo, xs⟩, hE1⟩ : ∃ E, ad1.add (k * 6) = E := ⟨_, rfl⟩; rw [hE1] at tx g1; obtain ⟨x0, x1, x2, x3, x4, x5⟩ := tx; simp only at x0 x1 x2 x3 x4 x5 g1; have hsz := hB.size; have BB := Lib.hid hB; have hxb : xb < wr.heap.size := (by omega); have hk0 : (0 : Int) ≤ (k : Int) := (by omega); have hk1 : (k : Int) < (n : Int) := (by omega)
      have HX := Lib.hid hx
      clear hx hmem at1 g1 hb1 hB
      have NX : Hid ((b || (x.k == 1)) = (l.take (k + 1)).any fun x => x.k == 1) := by
        show (b || (x.k == 1)) = (l.take (k + 1)).any fun x => x.k == 1
        have hk2 : k < l.length := by rw [HL.out]; exact hlt
        have hx2 := HX.out
        rw [List.getElem?_eq_getElem hk2] at hx2
        injection hx2 with hx2
        rw [List.take_succ_eq_append_getElem hk2, List.any_append, ← hany.out, hx2]; simp
      cases b
      · go_wp2_with fail
        go_roundw
        case rel => exact ⟨k + 1, _, by go_num, rfl, by omega, NX.out, BB.out.alloc hsz _⟩
        case measure => simp [intOf]; omega
      · go_wp2_with fail
        go_roundw
        case rel => exact ⟨k + 1, _, by go_num, rfl, by omega, NX.out, BB.out.alloc hsz _⟩
        case measure => simp [intOf]; omega
    · have hkn : k = n := by omega
      have HANY : Hid (b = l.any fun x => x.k == 1) := hany.out.trans (by rw [hkn, List.take_of_length_le (by rw [HL.out]; omega)])
      have BB := Lib.hid hB
      have SLA := Lib.hid (H1.out.below hB)
      have hszw := hB.size
      clear hany hB
      go_wp2_with fail
      have CT := text_any' A c l _ (HE.out.below BB.out) (SLA.out.more hszw) (by rw [HL.out]; omega) HF.out
      rw [HL.out] at CT
      refine CT.mono ?_; rintro e w3 ⟨rfl, hb⟩
      clear CT
      have B3 := Lib.hid (BB.out.trans (hb.mono BB.out.size))
      have SLB := Lib.hid (SLA.out.below (hb.mono hszw))
      have hz3 := B3.out.size
      clear hb SLA
      rcases FS.out with hno | ⟨hE0, hW0, u, hu, hul2, hsame⟩
      · have HQ : Hid ((textE l == 0) = true → b = true) := fun h => by
          rw [HANY.out, List.any_eq_true]
          refine Classical.byContradiction fun hc => hno ⟨by simpa using h, fun x hx e => hc ⟨x, hx, by simpa using e⟩⟩
        generalize textE l = E0 at HQ
        generalize textS l = S0
        clear hno
        cases hE : (E0 == 0)
        · go_wp2_with fail
          refine (C5.out _ (HE.out.below B3.out)).mono ?_; rintro e w5 ⟨A5, n5, rfl, sl5, -, l5, hb, -⟩
          simp only [faultV]
          have SL5 := Lib.hid (sl5.below (heap_new_b w5 (.cells #[.int .i64 0, .string ⟨#[]⟩, .int .i64 0, .int .i64 0] 37) _ (Nat.le_refl _)))
          have B5 := Lib.hid ((B3.out.trans (hb.mono B3.out.size)).alloc (B3.out.trans (hb.mono B3.out.size)).size (.cells #[.int .i64 0, .string ⟨#[]⟩, .int .i64 0, .int .i64 0] 37))
          have hz5 := (B3.out.trans (hb.mono B3.out.size)).size
          clear hb sl5
          go_wp2_with fail
          have CT := text_any' A5 n5 (ts.map Tv.of) _ (HE.out.below B5.out) (SL5.out.more (by simp)) (by rw [LT]; omega) HFT.out
          rw [LT, HTE.out] at CT
          refine CT.mono ?_; rintro e w6 ⟨rfl, hb⟩
          clear CT
          have B6 := Lib.hid (B5.out.trans (hb.mono B5.out.size))
          have hz6 := hb.size
          simp at hz6
          have SL6 := Lib.hid (SL5.out.below (hb.mono (by simp)))
          clear hb
          go_wp2_with fail
          rw [HTS.out]
          refine (C7.out _ (HE.out.below B6.out)).mono ?_; rintro e w7 ⟨A7, n7, rfl, -, -, -, hb, -⟩
          simp only [faultV]
          have B8 := Lib.hid ((B6.out.trans (hb.mono B6.out.size)).alloc (B6.out.trans (hb.mono B6.out.size)).size (.cells #[.int .i64 0, .string ⟨#[]⟩, .int .i64 0, .int .i64 0] 37))
          clear hb
          go_wp2_with fail
          refine (HA.out _ (HE.out.below B8.out)).mono ?_; rintro e w9 ⟨rfl, hb⟩
          go_wp2_with fail
          go_ret
          exact ⟨rfl, B8.out.trans (hb.mono B8.out.size)⟩
        · obtain rfl : b = true := HQ.out hE
          go_wp2_with fail
          refine (C5.out _ (HE.out.below B3.out)).mono ?_; rintro e w5 ⟨A5, n5, rfl, sl5, -, l5, hb, -⟩
          simp only [faultV]
          have SL5 := Lib.hid (sl5.below (heap_new_b w5 (.cells #[.int .i64 0, .string ⟨#[]⟩, .int .i64 0, .int .i64 0] 37) _ (Nat.le_refl _)))
          have B5 := Lib.hid ((B3.out.trans (hb.mono B3.out.size)).alloc (B3.out.trans (hb.mono B3.out.size)).size (.cells #[.int .i64 0, .string ⟨#[]⟩, .int .i64 0, .int .i64 0] 37))
          have hz5 := (B3.out.trans (hb.mono B3.out.size)).size
          clear hb sl5
          go_wp2_with fail
          have CT := text_any' A5 n5 (ts.map Tv.of) _ (HE.out.below B5.out) (SL5.out.more (by simp)) (by rw [LT]; omega) HFT.out
          rw [LT, HTE.out] at CT
          refine CT.mono ?_; rintro e w6 ⟨rfl, hb⟩
          clear CT
          have B6 := Lib.hid (B5.out.trans (hb.mono B5.out.size))
          have hz6 := hb.size
          simp at hz6
          have SL6 := Lib.hid (SL5.out.below (hb.mono (by simp)))
          clear hb
          go_wp2_with fail
          rw [HTS.out]
          refine (C7.out _ (HE.out.below B6.out)).mono ?_; rintro e w7 ⟨A7, n7, rfl, -, -, -, hb, -⟩
          simp only [faultV]
          have B8 := Lib.hid ((B6.out.trans (hb.mono B6.out.size)).alloc (B6.out.trans (hb.mono B6.out.size)).size (.cells #[.int .i64 0, .string ⟨#[]⟩, .int .i64 0, .int .i64 0] 37))
          clear hb
          go_wp2_with fail
          refine (HA.out _ (HE.out.below B8.out)).mono ?_; rintro e w9 ⟨rfl, hb⟩
          go_wp2_with fail
          go_ret
          exact ⟨rfl, B8.out.trans (hb.mono B8.out.size)⟩
      · have hbf : b = false := by
          rw [HANY.out, List.any_eq_false]
          intro x hx
          simpa using hW0 x hx
        subst hbf
        have CU := Lib.hid (fun W (hW : EnvL W) => tokens_ok _ u W hW hul2 hu)
        have HS1 := Lib.hid hsame
        have LV : (u.map Tv.of).length = u.length := List.length_map _
        rw [hE0]
        clear hE0 hW0 hu hul2 hsame
        generalize textS l = S0 at CU
        go_wp2_with fail
        refine (CU.out _ (HE.out.below B3.out)).mono ?_; rintro e w4 ⟨A4, n4, rfl, sl4, -, l4, hb, -⟩
        simp only [faultV]
        have hz4 := hb.size
        have SL4 := Lib.hid (sl4.below (heap_new_b w4 (.cells #[.int .i64 0, .string ⟨#[]⟩, .int .i64 0, .int .i64 0] 37) _ (Nat.le_refl _)))
        have SLC := Lib.hid ((SLB.out.below (hb.mono (by omega))).below (heap_new_b w4 (.cells #[.int .i64 0, .string ⟨#[]⟩, .int .i64 0, .int .i64 0] 37) _ (by omega)))
        have B4 := Lib.hid ((B3.out.trans (hb.mono B3.out.size)).alloc (B3.out.trans (hb.mono B3.out.size)).size (.cells #[.int .i64 0, .string ⟨#[]⟩, .int .i64 0, .int .i64 0] 37))
        clear hb sl4
        go_wp2_with fail
        have CS := same_any A A4 c n4 l (u.map Tv.of) _ (SLC.out.more (by simp; omega)) (SL4.out.more (by simp)) (by rw [HL.out]; omega)
        rw [HL.out, LV, HS1.out] at CS
        refine CS.mono ?_; rintro e w8 ⟨rfl, hb⟩
        clear CS
        have BS := Lib.hid (B4.out.trans (hb.mono B4.out.size))
        clear hb
        go_wp2_with fail
        refine (C5.out _ (HE.out.below BS.out)).mono ?_; rintro e w5 ⟨A5, n5, rfl, sl5, -, l5, hb, -⟩
        simp only [faultV]
        have SL5 := Lib.hid (sl5.below (heap_new_b w5 (.cells #[.int .i64 0, .string ⟨#[]⟩, .int .i64 0, .int .i64 0] 37) _ (Nat.le_refl _)))
        have B5 := Lib.hid ((BS.out.trans (hb.mono BS.out.size)).alloc (BS.out.trans (hb.mono BS.out.size)).size (.cells #[.int .i64 0, .string ⟨#[]⟩, .int .i64 0, .int .i64 0] 37))
        have hz5 := (BS.out.trans (hb.mono BS.out.size)).size
        clear hb sl5
        go_wp2_with fail
        have CT := text_any' A5 n5 (ts.map Tv.of) _ (HE.out.below B5.out) (SL5.out.more (by simp)) (by rw [LT]; omega) HFT.out
        rw [LT, HTE.out] at CT
        refine CT.mono ?_; rintro e w6 ⟨rfl, hb⟩
        clear CT
        have B6 := Lib.hid (B5.out.trans (hb.mono B5.out.size))
        have hz6 := hb.size
        simp at hz6
        have SL6 := Lib.hid (SL5.out.below (hb.mono (by simp)))
        clear hb
        go_wp2_with fail
        rw [HTS.out]
        refine (C7.out _ (HE.out.below B6.out)).mono ?_; rintro e w7 ⟨A7, n7, rfl, -, -, -, hb, -⟩
        simp only [faultV]
        have B8 := Lib.hid ((B6.out.trans (hb.mono B6.out.size)).alloc (B6.out.trans (hb.mono B6.out.size)).size (.cells #[.int .i64 0, .string ⟨#[]⟩, .int .i64 0, .int .i64 0] 37))
        clear hb
        go_wp2_with fail
        refine (HA.out _ (HE.out.below B8.out)).mono ?_; rintro e w9 ⟨rfl, hb⟩
        go_wp2_with fail
        go_ret
        exact ⟨rfl, B8.out.trans (hb.mono B8.out.size)⟩

set_option maxRecDepth 100000 in
set_option maxHeartbeats 16000000 in
theorem lback_same (A : Option Addr) (c : Nat) (l : List Tv) (s : ByteArray) (w : World) (he : EnvL w) (h1 : TokSl w w.heap.size A l) (hl : l.length ≤ 9223372036854775807) (hf : ∀ x ∈ l, x.fit) (hs : s.size ≤ 3000)
    (ts : List Lx.Tp) (h5 : Lx.toks s.data.toList (1, 1) = .ok ts) (us : List Lx.Tp) (hus : Lx.toks (textS (ts.map Tv.of)) (1, 1) = .ok us) (hul : (textS (ts.map Tv.of)).length ≤ 20000) (hte : textE (ts.map Tv.of) = 0) (hft : ∀ x ∈ ts.map Tv.of, x.fit) (hsm : sameTvs (ts.map Tv.of) (us.map Tv.of) = true) :
    Calls Tryd.prog 4 #[.slice A l.length c, .string s] w fun e w' => e = .returned (.bool true) ∧ Below w.heap.size w w' := by
  have z1 : s.data.toList.length = s.size := Lib.size_eq s
  have HE := Lib.hid he
  have HA := Lib.hid (fun W (hW : EnvL W) => lawake_any W hW)
  have C1 := Lib.hid (lshort_any A c l w h1 hl hf)
  have FS := Lib.hid (first_any' l)
  have H1 := Lib.hid h1
  have HF := Lib.hid hf
  have C5 := Lib.hid (fun W (hW : EnvL W) => tokens_ok s.data.toList ts W hW (by omega) h5)
  rw [← ba_list s] at C5
  have HTE := Lib.hid hte
  have HFT := Lib.hid hft
  have LT : (ts.map Tv.of).length = ts.length := List.length_map _
  have C7 := Lib.hid (fun W (hW : EnvL W) => tokens_ok _ us W hW hul hus)
  have HSM := Lib.hid hsm
  have LU : (us.map Tv.of).length = us.length := List.length_map _
  clear h5 hus hul hte hft hsm
  generalize hL : l.length = n at *
  have HL := Lib.hid hL
  clear he h1 hf z1 hL
  go_enter Tryd.func4, Tryd.ntmps4
  go_wp2_with fail
  refine C1.out.mono ?_; rintro e w1 ⟨⟨b, rfl, hn⟩, hb⟩
  have B1 := Lib.hid hb
  clear hb
  cases b
  case false =>
    clear hn
    go_wp2_with fail
    refine (HA.out _ (HE.out.below B1.out)).mono ?_; rintro e w2 ⟨rfl, hb⟩
    go_wp2_with fail
    go_ret
    exact ⟨rfl, B1.out.trans (hb.mono B1.out.size)⟩
  have hn4 := hn rfl
  clear hn
  have hw1 := B1.out.size
  go_wp2_with fail
  go_loopw [5, 29] (fun vb v wr => ∃ (k : Nat) (b : Bool), v = .int .i64 k ∧ vb = .bool b ∧ k ≤ n ∧ Hid (b = (l.take k).any fun x => x.k == 1) ∧ Below w.heap.size w wr) (fun _ v _ => n - (intOf v).toNat)
  case atStart => exact ⟨0, false, rfl, rfl, by omega, rfl, B1.out⟩
  case round =>
    obtain ⟨k, b, rfl, rfl, hk, hany, hB⟩ := hrel
    by_cases hlt : k < n
    · obtain ⟨ad1, rfl, hb1, at1⟩ := H1.out (by rw [HL.out]; omega); have hx : l[k]? = some (l[k]'(by rw [HL.out]; exact hlt)) := List.getElem?_eq_getElem _; have hmem : l[k]'(by rw [HL.out]; exact hlt) ∈ l := List.getElem_mem _; generalize l[k]'(by rw [HL.out]; exact hlt) = x at hx hmem; have tx := (at1 k x hx).below hB (by rw [block_of_add]; exact hb1); have g1 := block_of_add ad1 (k * 6); obtain ⟨⟨xb, xo, xs⟩, hE1⟩ : ∃ E, ad1.add (k * 6) = E := ⟨_, rfl⟩; rw [hE1] at tx g1; obtain ⟨x0, x1, x2, x3, x4, x5⟩ := tx; simp only at x0 x1 x2 x3 x4 x5 g1; have hsz := hB.size; have BB := Lib.hid hB; have hxb : xb < wr.heap.size := (by omega); have hk0 : (0 : Int) ≤ (k : Int) := (by omega); have hk1 : (k : Int) < (n : Int) := (by omega)
      have HX := Lib.hid hx
      clear hx hmem at1 g1 hb1 hB
      have NX : Hid ((b || (x.k == 1)) = (l.take (k + 1)).any fun x => x.k == 1) := by
        show (b || (x.k == 1)) = (l.take (k + 1)).any fun x => x.k == 1
        have hk2 : k < l.length := by rw [HL.out]; exact hlt
        have hx2 := HX.out
        rw [List.getElem?_eq_getElem hk2] at hx2
        injection hx2 with hx2
        rw [List.take_succ_eq_append_getElem hk2, List.any_append, ← hany.out, hx2]; simp
      cases b
      · go_wp2_with fail
        go_roundw
        case rel => exact ⟨k + 1, _, by go_num, rfl, by omega, NX.out, BB.out.alloc hsz _⟩
        case measure => simp [intOf]; omega
      · go_wp2_with fail
        go_roundw
        case rel => exact ⟨k + 1, _, by go_num, rfl, by omega, NX.out, BB.out.alloc hsz _⟩
        case measure => simp [intOf]; omega
    · have hkn : k = n := by omega
      have HANY : Hid (b = l.any fun x => x.k == 1) := hany.out.trans (by rw [hkn, List.take_of_length_le (by rw [HL.out]; omega)])
      have BB := Lib.hid hB
      have SLA := Lib.hid (H1.out.below hB)
      have hszw := hB.size
      clear hany hB
      go_wp2_with fail
      have CT := text_any' A c l _ (HE.out.below BB.out) (SLA.out.more hszw) (by rw [HL.out]; omega) HF.out
      rw [HL.out] at CT
      refine CT.mono ?_; rintro e w3 ⟨rfl, hb⟩
      clear CT
      have B3 := Lib.hid (BB.out.trans (hb.mono BB.out.size))
      have SLB := Lib.hid (SLA.out.below (hb.mono hszw))
      have hz3 := B3.out.size
      clear hb SLA
      rcases FS.out with hno | ⟨hE0, hW0, u, hu, hul2, hsame⟩
      · have HQ : Hid ((textE l == 0) = true → b = true) := fun h => by
          rw [HANY.out, List.any_eq_true]
          refine Classical.byContradiction fun hc => hno ⟨by simpa using h, fun x hx e => hc ⟨x, hx, by simpa using e⟩⟩
        generalize textE l = E0 at HQ
        generalize textS l = S0
        clear hno
        cases hE : (E0 == 0)
        · go_wp2_with fail
          refine (C5.out _ (HE.out.below B3.out)).mono ?_; rintro e w5 ⟨A5, n5, rfl, sl5, -, l5, hb, -⟩
          simp only [faultV]
          have SL5 := Lib.hid (sl5.below (heap_new_b w5 (.cells #[.int .i64 0, .string ⟨#[]⟩, .int .i64 0, .int .i64 0] 37) _ (Nat.le_refl _)))
          have B5 := Lib.hid ((B3.out.trans (hb.mono B3.out.size)).alloc (B3.out.trans (hb.mono B3.out.size)).size (.cells #[.int .i64 0, .string ⟨#[]⟩, .int .i64 0, .int .i64 0] 37))
          have hz5 := (B3.out.trans (hb.mono B3.out.size)).size
          clear hb sl5
          go_wp2_with fail
          have CT := text_any' A5 n5 (ts.map Tv.of) _ (HE.out.below B5.out) (SL5.out.more (by simp)) (by rw [LT]; omega) HFT.out
          rw [LT, HTE.out] at CT
          refine CT.mono ?_; rintro e w6 ⟨rfl, hb⟩
          clear CT
          have B6 := Lib.hid (B5.out.trans (hb.mono B5.out.size))
          have hz6 := hb.size
          simp at hz6
          have SL6 := Lib.hid (SL5.out.below (hb.mono (by simp)))
          clear hb
          go_wp2_with fail
          refine (C7.out _ (HE.out.below B6.out)).mono ?_; rintro e w7 ⟨A7, n7, rfl, sl7, -, l7, hb, -⟩
          simp only [faultV]
          have hz7 := hb.size
          have SL7 := Lib.hid (sl7.below (heap_new_b w7 (.cells #[.int .i64 0, .string ⟨#[]⟩, .int .i64 0, .int .i64 0] 37) _ (Nat.le_refl _)))
          have SL8 := Lib.hid ((SL6.out.below (hb.mono (by omega))).below (heap_new_b w7 (.cells #[.int .i64 0, .string ⟨#[]⟩, .int .i64 0, .int .i64 0] 37) _ (by omega)))
          have B7 := Lib.hid ((B6.out.trans (hb.mono B6.out.size)).alloc (B6.out.trans (hb.mono B6.out.size)).size (.cells #[.int .i64 0, .string ⟨#[]⟩, .int .i64 0, .int .i64 0] 37))
          clear hb sl7
          go_wp2_with fail
          have CS := same_any A5 A7 n5 n7 (ts.map Tv.of) (us.map Tv.of) _ (SL8.out.more (by simp; omega)) (SL7.out.more (by simp)) (by rw [LT]; omega)
          rw [LT, LU, HSM.out] at CS
          refine CS.mono ?_; rintro e w8 ⟨rfl, hb⟩
          clear CS
          have B8 := Lib.hid (B7.out.trans (hb.mono B7.out.size))
          clear hb
          go_wp2_with fail
          refine (HA.out _ (HE.out.below B8.out)).mono ?_; rintro e w9 ⟨rfl, hb⟩
          go_wp2_with fail
          go_ret
          exact ⟨rfl, B8.out.trans (hb.mono B8.out.size)⟩
        · obtain rfl : b = true := HQ.out hE
          go_wp2_with fail
          refine (C5.out _ (HE.out.below B3.out)).mono ?_; rintro e w5 ⟨A5, n5, rfl, sl5, -, l5, hb, -⟩
          simp only [faultV]
          have SL5 := Lib.hid (sl5.below (heap_new_b w5 (.cells #[.int .i64 0, .string ⟨#[]⟩, .int .i64 0, .int .i64 0] 37) _ (Nat.le_refl _)))
          have B5 := Lib.hid ((B3.out.trans (hb.mono B3.out.size)).alloc (B3.out.trans (hb.mono B3.out.size)).size (.cells #[.int .i64 0, .string ⟨#[]⟩, .int .i64 0, .int .i64 0] 37))
          have hz5 := (B3.out.trans (hb.mono B3.out.size)).size
          clear hb sl5
          go_wp2_with fail
          have CT := text_any' A5 n5 (ts.map Tv.of) _ (HE.out.below B5.out) (SL5.out.more (by simp)) (by rw [LT]; omega) HFT.out
          rw [LT, HTE.out] at CT
          refine CT.mono ?_; rintro e w6 ⟨rfl, hb⟩
          clear CT
          have B6 := Lib.hid (B5.out.trans (hb.mono B5.out.size))
          have hz6 := hb.size
          simp at hz6
          have SL6 := Lib.hid (SL5.out.below (hb.mono (by simp)))
          clear hb
          go_wp2_with fail
          refine (C7.out _ (HE.out.below B6.out)).mono ?_; rintro e w7 ⟨A7, n7, rfl, sl7, -, l7, hb, -⟩
          simp only [faultV]
          have hz7 := hb.size
          have SL7 := Lib.hid (sl7.below (heap_new_b w7 (.cells #[.int .i64 0, .string ⟨#[]⟩, .int .i64 0, .int .i64 0] 37) _ (Nat.le_refl _)))
          have SL8 := Lib.hid ((SL6.out.below (hb.mono (by omega))).below (heap_new_b w7 (.cells #[.int .i64 0, .string ⟨#[]⟩, .int .i64 0, .int .i64 0] 37) _ (by omega)))
          have B7 := Lib.hid ((B6.out.trans (hb.mono B6.out.size)).alloc (B6.out.trans (hb.mono B6.out.size)).size (.cells #[.int .i64 0, .string ⟨#[]⟩, .int .i64 0, .int .i64 0] 37))
          clear hb sl7
          go_wp2_with fail
          have CS := same_any A5 A7 n5 n7 (ts.map Tv.of) (us.map Tv.of) _ (SL8.out.more (by simp; omega)) (SL7.out.more (by simp)) (by rw [LT]; omega)
          rw [LT, LU, HSM.out] at CS
          refine CS.mono ?_; rintro e w8 ⟨rfl, hb⟩
          clear CS
          have B8 := Lib.hid (B7.out.trans (hb.mono B7.out.size))
          clear hb
          go_wp2_with fail
          refine (HA.out _ (HE.out.below B8.out)).mono ?_; rintro e w9 ⟨rfl, hb⟩
          go_wp2_with fail
          go_ret
          exact ⟨rfl, B8.out.trans (hb.mono B8.out.size)⟩
      · have hbf : b = false := by
          rw [HANY.out, List.any_eq_false]
          intro x hx
          simpa using hW0 x hx
        subst hbf
        have CU := Lib.hid (fun W (hW : EnvL W) => tokens_ok _ u W hW hul2 hu)
        have HS1 := Lib.hid hsame
        have LV : (u.map Tv.of).length = u.length := List.length_map _
        rw [hE0]
        clear hE0 hW0 hu hul2 hsame
        generalize textS l = S0 at CU
        go_wp2_with fail
        refine (CU.out _ (HE.out.below B3.out)).mono ?_; rintro e w4 ⟨A4, n4, rfl, sl4, -, l4, hb, -⟩
        simp only [faultV]
        have hz4 := hb.size
        have SL4 := Lib.hid (sl4.below (heap_new_b w4 (.cells #[.int .i64 0, .string ⟨#[]⟩, .int .i64 0, .int .i64 0] 37) _ (Nat.le_refl _)))
        have SLC := Lib.hid ((SLB.out.below (hb.mono (by omega))).below (heap_new_b w4 (.cells #[.int .i64 0, .string ⟨#[]⟩, .int .i64 0, .int .i64 0] 37) _ (by omega)))
        have B4 := Lib.hid ((B3.out.trans (hb.mono B3.out.size)).alloc (B3.out.trans (hb.mono B3.out.size)).size (.cells #[.int .i64 0, .string ⟨#[]⟩, .int .i64 0, .int .i64 0] 37))
        clear hb sl4
        go_wp2_with fail
        have CS := same_any A A4 c n4 l (u.map Tv.of) _ (SLC.out.more (by simp; omega)) (SL4.out.more (by simp)) (by rw [HL.out]; omega)
        rw [HL.out, LV, HS1.out] at CS
        refine CS.mono ?_; rintro e w8 ⟨rfl, hb⟩
        clear CS
        have BS := Lib.hid (B4.out.trans (hb.mono B4.out.size))
        clear hb
        go_wp2_with fail
        refine (C5.out _ (HE.out.below BS.out)).mono ?_; rintro e w5 ⟨A5, n5, rfl, sl5, -, l5, hb, -⟩
        simp only [faultV]
        have SL5 := Lib.hid (sl5.below (heap_new_b w5 (.cells #[.int .i64 0, .string ⟨#[]⟩, .int .i64 0, .int .i64 0] 37) _ (Nat.le_refl _)))
        have B5 := Lib.hid ((BS.out.trans (hb.mono BS.out.size)).alloc (BS.out.trans (hb.mono BS.out.size)).size (.cells #[.int .i64 0, .string ⟨#[]⟩, .int .i64 0, .int .i64 0] 37))
        have hz5 := (BS.out.trans (hb.mono BS.out.size)).size
        clear hb sl5
        go_wp2_with fail
        have CT := text_any' A5 n5 (ts.map Tv.of) _ (HE.out.below B5.out) (SL5.out.more (by simp)) (by rw [LT]; omega) HFT.out
        rw [LT, HTE.out] at CT
        refine CT.mono ?_; rintro e w6 ⟨rfl, hb⟩
        clear CT
        have B6 := Lib.hid (B5.out.trans (hb.mono B5.out.size))
        have hz6 := hb.size
        simp at hz6
        have SL6 := Lib.hid (SL5.out.below (hb.mono (by simp)))
        clear hb
        go_wp2_with fail
        refine (C7.out _ (HE.out.below B6.out)).mono ?_; rintro e w7 ⟨A7, n7, rfl, sl7, -, l7, hb, -⟩
        simp only [faultV]
        have hz7 := hb.size
        have SL7 := Lib.hid (sl7.below (heap_new_b w7 (.cells #[.int .i64 0, .string ⟨#[]⟩, .int .i64 0, .int .i64 0] 37) _ (Nat.le_refl _)))
        have SL8 := Lib.hid ((SL6.out.below (hb.mono (by omega))).below (heap_new_b w7 (.cells #[.int .i64 0, .string ⟨#[]⟩, .int .i64 0, .int .i64 0] 37) _ (by omega)))
        have B7 := Lib.hid ((B6.out.trans (hb.mono B6.out.size)).alloc (B6.out.trans (hb.mono B6.out.size)).size (.cells #[.int .i64 0, .string ⟨#[]⟩, .int .i64 0, .int .i64 0] 37))
        clear hb sl7
        go_wp2_with fail
        have CS := same_any A5 A7 n5 n7 (ts.map Tv.of) (us.map Tv.of) _ (SL8.out.more (by simp; omega)) (SL7.out.more (by simp)) (by rw [LT]; omega)
        rw [LT, LU, HSM.out] at CS
        refine CS.mono ?_; rintro e w8 ⟨rfl, hb⟩
        clear CS
        have B8 := Lib.hid (B7.out.trans (hb.mono B7.out.size))
        clear hb
        go_wp2_with fail
        refine (HA.out _ (HE.out.below B8.out)).mono ?_; rintro e w9 ⟨rfl, hb⟩
        go_wp2_with fail
        go_ret
        exact ⟨rfl, B8.out.trans (hb.mono B8.out.size)⟩

/-- LexBack returns true. -/
theorem lback_any (A : Option Addr) (c : Nat) (l : List Tv) (s : ByteArray) (w : World) (he : EnvL w) (h1 : TokSl w w.heap.size A l) (hl : l.length ≤ 9223372036854775807) (hf : ∀ x ∈ l, x.fit) (ws : s.size ≤ maxLen) :
    Calls Tryd.prog 4 #[.slice A l.length c, .string s] w fun e w' => e = .returned (.bool true) ∧ Below w.heap.size w w' := by
  by_cases hs : 3000 < s.size
  · exact lback_long A c l s w he h1 hl hf hs ws
  · rcases again_any s.data.toList with ⟨cc, nm, x, y, h, hc⟩ | ⟨ts, h, h2, h3, h4⟩ | ⟨ts, h, u, h2, h3, h4, h5, h6⟩
    · exact lback_bad A c l s w he h1 hl hf (by omega) cc nm x y h hc
    · exact lback_lim A c l s w he h1 hl hf (by omega) ts h h2 h3 h4
    · exact lback_same A c l s w he h1 hl hf (by omega) ts h u h2 h3 h4 h5 h6
end Go.Proofs.YtcgiibjkonleeaaDoor
