/-
  The chapter's examples hold: awake returns true.
-/
import Derived.Test.YtmfbnlaohlnljaaGreatDoorLxR
namespace Go.Proofs.YtmfbnlaohlnljaaGreatDoor
open Go.RowKit

def Tv.of (t : Lx.Tp) : Tv := ⟨t.kind, ⟨t.text.toArray⟩, t.p, t.q, t.line, t.col⟩
theorem rowOf_get : ∀ (l : List Lx.Tp) (j : Nat) (x : Lx.Tp), l[j]? = some x → ∀ i, i < 6 → (rowOf l)[j * 6 + i]? = (tpCells x)[i]?
  | [], j, x, h, _, _ => by simp at h
  | y :: l, 0, x, h, i, hi => by
    simp at h; subst h
    rw [show rowOf (y :: l) = tpCells y ++ rowOf l by simp [rowOf], List.getElem?_append_left (by simp [tpCells]; omega)]
    simp
  | y :: l, j + 1, x, h, i, hi => by
    rw [show rowOf (y :: l) = tpCells y ++ rowOf l by simp [rowOf], List.getElem?_append_right (by simp [tpCells]; omega)]
    have := rowOf_get l j x (by simpa using h) i hi
    rw [← this]
    congr 1
    simp [tpCells]; omega
theorem addr_row (g m : Nat) : (⟨g, 0, none⟩ : Addr).add m = ⟨g, m, none⟩ := by unfold Addr.add; split <;> simp_all
/-- A slice of tokens of the call's own, as one that is read. -/
theorem Toks.sl {w : World} {B : Nat} {v : Value} {l : List Lx.Tp} (h : Toks w B v l) : ∃ A c, v = .slice A l.length c ∧ TokSl w w.heap.size A (l.map Tv.of) ∧ (0 < l.length → ∃ g, A = some ⟨g, 0, none⟩ ∧ B ≤ g ∧ g < w.heap.size) ∧ (A = none → c = 0 ∧ l = []) := by
  rcases h.2 with ⟨rfl, h0⟩ | ⟨g, cap, cur, rfl, hB, hg, hn, hc, hs, ht⟩
  · rw [h0]
    exact ⟨none, 0, rfl, fun hn => by rw [List.length_map] at hn; omega, fun hn => by omega, fun _ => ⟨rfl, List.eq_nil_of_length_eq_zero h0⟩⟩
  · refine ⟨some ⟨g, 0, none⟩, cap, rfl, fun _ => ⟨⟨g, 0, none⟩, rfl, (Array.getElem?_eq_some_iff.1 hg).1, fun j x hj => ?_⟩, fun _ => ⟨g, rfl, hB, (Array.getElem?_eq_some_iff.1 hg).1⟩, fun e => by cases e⟩
    rw [List.getElem?_map] at hj
    cases hy : l[j]? with
    | none => rw [hy] at hj; cases hj
    | some y =>
      rw [hy] at hj
      injection hj with hj
      subst hj
      have key : ∀ i u, i < 6 → (tpCells y)[i]? = some u → w.cell? ⟨g, j * 6 + i, none⟩ = some u := fun i u hi hu => by
        have := World.ownsRow.cells h (g := g) rfl (j * 6 + i) u (by rw [rowOf_get l j y hy i hi]; exact hu)
        rwa [addr_row] at this
      rw [addr_row]
      exact ⟨key 0 _ (by omega) rfl, key 1 _ (by omega) rfl, key 2 _ (by omega) rfl, key 3 _ (by omega) rfl, key 4 _ (by omega) rfl, key 5 _ (by omega) rfl⟩

/-- What a call of Tokens leaves, read. -/
def TokRet (ts : List Lx.Tp) (w : World) (e : Ending) (w' : World) : Prop := ∃ A c, e = .returned (.tuple #[.slice A ts.length c, faultV 0 [] 0 0]) ∧ TokSl w' w'.heap.size A (ts.map Tv.of) ∧ (0 < ts.length → ∃ g, A = some ⟨g, 0, none⟩ ∧ w.heap.size ≤ g ∧ g < w'.heap.size) ∧ ts.length ≤ 20000 ∧ Below w.heap.size w w' ∧ (A = none → c = 0 ∧ ts = [])
theorem tokens_ok (l : List UInt8) (ts : List Lx.Tp) (w : World) (he : EnvL w) (hl : l.length ≤ 20000) (h : Lx.toks l (1, 1) = .ok ts) :
    Calls Tryz.prog 10 #[.string ⟨l.toArray⟩] w (TokRet ts w) := by
  have := tokens_any l w he hl
  rw [h] at this
  refine this.mono fun e w' ⟨hb, v, h1, h2, h3⟩ => ?_
  obtain ⟨A, c, rfl, h4, h5, h6⟩ := h2.sl
  exact ⟨A, c, h1, h4, h5, h3, hb, h6⟩
theorem tokens_bad (l : List UInt8) (c : Int) (nm : List UInt8) (a b : Int) (w : World) (he : EnvL w) (hl : l.length ≤ 20000) (h : Lx.toks l (1, 1) = .bad c nm a b) :
    Calls Tryz.prog 10 #[.string ⟨l.toArray⟩] w fun e w' => e = .returned (.tuple #[.slice none 0 0, faultV c nm a b]) ∧ Below w.heap.size w w' := by
  have := tokens_any l w he hl
  rw [h] at this
  exact this.mono fun e w' ⟨hb, h1⟩ => ⟨h1, hb⟩

def aw1 : List UInt8 := [120, 49, 61, 46, 53, 42, 122, 46, 108, 101, 102, 116, 59, 37, 101, 110, 100]
def aw2 : List UInt8 := [49, 46, 46, 50]
def aw3 : List UInt8 := [124, 61, 58, 124, 62]
def aw4 : List UInt8 := [32, 35]
def awT1 : List Lx.Tp := [⟨⟨0, [120], 0, 0⟩, 1, 1⟩, ⟨⟨2, [], 1, 1⟩, 1, 2⟩, ⟨⟨4, [61], 0, 0⟩, 1, 3⟩, ⟨⟨2, [], 1, 2⟩, 1, 4⟩, ⟨⟨4, [42], 0, 0⟩, 1, 6⟩, ⟨⟨0, [122], 0, 0⟩, 1, 7⟩, ⟨⟨4, [46], 0, 0⟩, 1, 8⟩, ⟨⟨0, [108, 101, 102, 116], 0, 0⟩, 1, 9⟩, ⟨⟨4, [59], 0, 0⟩, 1, 13⟩]
def awS : List UInt8 := [120, 32, 49, 32, 61, 32, 48, 46, 53, 32, 42, 32, 122, 32, 46, 32, 108, 101, 102, 116, 32, 59]
theorem aw1_toks : Lx.toks aw1 (1, 1) = .ok awT1 := by decide +kernel
theorem aw2_toks : Lx.toks aw2 (1, 1) = .ok [⟨⟨2, [], 1, 1⟩, 1, 1⟩, ⟨⟨4, [46, 46], 0, 0⟩, 1, 2⟩, ⟨⟨2, [], 2, 1⟩, 1, 4⟩] := by decide +kernel
theorem aw3_toks : Lx.toks aw3 (1, 1) = .ok [⟨⟨4, [124, 61, 58, 124], 0, 0⟩, 1, 1⟩, ⟨⟨4, [62], 0, 0⟩, 1, 5⟩] := by decide +kernel
theorem aw4_toks : Lx.toks aw4 (1, 1) = .bad 10 [35] 1 2 := by decide +kernel
theorem it1 : Lib.itoa 1 = [49] := by simp [Lib.itoa, Lib.decDigits_one]
theorem it0 : Lib.itoa 0 = [48] := by simp [Lib.itoa, Lib.decDigits_one]
theorem it15 : Lib.itoa 150000 = [49, 53, 48, 48, 48, 48] := by
  have : (150000 : Int) = ((150000 : Nat) : Int) := rfl
  rw [this, Lib.itoa_nonneg]
  simp [Lib.decDigits]
theorem sp11 : Lx.spellN 1 1 = [49] := by simp [Lx.spellN, it1]
theorem sp12 : Lx.spellN 1 2 = [48, 46, 53] := by
  have : (100000 + (1 : Int) % 2 * (100000 / 2)) = 150000 := by decide
  simp [Lx.spellN, it0, it15, Lib.trimRightB]
theorem aw_textS : textS (awT1.map Tv.of) = awS ∧ textE (awT1.map Tv.of) = 0 := by
  have hok : (awT1.map Tv.of).all Tv.ok = true := by decide +kernel
  have hsp : (awT1.map Tv.of).map Tv.sp = [[120], [49], [61], [48, 46, 53], [42], [122], [46], [108, 101, 102, 116], [59]] := by
    simp [awT1, Tv.of, Tv.sp, Lx.spell, sp11, sp12]
  rw [textS, textE, hok, hsp]
  decide

theorem fill_mem : ([102, 105, 108, 108] : List UInt8) ∈ Lx.wds := by decide +kernel
theorem pmp_mem : ([43, 45, 43] : List UInt8) ∈ Lx.sgs := by decide +kernel
theorem heap_new_b (w : World) (o : Obj) (B : Nat) (h : B ≤ w.heap.size) : Below B w (w.alloc o) := (Below.refl _ _).alloc h o
theorem fit_of (ts : List Lx.Tp) (h : ∀ t ∈ ts, -9223372036854775808 ≤ t.p ∧ t.p ≤ 9223372036854775807 ∧ -9223372036854775808 ≤ t.q ∧ t.q ≤ 9223372036854775807 ∧ t.text.length ≤ 100000) : ∀ x ∈ ts.map Tv.of, x.fit := by
  intro x hx
  obtain ⟨t, ht, rfl⟩ := List.mem_map.1 hx
  obtain ⟨h1, h2, h3, h4, h5⟩ := h t ht
  exact ⟨h1, h2, h3, h4, by show (⟨t.text.toArray⟩ : ByteArray).size ≤ maxLen; rw [ba_size]; unfold maxLen; omega⟩
theorem aw1_fit : ∀ x ∈ awT1.map Tv.of, x.fit := fit_of awT1 (by
  have : (awT1.all fun t => decide (-9223372036854775808 ≤ t.p ∧ t.p ≤ 9223372036854775807 ∧ -9223372036854775808 ≤ t.q ∧ t.q ≤ 9223372036854775807 ∧ t.text.length ≤ 100000)) = true := by decide +kernel
  intro t ht
  simpa using List.all_eq_true.1 this t ht)

set_option maxRecDepth 100000 in
set_option maxHeartbeats 8000000 in
/-- The chapter's examples hold. -/
theorem lawake_any (w : World) (he : EnvL w) : Calls Tryz.prog 9 #[] w fun e w' => e = .returned (.bool true) ∧ Below w.heap.size w w' := by
  have HE := Lib.hid he
  have c1 := Lib.hid (fun W (hW : EnvL W) => tokens_ok aw1 awT1 W hW (by decide) aw1_toks)
  have c2 := Lib.hid (fun W (hW : EnvL W) => tokens_ok aw2 _ W hW (by decide) aw2_toks)
  have c3 := Lib.hid (fun W (hW : EnvL W) => tokens_ok aw3 _ W hW (by decide) aw3_toks)
  have c4 := Lib.hid (fun W (hW : EnvL W) => tokens_bad aw4 _ _ _ _ W hW (by decide) aw4_toks)
  clear he
  go_enter Tryz.func9, Tryz.ntmps9
  go_wp2_with fail
  refine (c1.out _ HE.out).mono ?_; rintro e w1 ⟨A1, n1, rfl, sl1, -, -, hb1, -⟩
  have B1 := Lib.hid hb1
  have hz1 := hb1.size
  have len1 : awT1.length = 9 := rfl
  simp only [faultV]
  have SL1 := Lib.hid (sl1.below (heap_new_b w1 (.cells #[.int .i64 0, .string ⟨#[]⟩, .int .i64 0, .int .i64 0] 26) _ (Nat.le_refl _)))
  have B2 := Lib.hid (hb1.alloc hz1 (.cells #[.int .i64 0, .string ⟨#[]⟩, .int .i64 0, .int .i64 0] 26))
  have K1 := Lib.hid (heap_alloc_new w1 (.cells #[.int .i64 0, .string ⟨#[]⟩, .int .i64 0, .int .i64 0] 26))
  clear hb1 sl1
  go_wp2_with fail
  refine (text_any' A1 n1 (awT1.map Tv.of) _ (HE.out.below B2.out) (SL1.out.more (by simp)) (by decide) aw1_fit).mono ?_; rintro e w2 ⟨rfl, hb2⟩
  rw [aw_textS.1, aw_textS.2, show (⟨awS.toArray⟩ : ByteArray) = ⟨#[120, 32, 49, 32, 61, 32, 48, 46, 53, 32, 42, 32, 122, 32, 46, 32, 108, 101, 102, 116, 32, 59]⟩ from rfl]
  have B3 := Lib.hid (B2.out.trans (hb2.mono B2.out.size))
  have K2 := Lib.hid ((hb2.block w1.heap.size (by simp)).trans K1.out)
  have hz2 := hb2.size
  simp at hz2
  clear hb2
  go_wp2_with fail
  refine (c2.out _ (HE.out.below B3.out)).mono ?_; rintro e w3 ⟨A3, n3, rfl, -, -, -, hb3, -⟩
  have B4 := Lib.hid (B3.out.trans (hb3.mono B3.out.size))
  have K3 := Lib.hid ((hb3.block w1.heap.size (by omega)).trans K2.out)
  have hz3 := hb3.size
  simp only [faultV]
  have B5 := Lib.hid (B4.out.alloc B4.out.size (.cells #[.int .i64 0, .string ⟨#[]⟩, .int .i64 0, .int .i64 0] 26))
  have G1 := Lib.hid (heap_alloc_new w3 (.cells #[.int .i64 0, .string ⟨#[]⟩, .int .i64 0, .int .i64 0] 26))
  have K4 := Lib.hid (blk_alloc K3.out (.cells #[.int .i64 0, .string ⟨#[]⟩, .int .i64 0, .int .i64 0] 26))
  clear hb3
  go_wp2_with fail
  refine (c3.out _ (HE.out.below B5.out)).mono ?_; rintro e w4 ⟨A4, n4, rfl, sl4, ha4, -, hb4, -⟩
  obtain ⟨g4, rfl, hg4, hg4'⟩ := ha4 (by decide)
  have t4 := (sl4 (by decide))
  obtain ⟨ad4, had4, -, hcell4⟩ := t4
  have q4 := (hcell4 0 _ rfl).2.1
  injection had4 with had4
  subst had4
  simp only [Nat.zero_mul] at q4
  have B6 := Lib.hid (B5.out.trans (hb4.mono B5.out.size))
  have K5 := Lib.hid ((hb4.block w1.heap.size (by simp; omega)).trans K4.out)
  have G2 := Lib.hid ((hb4.block w3.heap.size (by simp)).trans G1.out)
  have hz4 := hb4.size
  simp at hz4
  have Q4 : Hid (w4.cell? ⟨g4, 1, none⟩ = some (.string ⟨#[124, 61, 58, 124]⟩)) := q4
  clear hb4 sl4 hcell4 q4 ha4
  simp only [faultV]
  have B7 := Lib.hid (B6.out.alloc B6.out.size (.cells #[.int .i64 0, .string ⟨#[]⟩, .int .i64 0, .int .i64 0] 26))
  have H1 := Lib.hid (heap_alloc_new w4 (.cells #[.int .i64 0, .string ⟨#[]⟩, .int .i64 0, .int .i64 0] 26))
  have K6 := Lib.hid (blk_alloc K5.out (.cells #[.int .i64 0, .string ⟨#[]⟩, .int .i64 0, .int .i64 0] 26))
  have G3 := Lib.hid (blk_alloc G2.out (.cells #[.int .i64 0, .string ⟨#[]⟩, .int .i64 0, .int .i64 0] 26))
  go_wp2_with fail
  refine (c4.out _ (HE.out.below B7.out)).mono ?_; rintro e w5 ⟨rfl, hb5⟩
  have B8 := Lib.hid (B7.out.trans (hb5.mono B7.out.size))
  have K7 := (hb5.block w1.heap.size (by simp; omega)).trans K6.out
  have G4 := (hb5.block w3.heap.size (by simp; omega)).trans G3.out
  have H2 := (hb5.block w4.heap.size (by simp)).trans H1.out
  have Q5 : w5.cell? ⟨g4, 1, none⟩ = some (.string ⟨#[124, 61, 58, 124]⟩) := by
    rw [hb5.cell (p := ⟨g4, 1, none⟩) (by simp; omega), World.cell?_alloc_lt _ _ _ (by simpa using hg4')]; exact Q4.out
  have hz5 := hb5.size
  simp at hz5
  simp only [faultV]
  obtain ⟨⟨k0, k1, k2, k3⟩, -, kl⟩ := blk4 K7
  obtain ⟨⟨g0, g1, g2, g3⟩, -, gl⟩ := blk4 G4
  obtain ⟨⟨h0, h1, h2, h3⟩, -, hl⟩ := blk4 H2
  have B9 := Lib.hid (B8.out.alloc B8.out.size (.cells #[.int .i64 10, .string ⟨[35].toArray⟩, .int .i64 1, .int .i64 2] 26))
  have hg5 : g4 < w5.heap.size := by omega
  clear hb5 K7 G4 H2 K1 K2 K3 K4 K5 K6 G1 G2 G3 H1 Q4 SL1
  go_wp2_with fail
  refine (word_any ⟨#[102, 105, 108, 108]⟩ _ (HE.out.below B9.out)).mono ?_; rintro e w6 ⟨rfl, hb6⟩
  have hw : decide ((⟨#[102, 105, 108, 108]⟩ : ByteArray).data.toList ∈ Lx.wds) = true := decide_eq_true fill_mem
  rw [hw]
  have B10 := Lib.hid (B9.out.trans (hb6.mono B9.out.size))
  clear hb6 hw k0 k1 k2 k3 g0 g1 g2 g3 h0 h1 h2 h3 Q5
  go_wp2_with fail
  refine (sign_any ⟨#[43, 45, 43]⟩ _ (HE.out.below B10.out)).mono ?_; rintro e w7 ⟨rfl, rfl⟩
  have hw : decide ((⟨#[43, 45, 43]⟩ : ByteArray).data.toList ∈ Lx.sgs) = true := decide_eq_true pmp_mem
  rw [hw]
  clear hw
  go_wp2_with fail
  refine (words_any _ (HE.out.below B10.out)).mono ?_; rintro e w8 ⟨rfl, -, hb8⟩
  have B11 := Lib.hid (B10.out.trans (hb8.mono B10.out.size))
  clear hb8
  go_wp2_with fail
  go_ret
  exact ⟨rfl, B11.out⟩
end Go.Proofs.YtmfbnlaohlnljaaGreatDoor
