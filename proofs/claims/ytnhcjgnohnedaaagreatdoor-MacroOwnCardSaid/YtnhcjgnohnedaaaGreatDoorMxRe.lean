/-
  Contracts of the reference of macros: all tokens valid, names exchanged; tokens that are few.
  Contract of the reference of macros: names exchanged.
  The walk of MacroRenames: it returns true at any tokens and names.
-/
import Derived.Test.YtnhcjgnohnedaaaGreatDoorLxM5
import Derived.Test.YtnhcjgnohnedaaaGreatDoorLrD
import Derived.Test.YtnhcjgnohnedaaaGreatDoorMxM
import Derived.Test.YtnhcjgnohnedaaaGreatDoorLxT
namespace Go.Proofs.YtnhcjgnohnedaaaGreatDoor
open Go.RowKit

theorem below_row {B : Nat} {a w w' : World} {row : Option Nat} (hb : Below B a w) (hg : w.grownBy w' row) (hr : ∀ k, row = some k → B ≤ k) (hB : B ≤ w.heap.size) : Below B a w' :=
  ⟨hg.os.trans hb.os, hg.tape.trans hb.tape, hg.output.trans hb.output, Nat.le_trans hb.size hg.size, fun k hk => (hg.block k (by omega) (fun e => by have := hr k e.symm; omega)).trans (hb.block k hk)⟩
set_option maxRecDepth 100000 in
set_option maxHeartbeats 4000000 in
/-- It returns true of at most 250 tokens alone. -/
theorem mfew_any (A : Option Addr) (c : Nat) (l : List Tv) (w : World) (h1 : TokSl w w.heap.size A l) (hl : l.length ≤ 9223372036854775807) :
    Calls Tryz.prog 9 #[.slice A l.length c] w fun e w' => (∃ b, e = .returned (.bool b) ∧ (b = true → l.length ≤ 250)) ∧ Below w.heap.size w w' := by
  have H1 := Lib.hid h1
  generalize hL : l.length = n at *
  have HL := Lib.hid hL
  clear h1 hL
  go_enter Tryz.func9, Tryz.ntmps9
  go_wp2_with fail
  go_loopw [3, 8] (fun vs v wr => ∃ (k : Nat) (s : Int), v = .int .i64 k ∧ vs = .int .i64 s ∧ k ≤ n ∧ Below w.heap.size w wr) (fun _ v _ => n - (intOf v).toNat)
  case atStart => exact ⟨0, 0, rfl, rfl, by omega, Below.refl _ _⟩
  case round =>
    obtain ⟨k, s, rfl, rfl, hk, hB⟩ := hrel
    by_cases hlt : k < n
    · obtain ⟨ad1, rfl, hb1, at1⟩ := H1.out (by rw [HL.out]; omega); have hx : l[k]? = some (l[k]'(by rw [HL.out]; exact hlt)) := List.getElem?_eq_getElem _; have hmem : l[k]'(by rw [HL.out]; exact hlt) ∈ l := List.getElem_mem _; generalize l[k]'(by rw [HL.out]; exact hlt) = x at hx hmem; have tx := (at1 k x hx).below hB (by rw [block_of_add]; exact hb1); have g1 := block_of_add ad1 (k * 6); obtain ⟨⟨xb, xo, xs⟩, hE1⟩ : ∃ E, ad1.add (k * 6) = E := ⟨_, rfl⟩; rw [hE1] at tx g1; obtain ⟨x0, x1, x2, x3, x4, x5⟩ := tx; simp only at x0 x1 x2 x3 x4 x5 g1; have hsz := hB.size
      have BB := Lib.hid hB
      have hxb : xb < wr.heap.size := by omega
      have hk0 : (0 : Int) ≤ (k : Int) := by omega
      have hk1 : (k : Int) < (n : Int) := by omega
      clear hx hmem at1 g1 hb1 hB
      go_wp2_with fail
      go_roundw
      case rel => exact ⟨k + 1, _, by go_num, rfl, by omega, BB.out.alloc hsz _⟩
      case measure => simp [intOf]; omega
    · by_cases h4 : n ≤ 250
      · go_wp2_with fail
        go_ret
        exact ⟨⟨_, rfl, fun _ => h4⟩, hB⟩
      · go_wp2_with fail
        go_ret
        exact ⟨rfl, hB⟩

set_option maxRecDepth 100000 in
set_option maxHeartbeats 8000000 in
theorem rall_any (A : Option Addr) (c : Nat) (l : List Tv) (w : World) (h1 : TokSl w w.heap.size A l) (hl : l.length ≤ 9223372036854775807) (hf : ∀ x ∈ l, x.fit) :
    Calls Tryz.prog 19 #[.slice A l.length c] w fun e w' => e = .returned (.bool (l.all Tv.ok)) ∧ Below w.heap.size w w' := by
  have H1 := Lib.hid h1
  have HF := Lib.hid hf
  obtain ⟨r, hr⟩ : ∃ r, r = l.all Tv.ok := ⟨_, rfl⟩
  rw [← hr]
  have HR := Lib.hid hr
  generalize hL : l.length = n at *
  have HL := Lib.hid hL
  clear h1 hf hr hL
  go_enter Tryz.func19, Tryz.ntmps19
  go_wp2_with fail
  go_loopw [7] (fun v wr => ∃ k : Nat, v = .int .i64 k ∧ k ≤ n ∧ Hid (∀ (i : Nat) (x : Tv), i < k → l[i]? = some x → x.ok = true) ∧ Below w.heap.size w wr) (fun v _ => n - (intOf v).toNat)
  case atStart => exact ⟨0, rfl, by omega, fun i x h => by omega, Below.refl _ _⟩
  case round =>
    obtain ⟨k, rfl, hk, hs, hB⟩ := hrel
    by_cases hlt : k < n
    · obtain ⟨ad1, rfl, hb1, at1⟩ := H1.out (by rw [HL.out]; omega); have hx : l[k]? = some (l[k]'(by rw [HL.out]; exact hlt)) := List.getElem?_eq_getElem _; have hmem : l[k]'(by rw [HL.out]; exact hlt) ∈ l := List.getElem_mem _; generalize l[k]'(by rw [HL.out]; exact hlt) = x at hx hmem; have tx := (at1 k x hx).below hB (by rw [block_of_add]; exact hb1); have g1 := block_of_add ad1 (k * 6); obtain ⟨⟨xb, xo, xs⟩, hE1⟩ : ∃ E, ad1.add (k * 6) = E := ⟨_, rfl⟩; rw [hE1] at tx g1; obtain ⟨x0, x1, x2, x3, x4, x5⟩ := tx; simp only at x0 x1 x2 x3 x4 x5 g1; have hsz := hB.size
      have HX := Lib.hid hx
      have BB := Lib.hid hB
      have HMEM := Lib.hid hmem
      have hxb : xb < wr.heap.size := by omega
      have fx := HF.out x hmem
      have HV := Lib.hid (fun W => rvalidT_any x.k x.p x.q x.a x.c x.t W fx.p1 fx.p2 fx.q1 fx.q2 fx.ts)
      clear hx hmem at1 g1 hb1 hB fx
      have hk0 : (0 : Int) ≤ (k : Int) := by omega
      have hk1 : (k : Int) < (n : Int) := by omega
      cases hok : x.ok
      · have hok2 := Lib.hid hok
        unfold Tv.ok at hok
        rw [hok] at HV
        clear hok
        go_wp2_with fail
        refine (HV.out _).mono ?_; rintro e w1 ⟨rfl, hb⟩
        have B1 := Lib.hid ((BB.out.alloc hsz _).trans (hb.mono (by simp; omega)))
        clear hb x0 x1 x2 x3 x4 x5
        go_wp2_with fail
        go_ret
        refine ⟨?_, B1.out⟩
        have : r = false := by
          rw [HR.out]
          rw [Bool.eq_false_iff]
          intro hall
          have := List.all_eq_true.1 hall x HMEM.out
          rw [hok2.out] at this; cases this
        rw [this]; rfl
      · have hok2 := Lib.hid hok
        unfold Tv.ok at hok
        rw [hok] at HV
        clear hok
        go_wp2_with fail
        refine (HV.out _).mono ?_; rintro e w1 ⟨rfl, hb⟩
        have B1 := Lib.hid ((BB.out.alloc hsz _).trans (hb.mono (by simp; omega)))
        clear hb x0 x1 x2 x3 x4 x5
        go_wp2_with fail
        go_roundw
        case rel =>
          refine ⟨k + 1, by go_num, by omega, ?_, B1.out⟩
          intro i u hi hu
          by_cases e : i = k
          · subst e; rw [HX.out] at hu; injection hu with hu; subst hu; exact hok2.out
          · exact hs.out i u (by omega) hu
        case measure => simp [intOf]; omega
    · have hkn : k = n := by omega
      subst hkn
      have : r = true := by
        rw [HR.out, List.all_eq_true]
        intro x hx
        obtain ⟨i, hi, rfl⟩ := List.getElem_of_mem hx
        have := HL.out
        exact hs.out i _ (by omega) (List.getElem?_eq_getElem hi)
      have BB := Lib.hid hB
      clear hB
      go_wp2_with fail
      go_ret
      exact ⟨by rw [this]; rfl, BB.out⟩
theorem rn_take {l : List Tv} {a b : ByteArray} {i : Nat} {x : Tv} (hx : l[i]? = some x) : (l.take (i + 1)).map (Mx.rn a b) = (l.take i).map (Mx.rn a b) ++ [Mx.rn a b x] := by
  obtain ⟨hi, he⟩ := List.getElem?_eq_some_iff.1 hx
  rw [List.take_succ_eq_append_getElem hi, he, List.map_append]; rfl
end Go.Proofs.YtnhcjgnohnedaaaGreatDoor

namespace Go.Proofs.YtnhcjgnohnedaaaGreatDoor
open Go.RowKit

theorem toksl_new2 (wr : World) (o : Obj) (x : Tv) : TokSl ((wr.alloc o).alloc (.cells #[.int .i64 x.k, .string x.t, .int .i64 x.p, .int .i64 x.q, .int .i64 x.a, .int .i64 x.c] 41)) (wr.heap.size + 2) (some ⟨wr.heap.size + 1, 0, none⟩) [x] := by
  have h := toksl_one (x := x) (heap_alloc_new (wr.alloc o) (.cells #[.int .i64 x.k, .string x.t, .int .i64 x.p, .int .i64 x.q, .int .i64 x.a, .int .i64 x.c] 41))
  rw [show (wr.alloc o).heap.size = wr.heap.size + 1 by simp] at h
  exact h.more (by simp)
set_option maxRecDepth 100000 in
set_option maxHeartbeats 8000000 in
theorem rrename_any (A : Option Addr) (c : Nat) (l : List Tv) (a b : ByteArray) (w : World) (h1 : TokSl w w.heap.size A l) (hl : l.length ≤ 250) (hf : ∀ x ∈ l, x.fit) (ha : a.size ≤ maxLen) (hb : b.size ≤ maxLen) :
    Calls Tryz.prog 17 #[.slice A l.length c, .string a, .string b] w fun e w' => (if Mx.renOk l a b = true then ∃ v, e = .returned (.tuple #[v, .int .i64 0]) ∧ TokOwn w' w.heap.size v (l.map (Mx.rn a b)) else e = .returned (.tuple #[.slice none 0 0, .int .i64 2])) ∧ Below w.heap.size w w' := by
  have HA := Lib.hid (fun W (h : TokSl W W.heap.size A l) => rall_any A c l W h (by omega) hf)
  have HNA := Lib.hid (fun W => rname_any a W ha)
  have HNB := Lib.hid (fun W => rname_any b W hb)
  have H1 := Lib.hid h1
  have hna : Mx.renOk l a b = (l.all Tv.ok && (Lx.nameB a.data.toList && Lx.nameB b.data.toList)) := by
    rfl
  rw [hna]
  generalize l.all Tv.ok = p at *
  generalize Lx.nameB a.data.toList = q at *
  generalize Lx.nameB b.data.toList = r at *
  obtain ⟨n, hn⟩ : ∃ n, n = l.length := ⟨_, rfl⟩
  rw [← hn] at HA hl ⊢
  have HL := Lib.hid hn.symm
  clear h1 hf ha hb hna hn
  go_enter Tryz.func17, Tryz.ntmps17
  go_wp2_with fail
  refine (HA.out _ H1.out).mono ?_; rintro e w1 ⟨rfl, hb1⟩
  have B1 := Lib.hid hb1
  clear hb1
  cases p
  case false =>
    go_wp2_with fail
    go_ret2
    exact ⟨rfl, B1.out⟩
  go_wp2_with fail
  refine (HNA.out _).mono ?_; rintro e w2 ⟨rfl, rfl⟩
  cases q
  case false =>
    go_wp2_with fail
    go_ret2
    exact ⟨rfl, B1.out⟩
  go_wp2_with fail
  refine (HNB.out _).mono ?_; rintro e w2 ⟨rfl, rfl⟩
  cases r
  case false =>
    go_wp2_with fail
    go_ret2
    exact ⟨rfl, B1.out⟩
  go_wp2_with fail
  go_loopw [8, 26] (fun vo vi wr => ∃ k : Nat, vi = .int .i64 k ∧ k ≤ n ∧ Hid (TokOwn wr w.heap.size vo ((l.take k).map (Mx.rn a b))) ∧ Hid (Below w.heap.size w wr)) (fun _ vi _ => n - (intOf vi).toNat)
  case atStart => exact ⟨0, rfl, by omega, World.ownsRow_nil _ _ _ _, B1.out⟩
  case round =>
    obtain ⟨k, rfl, hk, hr, hB⟩ := hrel
    by_cases hlt : k < n
    · obtain ⟨ad1, rfl, hb1, at1⟩ := H1.out (by rw [HL.out]; omega); have hx : l[k]? = some (l[k]'(by rw [HL.out]; exact hlt)) := List.getElem?_eq_getElem _; generalize l[k]'(by rw [HL.out]; exact hlt) = x at hx; have tx := (at1 k x hx).below hB.out (by rw [block_of_add]; exact hb1); have g1 := block_of_add ad1 (k * 6); obtain ⟨⟨xb, xo, xs⟩, hE1⟩ : ∃ E, ad1.add (k * 6) = E := ⟨_, rfl⟩; rw [hE1] at tx g1; obtain ⟨x0, x1, x2, x3, x4, x5⟩ := tx; simp only at x0 x1 x2 x3 x4 x5 g1; have hsz := hB.out.size; have hxb : xb < wr.heap.size := (by omega); have hk0 : (0 : Int) ≤ (k : Int) := (by omega); have hk1 : (k : Int) < (n : Int) := (by omega); have HX := Lib.hid hx; clear at1 g1 hb1 hx
      by_cases k0 : x.k = 0
      · have e0 : (x.k == 0) = true := by simpa using k0
        by_cases ta : x.t = a
        · have e1 : (x.t.toList == a.toList) = true := by rw [ta]; simp
          have HR : Hid (Mx.rn a b x = { x with t := b }) := Lib.hid (by rw [Mx.rn, if_pos k0, if_pos ta])
          clear k0 ta
          clear HA HNA HNB
          go_wp2_with (at_builtin; refine wpList_append_toks rfl _ _ rfl w.heap.size u8 ((l.take k).map (Mx.rn a b)) [{ x with t := b }] rfl ?own (wr.heap.size + 2) 1 (some ⟨wr.heap.size + 1, 0, none⟩) rfl (fun e => by cases e) ?hm ?hl ?hb ?_)
          case own => exact hr.out.below ((((Below.refl wr.heap.size wr).alloc (Nat.le_refl _) _).alloc (by simp) _))
          case hm => exact toksl_new2 wr _ ({ x with t := b })
          case hl => have := HL.out; simp; omega
          case hb => simp only [World.size_alloc]; omega
          intro v1 w9 own9 gr9
          have B9 := Lib.hid (below_row (hB.out.trans (((((Below.refl wr.heap.size wr).alloc (Nat.le_refl _) _).alloc (by simp) _)).mono hsz)) gr9 (fun k hk => (World.ownsRow.lt hr.out k hk).1) (by simp only [World.size_alloc]; omega))
          have O9 := Lib.hid own9
          clear own9 gr9
          go_wp2_with fail
          exact ⟨⟨k + 1, by go_num, by omega, by rw [rn_take HX.out, HR.out, List.map_take]; exact O9, B9.out⟩, by simp [intOf]; omega⟩
        · have e1 : (x.t.toList == a.toList) = false := by
            rw [Bool.eq_false_iff]; intro h; exact ta (by rw [ba_list x.t, ba_list a]; have := eq_of_beq h; rw [Lib.toList_data, Lib.toList_data] at this; rw [this])
          by_cases tb : x.t = b
          · have e2 : (x.t.toList == b.toList) = true := by rw [tb]; simp
            have HR : Hid (Mx.rn a b x = { x with t := a }) := Lib.hid (by rw [Mx.rn, if_pos k0, if_neg ta, if_pos tb])
            clear k0 ta tb HA HNA HNB
            go_wp2_with (at_builtin; refine wpList_append_toks rfl _ _ rfl w.heap.size u8 ((l.take k).map (Mx.rn a b)) [{ x with t := a }] rfl ?own (wr.heap.size + 2) 1 (some ⟨wr.heap.size + 1, 0, none⟩) rfl (fun e => by cases e) ?hm ?hl ?hb ?_)
            case own => exact hr.out.below ((((Below.refl wr.heap.size wr).alloc (Nat.le_refl _) _).alloc (by simp) _))
            case hm => exact toksl_new2 wr _ ({ x with t := a })
            case hl => have := HL.out; simp; omega
            case hb => simp only [World.size_alloc]; omega
            intro v1 w9 own9 gr9
            have B9 := Lib.hid (below_row (hB.out.trans (((((Below.refl wr.heap.size wr).alloc (Nat.le_refl _) _).alloc (by simp) _)).mono hsz)) gr9 (fun k hk => (World.ownsRow.lt hr.out k hk).1) (by simp only [World.size_alloc]; omega))
            have O9 := Lib.hid own9
            clear own9 gr9
            go_wp2_with fail
            exact ⟨⟨k + 1, by go_num, by omega, by rw [rn_take HX.out, HR.out, List.map_take]; exact O9, B9.out⟩, by simp [intOf]; omega⟩
          · have e2 : (x.t.toList == b.toList) = false := by
              rw [Bool.eq_false_iff]; intro h; exact tb (by rw [ba_list x.t, ba_list b]; have := eq_of_beq h; rw [Lib.toList_data, Lib.toList_data] at this; rw [this])
            have HR : Hid (Mx.rn a b x = x) := Lib.hid (by rw [Mx.rn, if_pos k0, if_neg ta, if_neg tb])
            clear k0 ta tb HA HNA HNB
            go_wp2_with (at_builtin; refine wpList_append_toks rfl _ _ rfl w.heap.size u8 ((l.take k).map (Mx.rn a b)) [x] rfl ?own (wr.heap.size + 2) 1 (some ⟨wr.heap.size + 1, 0, none⟩) rfl (fun e => by cases e) ?hm ?hl ?hb ?_)
            case own => exact hr.out.below ((((Below.refl wr.heap.size wr).alloc (Nat.le_refl _) _).alloc (by simp) _))
            case hm => exact toksl_new2 wr _ (x)
            case hl => have := HL.out; simp; omega
            case hb => simp only [World.size_alloc]; omega
            intro v1 w9 own9 gr9
            have B9 := Lib.hid (below_row (hB.out.trans (((((Below.refl wr.heap.size wr).alloc (Nat.le_refl _) _).alloc (by simp) _)).mono hsz)) gr9 (fun k hk => (World.ownsRow.lt hr.out k hk).1) (by simp only [World.size_alloc]; omega))
            have O9 := Lib.hid own9
            clear own9 gr9
            go_wp2_with fail
            exact ⟨⟨k + 1, by go_num, by omega, by rw [rn_take HX.out, HR.out, List.map_take]; exact O9, B9.out⟩, by simp [intOf]; omega⟩
      · have e0 : (x.k == 0) = false := by simpa using k0
        have HR : Hid (Mx.rn a b x = x) := Lib.hid (by rw [Mx.rn, if_neg k0])
        clear k0 HA HNA HNB
        go_wp2_with (at_builtin; refine wpList_append_toks rfl _ _ rfl w.heap.size u8 ((l.take k).map (Mx.rn a b)) [x] rfl ?own (wr.heap.size + 2) 1 (some ⟨wr.heap.size + 1, 0, none⟩) rfl (fun e => by cases e) ?hm ?hl ?hb ?_)
        case own => exact hr.out.below ((((Below.refl wr.heap.size wr).alloc (Nat.le_refl _) _).alloc (by simp) _))
        case hm => exact toksl_new2 wr _ (x)
        case hl => have := HL.out; simp; omega
        case hb => simp only [World.size_alloc]; omega
        intro v1 w9 own9 gr9
        have B9 := Lib.hid (below_row (hB.out.trans (((((Below.refl wr.heap.size wr).alloc (Nat.le_refl _) _).alloc (by simp) _)).mono hsz)) gr9 (fun k hk => (World.ownsRow.lt hr.out k hk).1) (by simp only [World.size_alloc]; omega))
        have O9 := Lib.hid own9
        clear own9 gr9
        go_wp2_with fail
        exact ⟨⟨k + 1, by go_num, by omega, by rw [rn_take HX.out, HR.out, List.map_take]; exact O9, B9.out⟩, by simp [intOf]; omega⟩
    · have hkn : k = n := by omega
      subst hkn
      go_wp2_with fail
      go_ret2
      refine ⟨⟨_, rfl, ?_⟩, hB.out⟩
      have := hr.out
      rw [List.take_of_length_le (by have := HL.out; omega)] at this
      exact this
end Go.Proofs.YtnhcjgnohnedaaaGreatDoor

namespace Go.Proofs.YtnhcjgnohnedaaaGreatDoor
open Go.ChangeShapes Go.WideShapes Go.ChangeAt Go.RowKit Go.Joins Go.Deep
section
variable {H : Type} {enc : TypeId × Value → H} {w : World} {base : Nat} {spare : Nat → Bool} {held : Bool}
set_option maxRecDepth 100000 in
/-- An argument that is a slice of tokens. -/
theorem open_toks2 {r : Reach} {b0 : Nat} {v : Value} {d : DataW H} {ps : List MemPlace} (hv : Value.okWide Tryz.prog w r b0 22 v) (h : DataW.Trod enc Tryz.prog w base spare held 22 v d ps) :
    ∃ (A : Option Addr) (c : Nat) (l : List Tv), v = .slice A l.length c ∧ TokSl w w.heap.size A l ∧ (∀ x ∈ l, x.fit) ∧ l.length ≤ 9223372036854775807 ∧ (A = none → c = 0 ∧ l = []) ∧ l.length ≤ c := by
  obtain ⟨a0, len, cap, rfl⟩ := okWide_slice Tryz.underlying22 hv
  obtain ⟨fuel, hf⟩ := h
  have hC : Tryz.prog.cellsOf 41 = 6 := by kernel_rfl
  rcases open_slice Tryz.underlying22 hf with ⟨h0, -⟩ | ⟨a, ln, cp, m, n, D, Pl, h0, -, hlc, hcm, hm, -, hi⟩
  · have h1 : (.slice a0 len cap : Value) = .slice none 0 0 := by simpa [Value.cells] using h0
    injection h1 with h1 h2 h3
    subst h1 h2 h3
    exact ⟨none, 0, [], rfl, (fun hn => by simp at hn), (fun x hx => by simp at hx), by simp, fun _ => ⟨rfl, rfl⟩, by simp⟩
  · have h1 : (.slice a0 len cap : Value) = .slice (some a) ln cp := by simpa [Value.cells] using h0
    injection h1 with h1 h2 h3
    subst h1 h2 h3
    have hlm : len ≤ m := by rw [hm]; split <;> omega
    have key : ∀ i, i < len → ∃ y : Tv, y.fit ∧ TokAt w (a.add (i * 6)) y ∧ a.block < w.heap.size := fun i hil => by
      obtain ⟨cs, hcs, ht⟩ := hi i (by omega)
      obtain ⟨y, rfl, hy⟩ := tok_cells ht
      rw [hC] at hcs
      obtain ⟨-, -, hat⟩ := World.cells?_some hcs
      have at' : ∀ k, k < 6 → w.cell? ((a.add (i * 6)).add k) = y.cells[k]? := hat
      have plain : ∀ k, 0 < k → ((a.add (i * 6)).add k) = ⟨(a.add (i * 6)).block, (a.add (i * 6)).off + k, none⟩ := fun k hk => by
        unfold Addr.add; rw [if_neg (by omega)]
      refine ⟨y, hy, ⟨at' 0 (by omega), ?_, ?_, ?_, ?_, ?_⟩, ?_⟩
      · rw [← plain 1 (by omega)]; exact at' 1 (by omega)
      · rw [← plain 2 (by omega)]; exact at' 2 (by omega)
      · rw [← plain 3 (by omega)]; exact at' 3 (by omega)
      · rw [← plain 4 (by omega)]; exact at' 4 (by omega)
      · rw [← plain 5 (by omega)]; exact at' 5 (by omega)
      · have h5 := at' 1 (by omega)
        rw [plain 1 (by omega), block_of_add] at h5
        have h6 : w.cell? ⟨a.block, (a.add (i * 6)).off + 1, none⟩ = some (.string y.t) := h5
        cases hh : w.heap[a.block]? with
        | none => simp [World.cell?, hh] at h6
        | some o => exact (Array.getElem?_eq_some_iff.1 hh).1
    have : Inhabited Tv := ⟨⟨0, ⟨#[]⟩, 0, 0, 0, 0⟩⟩
    obtain ⟨f, hf2⟩ := choose_lt (α := Tv) (n := len) (p := fun i y => y.fit ∧ TokAt w (a.add (i * 6)) y ∧ a.block < w.heap.size) key
    refine ⟨some a, cap, (List.range len).map f, by simp, ?_, ?_, by simp; unfold maxLen at hcm; omega, (fun e => by cases e), by simp; omega⟩
    · intro hn
      have hlen : 0 < len := by simpa using hn
      refine ⟨a, rfl, (hf2 0 hlen).2.2, fun j x hx => ?_⟩
      have hj : j < len := by have := (List.getElem?_eq_some_iff.1 hx).1; simpa using this
      simp [hj] at hx
      subst hx
      exact (hf2 j hj).2.1
    · intro x hx
      obtain ⟨j, hj, rfl⟩ := List.mem_map.1 hx
      exact (hf2 j (List.mem_range.1 hj)).1
end
theorem requal_any' (A1 A2 : Option Addr) (c1 c2 n m : Nat) (l : List Tv) (w : World) (hn : n = l.length) (hm : m = l.length) (h1 : TokSl w w.heap.size A1 l) (h2 : TokSl w w.heap.size A2 l) (hl : l.length ≤ 1000000000) :
    Calls Tryz.prog 15 #[.slice A1 n c1, .slice A2 m c2] w fun e w' => e = .returned (.bool true) ∧ Below w.heap.size w w' := by
  rw [hn, hm]; exact requal_any A1 A2 c1 c2 l w h1 h2 hl
set_option maxRecDepth 100000 in
set_option maxHeartbeats 8000000 in
theorem mrenames_any (A : Option Addr) (c : Nat) (l : List Tv) (a b : ByteArray) (w : World) (he : EnvL w) (h1 : TokSl w w.heap.size A l) (hA : A = none → c = 0 ∧ l = []) (_ : l.length ≤ c) (hl : l.length ≤ 9223372036854775807) (hf : ∀ x ∈ l, x.fit) (ha : a.size ≤ maxLen) (hb : b.size ≤ maxLen) :
    Calls Tryz.prog 4 #[.slice A l.length c, .string a, .string b] w fun e w' => e = .returned (.bool true) ∧ Below w.heap.size w w' := by
  have HE := Lib.hid he
  have HAW := Lib.hid (fun W (hW : EnvL W) => mawake_any W hW)
  have C1 := Lib.hid (mfew_any A c l w h1 hl)
  have C2 := Lib.hid (fun W (hW : EnvL W) (hs : TokSl W W.heap.size A l) (hn : l.length ≤ 250) (hok : Mx.renOk l a b = true) => rename_ok A c l a b W hW hs hA (by omega) hf ha hb hok)
  have C2' := Lib.hid (fun W (hW : EnvL W) (hs : TokSl W W.heap.size A l) (hn : l.length ≤ 250) (hok : Mx.renOk l a b = false) => rename_bad A c l a b W hW hs (by omega) hf ha hb hok)
  have C3 := Lib.hid (fun W (hs : TokSl W W.heap.size A l) (hn : l.length ≤ 250) => rrename_any A c l a b W hs hn hf ha hb)
  have H1 := Lib.hid h1
  obtain ⟨R, hR⟩ : ∃ R, R = l.map (Mx.rn a b) := ⟨_, rfl⟩
  have HRL : Hid (R.length = l.length) := Lib.hid (by rw [hR, List.length_map])
  rw [← hR] at C2 C3
  generalize Mx.renOk l a b = ok at *
  obtain ⟨n, hn⟩ : ∃ n, n = l.length := ⟨_, rfl⟩
  rw [← hn] at C1 C2 C2' C3 HRL ⊢
  clear he h1 hf hA hl ha hb hR hn
  go_enter Tryz.func4, Tryz.ntmps4
  go_wp2_with fail
  refine C1.out.mono ?_; rintro e w1 ⟨⟨b1, rfl, hn⟩, hb⟩
  have B1 := Lib.hid hb
  have hz1 := hb.size
  clear hb
  cases b1
  case false =>
    clear hn
    go_wp2_with fail
    refine (HAW.out _ (HE.out.below B1.out)).mono ?_; rintro e w2 ⟨rfl, hb⟩
    go_wp2_with fail
    go_ret
    exact ⟨rfl, B1.out.trans (hb.mono B1.out.size)⟩
  have hn4 := hn rfl
  clear hn
  have S1 := Lib.hid (H1.out.below B1.out)
  cases ok
  case false =>
    go_wp2_with fail
    refine (C2'.out _ (HE.out.below B1.out) (S1.out.more hz1) hn4 trivial).mono ?_; rintro e w2 ⟨rfl, hb⟩
    have B2 := Lib.hid (B1.out.trans (hb.mono B1.out.size))
    have S2 := Lib.hid (H1.out.below B2.out)
    have hz2 := B2.out.size
    clear hb
    go_wp2_with fail
    refine (C3.out _ (S2.out.more hz2) hn4).mono ?_; rintro e w3 ⟨he, hb⟩
    rw [if_neg (by decide)] at he
    subst he
    have B3 := Lib.hid (B2.out.trans (hb.mono B2.out.size))
    clear hb
    go_wp2_with fail
    refine (requal_any' none none 0 0 0 0 [] _ rfl rfl (fun h => by simp at h) (fun h => by simp at h) (by simp)).mono ?_; rintro e w4 ⟨rfl, hb⟩
    have B4 := Lib.hid (B3.out.trans (hb.mono B3.out.size))
    clear hb
    go_wp2_with fail
    refine (HAW.out _ (HE.out.below B4.out)).mono ?_; rintro e w5 ⟨rfl, hb⟩
    go_wp2_with fail
    go_ret
    exact ⟨rfl, B4.out.trans (hb.mono B4.out.size)⟩
  go_wp2_with fail
  refine (C2.out _ (HE.out.below B1.out) (S1.out.more hz1) hn4 trivial).mono ?_; rintro e w2 ⟨v2, rfl, hv2, hb⟩
  have B2 := Lib.hid (B1.out.trans (hb.mono B1.out.size))
  have S2 := Lib.hid (H1.out.below B2.out)
  have hz2 := B2.out.size
  obtain ⟨P2, d2, rfl, hs2⟩ := hv2.sl
  rw [HRL.out]
  have SL2 := Lib.hid hs2
  clear hb hs2 hv2
  go_wp2_with fail
  refine (C3.out _ (S2.out.more hz2) hn4).mono ?_; rintro e w3 ⟨he, hb⟩
  rw [if_pos trivial] at he
  obtain ⟨v3, rfl, hv3⟩ := he
  have B3 := Lib.hid (B2.out.trans (hb.mono B2.out.size))
  obtain ⟨P3, d3, rfl, hs3⟩ := hv3.sl
  rw [HRL.out]
  have SL2 := Lib.hid ((SL2.out.below hb).more hb.size)
  have SL3 := Lib.hid hs3
  clear hb hs3 hv3
  go_wp2_with fail
  refine (requal_any' P2 P3 d2 d3 n n R _ HRL.out.symm HRL.out.symm SL2.out SL3.out (by have := HRL.out; omega)).mono ?_; rintro e w4 ⟨rfl, hb⟩
  have B4 := Lib.hid (B3.out.trans (hb.mono B3.out.size))
  clear hb
  go_wp2_with fail
  refine (HAW.out _ (HE.out.below B4.out)).mono ?_; rintro e w5 ⟨rfl, hb⟩
  go_wp2_with fail
  go_ret
  exact ⟨rfl, B4.out.trans (hb.mono B4.out.size)⟩
end Go.Proofs.YtnhcjgnohnedaaaGreatDoor
