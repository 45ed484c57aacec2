/-
  Contracts of package macro: tokens by value, faults.
  Contracts of package macro: the next token.
  Contracts of package macro: the next token of a list.
  Contracts of package macro: the next token of a list behind which there are more.
-/
import Derived.Test.YtnhcjgnohnedaaaGreatDoorMxB
import Derived.BigRegion
import Derived.RegionDies
namespace Go.Proofs.YtnhcjgnohnedaaaGreatDoor
open Go.RowKit

def Tv.val (x : Tv) : Value := .agg #[.int .i64 x.k, .string x.t, .int .i64 x.p, .int .i64 x.q, .int .i64 x.a, .int .i64 x.c]
def Mx.Flt.val (f : Mx.Flt) : Value := .agg #[.int .i64 f.code, .string f.name, .int .i64 f.line, .int .i64 f.col]
/-- The panic that a fault is. -/
def Mx.Flt.chain (f : Mx.Flt) : List PanicEntry := [{ v := .iface 27 f.val, recovered := false }]

theorem isName_any (x : Tv) (w : World) : Calls Tryz.prog 51 #[x.val] w fun e w' => e = .returned (.bool (Mx.isName x)) ∧ Below w.heap.size w w' := by
  obtain ⟨b, hb⟩ : ∃ b, b = Mx.isName x := ⟨_, rfl⟩
  rw [← hb]
  unfold Mx.isName at hb
  unfold Tv.val
  have HB := Lib.hid hb
  by_cases h0 : x.k = 0
  · have e0 : (x.k == 0) = true := by simpa using h0
    clear hb
    go_enter Tryz.func51, Tryz.ntmps51
    go_wp2_with fail
    go_ret
    exact ⟨by rw [HB.out]; simp [h0], (Below.refl _ _).alloc (Nat.le_refl _) _⟩
  · have e0 : (x.k == 0) = false := by simpa using h0
    clear hb
    go_enter Tryz.func51, Tryz.ntmps51
    go_wp2_with fail
    go_ret
    exact ⟨by rw [HB.out]; simp [h0], (Below.refl _ _).alloc (Nat.le_refl _) _⟩

theorem isSign_any (x : Tv) (s : ByteArray) (w : World) : Calls Tryz.prog 89 #[x.val, .string s] w fun e w' => e = .returned (.bool (Mx.isSign x s)) ∧ Below w.heap.size w w' := by
  obtain ⟨b, hb⟩ : ∃ b, b = Mx.isSign x s := ⟨_, rfl⟩
  rw [← hb]
  unfold Mx.isSign at hb
  unfold Tv.val
  have HB := Lib.hid hb
  by_cases h0 : x.k = 4
  · have e0 : (x.k == 4) = true := by simpa using h0
    have HT : Hid (b = (x.t.toList == s.toList)) := by
      rw [HB.out, e0, Bool.true_and, Bool.eq_iff_iff, decide_eq_true_eq, Lib.toList_data, Lib.toList_data, beq_iff_eq]
      exact ⟨fun h => by rw [h], fun h => by rw [ba_list x.t, ba_list s, h]⟩
    clear hb
    go_enter Tryz.func89, Tryz.ntmps89
    go_wp2_with fail
    go_ret
    exact ⟨by rw [HT.out]; rfl, (Below.refl _ _).alloc (Nat.le_refl _) _⟩
  · have e0 : (x.k == 4) = false := by simpa using h0
    clear hb
    go_enter Tryz.func89, Tryz.ntmps89
    go_wp2_with fail
    go_ret
    exact ⟨by rw [HB.out]; simp [h0], (Below.refl _ _).alloc (Nat.le_refl _) _⟩

/-- One token in a new block, as a slice. -/
theorem toksl_one {w : World} {g : Nat} {x : Tv} {ty : TypeId} {fr : Nat × Nat} (h : w.heap[g]? = some (.cells #[.int .i64 x.k, .string x.t, .int .i64 x.p, .int .i64 x.q, .int .i64 x.a, .int .i64 x.c] ty fr)) : TokSl w w.heap.size (some ⟨g, 0, none⟩) [x] := fun _ => by
  refine ⟨⟨g, 0, none⟩, rfl, (Array.getElem?_eq_some_iff.1 h).1, fun j y hy => ?_⟩
  have hj : j = 0 := by have := (List.getElem?_eq_some_iff.1 hy).1; simpa using this
  subst hj
  simp only [List.getElem?_cons_zero, Option.some.injEq] at hy
  subst hy
  have hc : ∀ o, w.cell? ⟨g, o, none⟩ = (#[.int .i64 x.k, .string x.t, .int .i64 x.p, .int .i64 x.q, .int .i64 x.a, .int .i64 x.c] : Array Value)[o]? := fun o => cell_of_row _ _ o _ _ _ h
  simp only [Nat.zero_mul]
  rw [show (⟨g, 0, none⟩ : Addr).add 0 = ⟨g, 0, none⟩ from rfl]
  exact ⟨hc 0, hc 1, hc 2, hc 3, hc 4, hc 5⟩
theorem blk_new3 (w : World) (o1 o2 o3 : Obj) : (((w.alloc o1).alloc o2).alloc o3).heap[w.heap.size + 1 + 1]? = some o3 := by
  have := heap_alloc_new ((w.alloc o1).alloc o2) o3
  rwa [show ((w.alloc o1).alloc o2).heap.size = w.heap.size + 1 + 1 by simp] at this
set_option maxRecDepth 100000 in
set_option maxHeartbeats 1000000 in
theorem fault_plain (c : Int) (x : Tv) (f : Mx.Flt) (w : World) (hf : f = Mx.failAt c x) (hk : x.k ≠ 2) : Calls Tryz.prog 88 #[.int .i64 c, x.val] w fun e w' => e = .returned (.agg #[.int .i64 f.code, .string f.name, .int .i64 f.line, .int .i64 f.col]) ∧ Below w.heap.size w w' := by
  have e0 : (x.k == 2) = false := by simpa using hk
  have HN : Hid (f = ⟨c, x.t, x.a, x.c⟩) := by rw [hf, Mx.failAt, Mx.nameOf, if_neg hk]; rfl
  unfold Tv.val
  clear hk hf
  go_enter Tryz.func88, Tryz.ntmps88
  go_wp2_with fail
  refine bodyPost_ret (v := .agg #[.int .i64 c, .string x.t, .int .i64 x.a, .int .i64 x.c]) (by simp [results, Tryz.results88, go_sem]) rfl ⟨by rw [HN.out], ?_⟩
  exact ((Below.refl _ _).alloc (Nat.le_refl _) _).alloc (by simp) _
set_option maxRecDepth 100000 in
set_option maxHeartbeats 1000000 in
theorem fault_num (c : Int) (x : Tv) (f : Mx.Flt) (w : World) (he : EnvL w) (hx : x.fit) (hf : f = Mx.failAt c x) (hk : x.k = 2) : Calls Tryz.prog 88 #[.int .i64 c, x.val] w fun e w' => e = .returned (.agg #[.int .i64 f.code, .string f.name, .int .i64 f.line, .int .i64 f.col]) ∧ Below w.heap.size w w' := by
  have e0 : (x.k == 2) = true := by simpa using hk
  obtain ⟨T, hT⟩ : ∃ T : ByteArray, T = ⟨(textS [x]).toArray⟩ := ⟨_, rfl⟩
  have HN : Hid (f = ⟨c, T, x.a, x.c⟩) := by rw [hf, Mx.failAt, Mx.nameOf, if_pos hk, hT]; rfl
  have HX := Lib.hid (fun (A : Option Addr) (c : Nat) (W : World) (hW : EnvL W) (hs : TokSl W W.heap.size A [x]) => text_any' A c [x] W hW hs (by simp) (by intro y hy; rw [List.mem_singleton] at hy; subst hy; exact hx))
  rw [← hT] at HX
  generalize textE [x] = E at HX
  have HE := Lib.hid he
  have HK := Lib.hid hk
  unfold Tv.val
  clear hk hf hT he hx
  go_enter Tryz.func88, Tryz.ntmps88
  go_wp2_with fail
  refine (HX.out _ 1 _ (HE.out.below ((((Below.refl _ _).alloc (Nat.le_refl _) _).alloc (by simp) _).alloc (by simp; omega) _)) (toksl_one (blk_new3 w _ _ (.cells #[.int .i64 x.k, .string x.t, .int .i64 x.p, .int .i64 x.q, .int .i64 x.a, .int .i64 x.c] 41)))).mono ?_; rintro e w1 ⟨rfl, hb⟩
  have B1 := Lib.hid (((((Below.refl w.heap.size w).alloc (Nat.le_refl _) (.cells #[.int .i64 x.k, .string x.t, .int .i64 x.p, .int .i64 x.q, .int .i64 x.a, .int .i64 x.c] 41)).alloc (by simp) (.cells #[.int .i64 0, .string ⟨#[]⟩, .int .i64 0, .int .i64 0] 27)).alloc (by simp; omega) (.cells #[.int .i64 x.k, .string x.t, .int .i64 x.p, .int .i64 x.q, .int .i64 x.a, .int .i64 x.c] 41)).trans (hb.mono (by simp; omega)))
  obtain ⟨⟨x0, x1, x2, x3, x4, x5⟩, -, xl⟩ := blk6 ((hb.block w.heap.size (by simp; omega)).trans (blk_alloc (blk_alloc (heap_alloc_new w (.cells #[.int .i64 x.k, .string x.t, .int .i64 x.p, .int .i64 x.q, .int .i64 x.a, .int .i64 x.c] 41)) (.cells #[.int .i64 0, .string ⟨#[]⟩, .int .i64 0, .int .i64 0] 27)) (.cells #[.int .i64 x.k, .string x.t, .int .i64 x.p, .int .i64 x.q, .int .i64 x.a, .int .i64 x.c] 41)))
  have H4 := Lib.hid ((hb.block (w.heap.size + 1) (by simp)).trans (blk_alloc (blk_new2 w (.cells #[.int .i64 x.k, .string x.t, .int .i64 x.p, .int .i64 x.q, .int .i64 x.a, .int .i64 x.c] 41) (.cells #[.int .i64 0, .string ⟨#[]⟩, .int .i64 0, .int .i64 0] 27)) (.cells #[.int .i64 x.k, .string x.t, .int .i64 x.p, .int .i64 x.q, .int .i64 x.a, .int .i64 x.c] 41)))
  obtain ⟨⟨y0, y1, y2, y3⟩, ⟨z0, z1, z2, z3⟩, yl⟩ := blk4 H4.out
  clear hb
  go_wp2_with fail
  clear y0 y1 y2 y3 z0 z1 z2 z3
  obtain ⟨⟨y0, y1, y2, y3⟩, -, -⟩ := blk4 (set4 H4.out (.int .i64 c) (.string T) (.int .i64 x.a) (.int .i64 x.c))
  refine bodyPost_ret (v := .agg #[.int .i64 c, .string T, .int .i64 x.a, .int .i64 x.c]) (by simp [results, Tryz.results88, go_sem, y0, y1, y2, y3]) rfl ⟨by rw [HN.out], ?_⟩
  exact (((B1.out.setCell (p := ⟨w.heap.size + 1, 0, none⟩) (by simp) _).setCell (p := ⟨w.heap.size + 1, 1, none⟩) (by simp) _).setCell (p := ⟨w.heap.size + 1, 2, none⟩) (by simp) _).setCell (p := ⟨w.heap.size + 1, 3, none⟩) (by simp) _
theorem fault_any (c : Int) (x : Tv) (f : Mx.Flt) (w : World) (he : EnvL w) (hx : x.fit) (hf : f = Mx.failAt c x) : Calls Tryz.prog 88 #[.int .i64 c, x.val] w fun e w' => e = .returned (.agg #[.int .i64 f.code, .string f.name, .int .i64 f.line, .int .i64 f.col]) ∧ Below w.heap.size w w' := by
  by_cases hk : x.k = 2
  · exact fault_num c x f w he hx hf hk
  · exact fault_plain c x f w hf hk
set_option maxRecDepth 100000 in
theorem fail_any (c : Int) (x : Tv) (f : Mx.Flt) (w : World) (he : EnvL w) (hx : x.fit) (hf : f = Mx.failAt c x) : Calls Tryz.prog 50 #[.int .i64 c, x.val] w fun e w' => e = .panicked [{ v := .iface 27 (.agg #[.int .i64 f.code, .string f.name, .int .i64 f.line, .int .i64 f.col]), recovered := false }] ∧ Below w.heap.size w w' := by
  have HF := Lib.hid (fun W (hW : EnvL W) => fault_any c x f W hW hx hf)
  have HE := Lib.hid he
  unfold Tv.val at *
  clear he hx hf
  go_enter Tryz.func50, Tryz.ntmps50
  go_wp2_with fail
  refine (HF.out _ (HE.out.below ((Below.refl _ _).alloc (Nat.le_refl _) _))).mono ?_; rintro e w1 ⟨rfl, hb⟩
  have B1 := Lib.hid (((Below.refl w.heap.size w).alloc (Nat.le_refl _) (.cells #[.int .i64 x.k, .string x.t, .int .i64 x.p, .int .i64 x.q, .int .i64 x.a, .int .i64 x.c] 41)).trans (hb.mono (by simp)))
  clear hb
  go_wp2_with fail
  exact ⟨rfl, rfl, B1.out⟩
theorem demand_ok (x : Tv) (s : ByteArray) (w : World) (he : EnvL w) (h : Mx.isSign x s = true) : Calls Tryz.prog 94 #[x.val, .string s] w fun e w' => e = .returned (.tuple #[]) ∧ Below w.heap.size w w' := by
  have HS := Lib.hid (fun W => isSign_any x s W); have HE := Lib.hid he; rw [h] at HS; unfold Tv.val at *; clear he
  clear h
  go_enter Tryz.func94, Tryz.ntmps94
  go_wp2_with fail
  refine (HS.out _).mono ?_; rintro e w1 ⟨rfl, hb⟩
  have B1 := Lib.hid (((Below.refl w.heap.size w).alloc (Nat.le_refl _) (.cells #[.int .i64 x.k, .string x.t, .int .i64 x.p, .int .i64 x.q, .int .i64 x.a, .int .i64 x.c] 41)).trans (hb.mono (by simp)))
  clear hb
  go_wp2_with fail
  go_end0
  exact ⟨rfl, B1.out⟩
theorem demand_bad (x : Tv) (s : ByteArray) (f : Mx.Flt) (w : World) (he : EnvL w) (hx : x.fit) (h : Mx.isSign x s = false) (hf : f = Mx.failAt 11 x) : Calls Tryz.prog 94 #[x.val, .string s] w fun e w' => e = .panicked [{ v := .iface 27 (.agg #[.int .i64 f.code, .string f.name, .int .i64 f.line, .int .i64 f.col]), recovered := false }] ∧ Below w.heap.size w w' := by
  have HF := Lib.hid (fun W hW => fail_any 11 x f W hW hx hf)
  have HS := Lib.hid (fun W => isSign_any x s W); have HE := Lib.hid he; rw [h] at HS; unfold Tv.val at *; clear he
  clear h hx hf
  go_enter Tryz.func94, Tryz.ntmps94
  go_wp2_with fail
  refine (HS.out _).mono ?_; rintro e w1 ⟨rfl, hb⟩
  have B1 := Lib.hid (((Below.refl w.heap.size w).alloc (Nat.le_refl _) (.cells #[.int .i64 x.k, .string x.t, .int .i64 x.p, .int .i64 x.q, .int .i64 x.a, .int .i64 x.c] 41)).trans (hb.mono (by simp)))
  obtain ⟨⟨x0, x1, x2, x3, x4, x5⟩, -, xl⟩ := blk6 ((hb.block w.heap.size (by simp)).trans (heap_alloc_new w (.cells #[.int .i64 x.k, .string x.t, .int .i64 x.p, .int .i64 x.q, .int .i64 x.a, .int .i64 x.c] 41)))
  clear hb
  go_wp2_with fail
  refine (HF.out _ (HE.out.below B1.out)).mono ?_; rintro e w2 ⟨rfl, hb⟩
  exact ⟨rfl, rfl, B1.out.trans (hb.mono B1.out.size)⟩
end Go.Proofs.YtnhcjgnohnedaaaGreatDoor

namespace Go.Proofs.YtnhcjgnohnedaaaGreatDoor
open Go.RowKit

/-- The cells of an expander. -/
structure ECells (w : World) (b : Nat) (y : Mx.Lay) (s : Mx.St) : Prop where
  c0 : w.cell? ⟨b, 0, none⟩ = some y.vr
  c1 : w.cell? ⟨b, 1, none⟩ = some y.vl
  c2 : w.cell? ⟨b, 2, none⟩ = some (.int .i64 s.last.k)
  c3 : w.cell? ⟨b, 3, none⟩ = some (.string s.last.t)
  c4 : w.cell? ⟨b, 4, none⟩ = some (.int .i64 s.last.p)
  c5 : w.cell? ⟨b, 5, none⟩ = some (.int .i64 s.last.q)
  c6 : w.cell? ⟨b, 6, none⟩ = some (.int .i64 s.last.a)
  c7 : w.cell? ⟨b, 7, none⟩ = some (.int .i64 s.last.c)
  c8 : w.cell? ⟨b, 8, none⟩ = some (.int .i64 s.steps)
  c9 : w.cell? ⟨b, 9, none⟩ = some (.map (some y.mb))
  c10 : w.cell? ⟨b, 10, none⟩ = some y.vg
  c11 : w.cell? ⟨b, 11, none⟩ = some (.bool s.saving)
  c12 : w.cell? ⟨b, 12, none⟩ = some y.vo
  fr : ∀ i, w.frozen? ⟨b, i, none⟩ = false
  lt : b < w.heap.size
theorem ecells {w : World} {b : Nat} {y : Mx.Lay} {s : Mx.St} (h : w.heap[b]? = some (.cells (Mx.cellsE y s) 48 (0, 0))) : ECells w b y s := by
  have hc : ∀ i, w.cell? ⟨b, i, none⟩ = (Mx.cellsE y s)[i]? := fun i => cell_of_row w b i _ _ _ h
  exact ⟨hc 0, hc 1, hc 2, hc 3, hc 4, hc 5, hc 6, hc 7, hc 8, hc 9, hc 10, hc 11, hc 12, fun i => by simp [World.frozen?, h], (Array.getElem?_eq_some_iff.1 h).1⟩

set_option maxRecDepth 100000 in
set_option maxHeartbeats 2000000 in
theorem early_any (y : Mx.Lay) (s : Mx.St) (b : Nat) (w : World) (h : w.heap[b]? = some (.cells (Mx.cellsE y s) 48 (0, 0))) (f : Mx.Flt) (hf : f = ⟨12, Mx.str [], s.last.a, s.last.c⟩) :
    Calls Tryz.prog 37 #[.pointer (some ⟨b, 0, none⟩)] w fun e w' => e = .panicked [{ v := .iface 27 (.agg #[.int .i64 f.code, .string f.name, .int .i64 f.line, .int .i64 f.col]), recovered := false }] ∧ Below w.heap.size w w' := by
  obtain ⟨-, -, -, -, -, -, c6, c7, -, -, -, -, -, -, hlt⟩ := ecells h
  have HF : Hid (f = ⟨12, ⟨#[]⟩, s.last.a, s.last.c⟩) := hf
  clear h hf
  go_enter Tryz.func37, Tryz.ntmps37
  go_wp2_with fail
  go_region_dies
  all_goals exact ⟨rfl, by rw [HF.out], (Below.refl _ _).drew⟩

set_option maxRecDepth 100000 in
set_option maxHeartbeats 8000000 in
theorem next_none (y : Mx.Lay) (s : Mx.St) (b : Nat) (A1 A2 : Option Addr) (d1 d2 : Nat) (w : World) (h : w.heap[b]? = some (.cells (Mx.cellsE y s) 48 (0, 0))) (h1 : y.vr = .slice A1 0 d1) (h2 : y.vl = .slice A2 0 d2) :
    Calls Tryz.prog 35 #[.pointer (some ⟨b, 0, none⟩)] w fun e w' => e = .returned (.tuple #[.agg #[.int .i64 0, .string ⟨#[]⟩, .int .i64 0, .int .i64 0, .int .i64 0, .int .i64 0], .bool false]) ∧ Below w.heap.size w w' := by
  obtain ⟨c0, c1, -, -, -, -, -, -, -, -, -, -, -, -, hlt⟩ := ecells h
  rw [h1] at c0; rw [h2] at c1
  clear h h1 h2
  go_enter Tryz.func35, Tryz.ntmps35
  go_wp2_with fail
  exact bodyPost_ret (v := .tuple #[.agg #[.int .i64 0, .string ⟨#[]⟩, .int .i64 0, .int .i64 0, .int .i64 0, .int .i64 0], .bool false]) (by simp [results, Tryz.results35, go_sem]) rfl ⟨rfl, (Below.refl _ _).alloc (Nat.le_refl _) _⟩

theorem step_w {n : Nat} (h : n ≤ 200000) {q : Int} (hq : q = (n : Int) + 1) : wrap64 ((n : Int) + 1) = q := by rw [hq]; exact IntWalk.wrap64_in _ (by omega)
theorem step_k {n : Nat} (h : n ≤ 200000) {q : Int} (hq : q = (n : Int) + 1) : IntKind.i64.wrap ((n : Int) + 1) = q := by rw [hq]; exact IntWalk.i64_in _ (by omega)
theorem step_lo {n : Nat} (h : n < 200000) {q : Int} (hq : q = (n : Int) + 1) : decide (200000 < q) = false := decide_eq_false (by omega)
theorem step_hi {n : Nat} (h : ¬ n < 200000) {q : Int} (hq : q = (n : Int) + 1) : decide (200000 < q) = true := decide_eq_true (by omega)
def Mx.only (b k : Nat) : Prop := k = b
theorem Mx.Turns.set1 (w : World) (b i : Nat) (u : Value) : Mx.Turns (Mx.only b) w (w.setCell ⟨b, i, none⟩ u) := Mx.Turns.setCell (M := Mx.only b) w (p := ⟨b, i, none⟩) (show b = b from rfl) u
theorem Mx.Turns.then {M : Nat → Prop} {w w1 w2 : World} (h : Mx.Turns M w w1) (h' : Mx.Turns M w1 w2) : Mx.Turns M w w2 := h.trans (Mx.Grows.refl _ _) h'
/-- What next leaves behind a token of the program. -/
def NextR (y : Mx.Lay) (s : Mx.St) (b n : Nat) (ad : Addr) (x : Tv) (d1 : Nat) (f : Mx.Flt) (w : World) (e : Ending) (w' : World) : Prop :=
  Mx.Turns (Mx.only b) w w' ∧
      (s.steps < 200000 → e = .returned (.tuple #[x.val, .bool true]) ∧ ∃ vr, (n = 0 → ∃ A, vr = .slice A 0 (d1 - 1)) ∧ (0 < n → vr = .slice (some (ad.add 6)) n (d1 - 1)) ∧
        w'.heap[b]? = some (.cells (Mx.cellsE { y with vr := vr } { s with steps := s.steps + 1 }) 48 (0, 0))) ∧
      (¬ s.steps < 200000 → e = .panicked [{ v := .iface 27 (.agg #[.int .i64 f.code, .string f.name, .int .i64 f.line, .int .i64 f.col]), recovered := false }])
set_option maxRecDepth 100000 in
set_option maxHeartbeats 8000000 in
/-- A token of the program. -/
theorem next_rest (y : Mx.Lay) (s : Mx.St) (b n : Nat) (ad : Addr) (x : Tv) (A2 : Option Addr) (d1 d2 : Nat) (w : World) (h : w.heap[b]? = some (.cells (Mx.cellsE y s) 48 (0, 0))) (h1 : y.vr = .slice (some ad) (n + 1) d1) (hd : n + 1 ≤ d1) (hn : n ≤ 9223372036854775806) (h2 : y.vl = .slice A2 0 d2)
    (ht : TokAt w ad x) (hab : ad.block < w.heap.size) (hne : ad.block ≠ b) (hb2 : s.steps ≤ 200000) (hx : x.fit) (he : ∀ w', Mx.Turns (Mx.only b) w w' → EnvL w') (f : Mx.Flt) (hf : f = Mx.failAt 21 x) :
    Calls Tryz.prog 35 #[.pointer (some ⟨b, 0, none⟩)] w (NextR y s b n ad x d1 f w) := by
  obtain ⟨c0, c1, -, -, -, -, -, -, c8, -, -, -, -, fr, hlt⟩ := ecells h
  rw [h1] at c0; rw [h2] at c1
  have f0 := fr 0
  have f8 := fr 8
  have HFL := Lib.hid (fun W (hW : EnvL W) => fail_any 21 x f W hW hx hf)
  have HE := Lib.hid he
  obtain ⟨adb, ado, ads⟩ := ad
  obtain ⟨x0, x1, x2, x3, x4, x5⟩ := ht
  simp only at x0 x1 x2 x3 x4 x5 hab hne
  have hne2 : ¬ b = adb := fun e => hne e.symm
  have HH := Lib.hid h
  have HB2 := Lib.hid hb2
  have HN := Lib.hid hn
  unfold Tv.val at *
  clear h h1 h2 fr he hf hx hb2
  go_enter Tryz.func35, Tryz.ntmps35
  go_wp2_with fail
  go_region
  obtain ⟨V, hV⟩ : ∃ V, V = (Value.slice (if d1 = 1 then some ⟨adb, ado, ads⟩ else some ⟨adb, ado + 6, none⟩) n (d1 - 1)) := ⟨_, rfl⟩
  rw [← hV]
  have HVV := Lib.hid hV
  clear hV hn
  obtain ⟨q1, hq1⟩ : ∃ q1 : Int, q1 = (s.steps : Int) + 1 := ⟨_, rfl⟩
  have hw64 : wrap64 ((s.steps : Int) + 1) = q1 := step_w HB2.out hq1
  have hwi : IntKind.i64.wrap ((s.steps : Int) + 1) = q1 := step_k HB2.out hq1
  have HQ := Lib.hid hq1
  have TT : Hid (Mx.Turns (Mx.only b) w (((w.setCell ⟨b, 0, none⟩ V).setCell ⟨b, 8, none⟩ (.int .i64 q1)).alloc (.cells #[.int .i64 x.k, .string x.t, .int .i64 x.p, .int .i64 x.q, .int .i64 x.a, .int .i64 x.c] 41)).drew) :=
    (((Mx.Turns.set1 w b 0 V).then (Mx.Turns.set1 _ b 8 _)).then (Mx.Turns.alloc _ _ _)).drew
  by_cases hs : s.steps < 200000
  · have hlim : decide (200000 < q1) = false := decide_eq_false (by omega)
    have HS := Lib.hid hs
    clear hq1 hs
    go_wp2_with fail
    refine bodyPost_ret (v := .tuple #[x.val, .bool true]) (by simp [results, Tryz.results35, go_sem, Tv.val]) rfl ⟨TT.out, fun _ => ⟨rfl, V, fun h0 => ?_, fun h0 => ?_, ?_⟩, fun h => absurd HS.out h⟩
    · rw [HVV.out, h0]; exact ⟨_, rfl⟩
    · rw [HVV.out, if_neg (by omega)]; rfl
    · have := blk_alloc (heap_set _ b 8 (.int .i64 q1) _ _ (heap_set _ b 0 V _ _ HH.out)) (.cells #[.int .i64 x.k, .string x.t, .int .i64 x.p, .int .i64 x.q, .int .i64 x.a, .int .i64 x.c] 41)
      have hq := HQ.out
      subst hq
      exact this
  · have hlim : decide (200000 < q1) = true := decide_eq_true (by omega)
    have HS := Lib.hid hs
    clear hq1 hs
    go_wp2_with fail
    refine (HFL.out _ (HE.out _ TT.out)).mono ?_; rintro e w2 ⟨rfl, hb⟩
    exact ⟨rfl, TT.out.then (Mx.Turns.of_below hb _), fun h => absurd h HS.out, fun _ => rfl⟩

end Go.Proofs.YtnhcjgnohnedaaaGreatDoor

namespace Go.Proofs.YtnhcjgnohnedaaaGreatDoor
open Go.RowKit

theorem addr6 (a b : Nat) (c : Option Nat) : (⟨a, b, c⟩ : Addr).add 6 = ⟨a, b + 6, none⟩ := rfl
theorem fin_set2 (w : World) {b g k i j : Nat} (V1 V2 V3 : Value) (o : Obj) {cs : Array Value} {t : TypeId} (h : w.heap[b]? = some (.cells cs t (0, 0))) (hgb : g ≠ b) (hg : g < w.heap.size) :
    ((((w.setCell ⟨g, k, none⟩ V1).setCell ⟨b, i, none⟩ V2).setCell ⟨b, j, none⟩ V3).alloc o).drew.heap[b]? = some (.cells ((cs.setIfInBounds i V2).setIfInBounds j V3) t (0, 0)) ∧
    ((((w.setCell ⟨g, k, none⟩ V1).setCell ⟨b, i, none⟩ V2).setCell ⟨b, j, none⟩ V3).alloc o).drew.heap[g]? = (w.setCell ⟨g, k, none⟩ V1).heap[g]? := by
  have h0 : (w.setCell ⟨g, k, none⟩ V1).heap[b]? = some (.cells cs t (0, 0)) := (Below.heap_setCell w ⟨g, k, none⟩ V1 b (fun e => hgb e.symm)).trans h
  have h1 := heap_set _ b i V2 _ _ h0
  have h2 := heap_set _ b j V3 _ _ h1
  refine ⟨blk_alloc h2 o, ?_⟩
  have g1 := Below.heap_setCell (w.setCell ⟨g, k, none⟩ V1) ⟨b, i, none⟩ V2 g hgb
  have g2 := Below.heap_setCell ((w.setCell ⟨g, k, none⟩ V1).setCell ⟨b, i, none⟩ V2) ⟨b, j, none⟩ V3 g hgb
  have g3 := Below.heap_alloc (((w.setCell ⟨g, k, none⟩ V1).setCell ⟨b, i, none⟩ V2).setCell ⟨b, j, none⟩ V3) o g (by simpa [World.setCell] using hg)
  exact g3.trans (g2.trans g1)
theorem fin_set1 (w : World) {b g k j : Nat} (V1 V3 : Value) (o : Obj) {cs : Array Value} {t : TypeId} (h : w.heap[b]? = some (.cells cs t (0, 0))) (hgb : g ≠ b) (hg : g < w.heap.size) :
    (((w.setCell ⟨g, k, none⟩ V1).setCell ⟨b, j, none⟩ V3).alloc o).drew.heap[b]? = some (.cells (cs.setIfInBounds j V3) t (0, 0)) ∧
    (((w.setCell ⟨g, k, none⟩ V1).setCell ⟨b, j, none⟩ V3).alloc o).drew.heap[g]? = (w.setCell ⟨g, k, none⟩ V1).heap[g]? := by
  have h0 : (w.setCell ⟨g, k, none⟩ V1).heap[b]? = some (.cells cs t (0, 0)) := (Below.heap_setCell w ⟨g, k, none⟩ V1 b (fun e => hgb e.symm)).trans h
  have h2 := heap_set _ b j V3 _ _ h0
  refine ⟨blk_alloc h2 o, ?_⟩
  have g2 := Below.heap_setCell (w.setCell ⟨g, k, none⟩ V1) ⟨b, j, none⟩ V3 g hgb
  have g3 := Below.heap_alloc ((w.setCell ⟨g, k, none⟩ V1).setCell ⟨b, j, none⟩ V3) o g (by simpa [World.setCell] using hg)
  exact g3.trans g2
theorem cells_pop (y : Mx.Lay) (s : Mx.St) (V : Value) : ((Mx.cellsE y s).setIfInBounds 1 V).setIfInBounds 8 (.int .i64 ((s.steps : Int) + 1)) = Mx.cellsE { y with vl := V } { s with steps := s.steps + 1 } := rfl
theorem cells_step (y : Mx.Lay) (s : Mx.St) : (Mx.cellsE y s).setIfInBounds 8 (.int .i64 ((s.steps : Int) + 1)) = Mx.cellsE y { s with steps := s.steps + 1 } := rfl
def Mx.two (b g k : Nat) : Prop := k = b ∨ k = g
theorem Mx.Turns.setL (w : World) (b g i : Nat) (u : Value) : Mx.Turns (Mx.two b g) w (w.setCell ⟨b, i, none⟩ u) := Mx.Turns.setCell (M := Mx.two b g) w (p := ⟨b, i, none⟩) (Or.inl rfl) u
theorem Mx.Turns.setR (w : World) (b g i : Nat) (u : Value) : Mx.Turns (Mx.two b g) w (w.setCell ⟨g, i, none⟩ u) := Mx.Turns.setCell (M := Mx.two b g) w (p := ⟨g, i, none⟩) (Or.inr rfl) u
/-- What next leaves behind a token of a list. -/
def NextL (y : Mx.Lay) (s : Mx.St) (b g k n : Nat) (ad : Addr) (x : Tv) (d1 d2 : Nat) (f : Mx.Flt) (w : World) (e : Ending) (w' : World) : Prop :=
  Mx.Turns (Mx.two b g) w w' ∧
      (s.steps < 200000 → e = .returned (.tuple #[x.val, .bool true]) ∧
        (n = 0 → w'.heap[b]? = some (.cells (Mx.cellsE { y with vl := .slice (some ⟨g, 0, none⟩) k d2 } { s with steps := s.steps + 1 }) 48 (0, 0)) ∧ ∃ V, w'.heap[g]? = (w.setCell ⟨g, k, none⟩ V).heap[g]?) ∧
        (0 < n → w'.heap[b]? = some (.cells (Mx.cellsE y { s with steps := s.steps + 1 }) 48 (0, 0)) ∧ w'.heap[g]? = (w.setCell ⟨g, k, none⟩ (.slice (some (ad.add 6)) n (d1 - 1))).heap[g]?)) ∧
      (¬ s.steps < 200000 → e = .panicked [{ v := .iface 27 (.agg #[.int .i64 f.code, .string f.name, .int .i64 f.line, .int .i64 f.col]), recovered := false }])
set_option maxRecDepth 100000 in
set_option maxHeartbeats 8000000 in
/-- The last token of a list. -/
theorem next_list0 (y : Mx.Lay) (s : Mx.St) (b g k : Nat) (ad : Addr) (x : Tv) (d1 d2 : Nat) (w : World) (h : w.heap[b]? = some (.cells (Mx.cellsE y s) 48 (0, 0))) (h2 : y.vl = .slice (some ⟨g, 0, none⟩) (k + 1) d2) (hk : k ≤ 200) (hkd : k + 1 ≤ d2)
    (hc : w.cell? ⟨g, k, none⟩ = some (.slice (some ad) 1 d1)) (hfz : w.frozen? ⟨g, k, none⟩ = false) (hg : g < w.heap.size) (hgb : g ≠ b) (hd : 1 ≤ d1)
    (ht : TokAt w ad x) (hab : ad.block < w.heap.size) (hne : ad.block ≠ b) (hng : ad.block ≠ g) (hb2 : s.steps ≤ 200000) (hx : x.fit) (he : ∀ w', Mx.Turns (Mx.two b g) w w' → EnvL w') (f : Mx.Flt) (hf : f = Mx.failAt 21 x) :
    Calls Tryz.prog 35 #[.pointer (some ⟨b, 0, none⟩)] w (NextL y s b g k 0 ad x d1 d2 f w) := by
  obtain ⟨c0, c1, -, -, -, -, -, -, c8, -, -, -, -, fr, hlt⟩ := ecells h
  rw [h2] at c1
  have f1 := fr 1
  have f8 := fr 8
  have HFL := Lib.hid (fun W (hW : EnvL W) => fail_any 21 x f W hW hx hf)
  have HE := Lib.hid he
  obtain ⟨adb, ado, ads⟩ := ad
  obtain ⟨x0, x1, x2, x3, x4, x5⟩ := ht
  simp only at x0 x1 x2 x3 x4 x5 hab hne hng
  have hne2 : ¬ b = adb := fun e => hne e.symm
  have hng2 : ¬ g = adb := fun e => hng e.symm
  have hgb2 : ¬ b = g := fun e => hgb e.symm
  have HH := Lib.hid h
  have HB2 := Lib.hid hb2
  unfold Tv.val at *
  clear h h2 fr he hf hx hb2
  go_enter Tryz.func35, Tryz.ntmps35
  go_wp2_with fail
  go_region
  obtain ⟨AV, hAV⟩ : ∃ AV, AV = (if d1 = 1 then some (⟨adb, ado, ads⟩ : Addr) else some ⟨adb, ado + 6, none⟩) := ⟨_, rfl⟩
  rw [← hAV]
  have HAV := Lib.hid hAV
  clear hAV
  obtain ⟨q1, hq1⟩ : ∃ q1 : Int, q1 = (s.steps : Int) + 1 := ⟨_, rfl⟩
  have hw64 : wrap64 ((s.steps : Int) + 1) = q1 := step_w HB2.out hq1
  have hwi : IntKind.i64.wrap ((s.steps : Int) + 1) = q1 := step_k HB2.out hq1
  have HQ := Lib.hid hq1
  clear hq1
  have hz : ((0 : Int) == 0) = true := rfl
  have TT : Hid (Mx.Turns (Mx.two b g) w ((((w.setCell ⟨g, k, none⟩ (.slice AV 0 (d1 - 1))).setCell ⟨b, 1, none⟩ (.slice (some ⟨g, 0, none⟩) k d2)).setCell ⟨b, 8, none⟩ (.int .i64 q1)).alloc (.cells #[.int .i64 x.k, .string x.t, .int .i64 x.p, .int .i64 x.q, .int .i64 x.a, .int .i64 x.c] 41)).drew) :=
    ((((Mx.Turns.setR w b g k _).then (Mx.Turns.setL _ b g 1 _)).then (Mx.Turns.setL _ b g 8 _)).then (Mx.Turns.alloc _ _ _)).drew
  have HFIN := Lib.hid (fin_set2 w (k := k) (i := 1) (j := 8) (.slice AV 0 (d1 - 1)) (.slice (some ⟨g, 0, none⟩) k d2) (.int .i64 q1) (.cells #[.int .i64 x.k, .string x.t, .int .i64 x.p, .int .i64 x.q, .int .i64 x.a, .int .i64 x.c] 41) HH.out hgb hg)
  by_cases hs : s.steps < 200000
  · as_aux_lemma =>
      have hlim : decide (200000 < q1) = false := step_lo hs HQ.out
      have HS := Lib.hid hs
      clear hs
      go_wp2_with fail
      exact bodyPost_ret (v := .tuple #[x.val, .bool true]) (by simp [results, Tryz.results35, go_sem, Tv.val]) rfl ⟨TT.out, fun _ => ⟨rfl, fun _ => ⟨by rw [HFIN.out.1, HQ.out, cells_pop], _, HFIN.out.2⟩, fun h0 => absurd h0 (Nat.lt_irrefl 0)⟩, fun h => absurd HS.out h⟩
  · as_aux_lemma =>
      have hlim : decide (200000 < q1) = true := step_hi hs HQ.out
      have HS := Lib.hid hs
      clear hs
      go_wp2_with fail
      refine (HFL.out _ (HE.out _ TT.out)).mono ?_; rintro e w2 ⟨rfl, hb⟩
      exact ⟨rfl, TT.out.then (Mx.Turns.of_below hb _), fun h => absurd h HS.out, fun _ => rfl⟩
end Go.Proofs.YtnhcjgnohnedaaaGreatDoor

namespace Go.Proofs.YtnhcjgnohnedaaaGreatDoor
open Go.RowKit

theorem nat_ne0 (n : Nat) (h : ¬ n = 0) : ((n : Int) == 0) = false := by simp; omega
theorem ne_one {n d : Nat} (h : n + 1 ≤ d) (h0 : ¬ n = 0) : ¬ d = 1 := by omega
set_option maxRecDepth 100000 in
set_option maxHeartbeats 8000000 in
/-- A token of a list behind which there are more. -/
theorem next_listS (y : Mx.Lay) (s : Mx.St) (b g k n : Nat) (ad : Addr) (x : Tv) (d1 d2 : Nat) (w : World) (h : w.heap[b]? = some (.cells (Mx.cellsE y s) 48 (0, 0))) (h2 : y.vl = .slice (some ⟨g, 0, none⟩) (k + 1) d2) (hk : k ≤ 200) (hkd : k + 1 ≤ d2)
    (hc : w.cell? ⟨g, k, none⟩ = some (.slice (some ad) (n + 1) d1)) (hfz : w.frozen? ⟨g, k, none⟩ = false) (hg : g < w.heap.size) (hgb : g ≠ b) (hd : n + 1 ≤ d1) (hn0 : ¬ n = 0) (hn : n < 20000)
    (ht : TokAt w ad x) (hab : ad.block < w.heap.size) (hne : ad.block ≠ b) (hng : ad.block ≠ g) (hb2 : s.steps ≤ 200000) (hx : x.fit) (he : ∀ w', Mx.Turns (Mx.two b g) w w' → EnvL w') (f : Mx.Flt) (hf : f = Mx.failAt 21 x) :
    Calls Tryz.prog 35 #[.pointer (some ⟨b, 0, none⟩)] w (NextL y s b g k n ad x d1 d2 f w) := by
  obtain ⟨c0, c1, -, -, -, -, -, -, c8, -, -, -, -, fr, hlt⟩ := ecells h
  rw [h2] at c1
  have f1 := fr 1
  have f8 := fr 8
  have HFL := Lib.hid (fun W (hW : EnvL W) => fail_any 21 x f W hW hx hf)
  have HE := Lib.hid he
  obtain ⟨adb, ado, ads⟩ := ad
  obtain ⟨x0, x1, x2, x3, x4, x5⟩ := ht
  simp only at x0 x1 x2 x3 x4 x5 hab hne hng
  have hne2 : ¬ b = adb := fun e => hne e.symm
  have hng2 : ¬ g = adb := fun e => hng e.symm
  have hgb2 : ¬ b = g := fun e => hgb e.symm
  have HH := Lib.hid h
  have HB2 := Lib.hid hb2
  unfold Tv.val at *
  have HN0 := Lib.hid hn0
  clear h h2 fr he hf hx hb2 hn0
  go_enter Tryz.func35, Tryz.ntmps35
  go_wp2_with fail
  go_region
  obtain ⟨AV, hAV⟩ : ∃ AV, AV = (if d1 = 1 then some (⟨adb, ado, ads⟩ : Addr) else some ⟨adb, ado + 6, none⟩) := ⟨_, rfl⟩
  rw [← hAV]
  have HAV := Lib.hid hAV
  clear hAV hn
  obtain ⟨q1, hq1⟩ : ∃ q1 : Int, q1 = (s.steps : Int) + 1 := ⟨_, rfl⟩
  have hw64 : wrap64 ((s.steps : Int) + 1) = q1 := step_w HB2.out hq1
  have hwi : IntKind.i64.wrap ((s.steps : Int) + 1) = q1 := step_k HB2.out hq1
  have HQ := Lib.hid hq1
  clear hq1
  have hz : ((n : Int) == 0) = false := nat_ne0 n HN0.out
  have hA6 : AV = some ((⟨adb, ado, ads⟩ : Addr).add 6) := by rw [HAV.out, if_neg (ne_one hd HN0.out), addr6]
  have HA6 := Lib.hid hA6
  clear hA6
  have TT : Hid (Mx.Turns (Mx.two b g) w (((w.setCell ⟨g, k, none⟩ (.slice AV n (d1 - 1))).setCell ⟨b, 8, none⟩ (.int .i64 q1)).alloc (.cells #[.int .i64 x.k, .string x.t, .int .i64 x.p, .int .i64 x.q, .int .i64 x.a, .int .i64 x.c] 41)).drew) :=
    (((Mx.Turns.setR w b g k _).then (Mx.Turns.setL _ b g 8 _)).then (Mx.Turns.alloc _ _ _)).drew
  have HFIN := Lib.hid (fin_set1 w (k := k) (j := 8) (.slice AV n (d1 - 1)) (.int .i64 q1) (.cells #[.int .i64 x.k, .string x.t, .int .i64 x.p, .int .i64 x.q, .int .i64 x.a, .int .i64 x.c] 41) HH.out hgb hg)
  by_cases hs : s.steps < 200000
  · as_aux_lemma =>
      have hlim : decide (200000 < q1) = false := step_lo hs HQ.out
      have HS := Lib.hid hs
      clear hs
      go_wp2_with fail
      exact bodyPost_ret (v := .tuple #[x.val, .bool true]) (by simp [results, Tryz.results35, go_sem, Tv.val]) rfl ⟨TT.out, fun _ => ⟨rfl, fun h0 => absurd h0 HN0.out, fun _ => ⟨by rw [HFIN.out.1, HQ.out, cells_step], by rw [HFIN.out.2, HA6.out]⟩⟩, fun h => absurd HS.out h⟩
  · as_aux_lemma =>
      have hlim : decide (200000 < q1) = true := step_hi hs HQ.out
      have HS := Lib.hid hs
      clear hs
      go_wp2_with fail
      refine (HFL.out _ (HE.out _ TT.out)).mono ?_; rintro e w2 ⟨rfl, hb⟩
      exact ⟨rfl, TT.out.then (Mx.Turns.of_below hb _), fun h => absurd h HS.out, fun _ => rfl⟩
end Go.Proofs.YtnhcjgnohnedaaaGreatDoor
