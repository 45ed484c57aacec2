/-
  From a walk to a row of layer 3: an argument that is a slice of tokens, opened and read again.
-/
import Derived.Test.YtcgiibjkonleeaaGreatDoorLxT
import Derived.Test.YtcgiibjkonleeaaGreatDoorLxU
namespace Go.Proofs.YtcgiibjkonleeaaGreatDoor
open Go.ChangeShapes Go.WideShapes Go.ChangeAt Go.RowKit Go.Joins Go.Deep

theorem six {cs : List Value} (h : cs.length = 6) : ∃ c0 c1 c2 c3 c4 c5, cs = [c0, c1, c2, c3, c4, c5] := by
  match cs, h with
  | [c0, c1, c2, c3, c4, c5], _ => exact ⟨c0, c1, c2, c3, c4, c5, rfl⟩
section
variable {H : Type} {enc : TypeId × Value → H} {w : World} {base : Nat} {spare : Nat → Bool} {held : Bool}
/-- The cells of a token that is read. -/
theorem tok_cells {fuel : Nat} {cs : List Value} {x : DataW H × List MemPlace} (h : DataW.trod enc Tryz.prog w base spare held fuel 38 cs = some x) : ∃ y : Tv, cs = y.cells ∧ y.fit := by
  obtain ⟨xs, n, rfl, -, hlen, hxl, hf⟩ := DataW.trod_struct Tryz.underlying38 h
  have hC : Tryz.prog.cellsOf 38 = 6 := by kernel_rfl
  have hK : Tryz.prog.cellsOf 34 = 1 := by kernel_rfl
  have hS : Tryz.prog.cellsOf 9 = 1 := by kernel_rfl
  have hN : Tryz.prog.cellsOf 36 = 2 := by kernel_rfl
  have hI : Tryz.prog.cellsOf 3 = 1 := by kernel_rfl
  have hJ : Tryz.prog.cellsOf 2 = 1 := by kernel_rfl
  have uK : Tryz.prog.underlying 34 = some (.int .i64) := by kernel_rfl
  rw [hC] at hlen
  obtain ⟨c0, c1, c2, c3, c4, c5, rfl⟩ := six hlen
  have hxl5 : xs.length = 5 := hxl
  have some_of : ∀ i, i < 5 → ∃ y, xs[i]? = some y := fun i hi => ⟨_, List.getElem?_eq_getElem (by omega)⟩
  have f0 := hf 0 _ rfl
  have f1 := hf 1 _ rfl
  have f2 := hf 2 _ rfl
  have f3 := hf 3 _ rfl
  have f4 := hf 4 _ rfl
  obtain ⟨y0, e0⟩ := some_of 0 (by omega)
  obtain ⟨y1, e1⟩ := some_of 1 (by omega)
  obtain ⟨y2, e2⟩ := some_of 2 (by omega)
  obtain ⟨y3, e3⟩ := some_of 3 (by omega)
  obtain ⟨y4, e4⟩ := some_of 4 (by omega)
  rw [e0] at f0; rw [e1] at f1; rw [e2] at f2; rw [e3] at f3; rw [e4] at f4
  replace f0 : DataW.trod enc Tryz.prog w base spare held n 34 (([c0, c1, c2, c3, c4, c5].drop 0).take (Tryz.prog.cellsOf 34)) = some y0 := f0
  replace f1 : DataW.trod enc Tryz.prog w base spare held n 9 (([c0, c1, c2, c3, c4, c5].drop 1).take (Tryz.prog.cellsOf 9)) = some y1 := f1
  replace f2 : DataW.trod enc Tryz.prog w base spare held n 36 (([c0, c1, c2, c3, c4, c5].drop 2).take (Tryz.prog.cellsOf 36)) = some y2 := f2
  replace f3 : DataW.trod enc Tryz.prog w base spare held n 3 (([c0, c1, c2, c3, c4, c5].drop 4).take (Tryz.prog.cellsOf 3)) = some y3 := f3
  replace f4 : DataW.trod enc Tryz.prog w base spare held n 3 (([c0, c1, c2, c3, c4, c5].drop 5).take (Tryz.prog.cellsOf 3)) = some y4 := f4
  rw [hK] at f0
  rw [hS] at f1
  rw [hN] at f2
  rw [hI] at f3 f4
  simp only [List.drop_succ_cons, List.drop_zero, List.take_succ_cons, List.take_zero] at f0 f1 f2 f3 f4
  obtain ⟨k, g0, -, -⟩ := DataW.trod_int uK f0
  obtain ⟨t, g1, -, wt⟩ := DataW.trod_string Tryz.underlying9 f1
  obtain ⟨a, g3, -, -⟩ := DataW.trod_int Tryz.underlying3 f3
  obtain ⟨c, g4, -, -⟩ := DataW.trod_int Tryz.underlying3 f4
  obtain ⟨zs, m, -, -, -, hzl, hz⟩ := DataW.trod_struct Tryz.underlying36 f2
  have hzl2 : zs.length = 2 := hzl
  have z0 := hz 0 _ rfl
  have z1 := hz 1 _ rfl
  rw [List.getElem?_eq_getElem (by omega)] at z0 z1
  replace z0 : DataW.trod enc Tryz.prog w base spare held m 2 (([c2, c3].drop 0).take (Tryz.prog.cellsOf 2)) = some (zs[0]'(by omega)) := z0
  replace z1 : DataW.trod enc Tryz.prog w base spare held m 2 (([c2, c3].drop 1).take (Tryz.prog.cellsOf 2)) = some (zs[1]'(by omega)) := z1
  rw [hJ] at z0 z1
  simp only [List.drop_succ_cons, List.drop_zero, List.take_succ_cons, List.take_zero] at z0 z1
  obtain ⟨p, g2, -, wp⟩ := DataW.trod_int Tryz.underlying2 z0
  obtain ⟨q, g2', -, wq⟩ := DataW.trod_int Tryz.underlying2 z1
  simp only [List.cons.injEq, and_true] at g0 g1 g2 g2' g3 g4
  subst g0 g1 g2 g2' g3 g4
  obtain ⟨p1, p2⟩ := bounds_i64 wp
  obtain ⟨q1, q2⟩ := bounds_i64 wq
  exact ⟨⟨k, t, p, q, a, c⟩, rfl, ⟨p1, p2, q1, q2, wt⟩⟩
set_option maxRecDepth 100000 in
/-- An argument that is a slice of tokens. -/
theorem open_toks {r : Reach} {b0 : Nat} {v : Value} {d : DataW H} {ps : List MemPlace} (hv : Value.okWide Tryz.prog w r b0 23 v) (h : DataW.Trod enc Tryz.prog w base spare held 23 v d ps) :
    ∃ (A : Option Addr) (c : Nat) (l : List Tv), v = .slice A l.length c ∧ TokSl w w.heap.size A l ∧ (∀ x ∈ l, x.fit) ∧ l.length ≤ 9223372036854775807 := by
  obtain ⟨a0, len, cap, rfl⟩ := okWide_slice Tryz.underlying23 hv
  obtain ⟨fuel, hf⟩ := h
  have hC : Tryz.prog.cellsOf 38 = 6 := by kernel_rfl
  rcases open_slice Tryz.underlying23 hf with ⟨h0, -⟩ | ⟨a, ln, cp, m, n, D, Pl, h0, -, hlc, hcm, hm, -, hi⟩
  · have h1 : (.slice a0 len cap : Value) = .slice none 0 0 := by simpa [Value.cells] using h0
    injection h1 with h1 h2 h3
    subst h1 h2 h3
    exact ⟨none, 0, [], rfl, (fun hn => by simp at hn), (fun x hx => by simp at hx), by simp⟩
  · have h1 : (.slice a0 len cap : Value) = .slice (some a) ln cp := by simpa [Value.cells] using h0
    injection h1 with h1 h2 h3
    subst h1 h2 h3
    have hlm : len ≤ m := by rw [hm]; split <;> omega
    have key : ∀ i, i < len → ∃ y : Tv, y.fit ∧ TokAt w (a.add (i * 6)) y ∧ a.block < w.heap.size := fun i hil => by
      obtain ⟨cs, hcs, ht⟩ := hi i (by omega)
      obtain ⟨y, rfl, hy⟩ := tok_cells ht
      rw [hC] at hcs
      obtain ⟨-, -, hat⟩ := World.cells?_some hcs
      have at' : ∀ k, k < 6 → w.cell? ((a.add (i * 6)).add k) = y.cells[k]? := hat
      have plain : ∀ k, 0 < k → ((a.add (i * 6)).add k) = ⟨(a.add (i * 6)).block, (a.add (i * 6)).off + k, none⟩ := fun k hk => by
        unfold Addr.add; rw [if_neg (by omega)]
      refine ⟨y, hy, ⟨at' 0 (by omega), ?_, ?_, ?_, ?_, ?_⟩, ?_⟩
      · rw [← plain 1 (by omega)]; exact at' 1 (by omega)
      · rw [← plain 2 (by omega)]; exact at' 2 (by omega)
      · rw [← plain 3 (by omega)]; exact at' 3 (by omega)
      · rw [← plain 4 (by omega)]; exact at' 4 (by omega)
      · rw [← plain 5 (by omega)]; exact at' 5 (by omega)
      · have h5 := at' 1 (by omega)
        rw [plain 1 (by omega), block_of_add] at h5
        have h6 : w.cell? ⟨a.block, (a.add (i * 6)).off + 1, none⟩ = some (.string y.t) := h5
        cases hh : w.heap[a.block]? with
        | none => simp [World.cell?, hh] at h6
        | some o => exact (Array.getElem?_eq_some_iff.1 hh).1
    have : Inhabited Tv := ⟨⟨0, ⟨#[]⟩, 0, 0, 0, 0⟩⟩
    obtain ⟨f, hf2⟩ := choose_lt (α := Tv) (n := len) (p := fun i y => y.fit ∧ TokAt w (a.add (i * 6)) y ∧ a.block < w.heap.size) key
    refine ⟨some a, cap, (List.range len).map f, by simp, ?_, ?_, by simp; unfold maxLen at hcm; omega⟩
    · intro hn
      have hlen : 0 < len := by simpa using hn
      refine ⟨a, rfl, (hf2 0 hlen).2.2, fun j x hx => ?_⟩
      have hj : j < len := by have := (List.getElem?_eq_some_iff.1 hx).1; simpa using this
      simp [hj] at hx
      subst hx
      exact (hf2 j hj).2.1
    · intro x hx
      obtain ⟨j, hj, rfl⟩ := List.mem_map.1 hx
      exact (hf2 j (List.mem_range.1 hj)).1
end
/-- It reads again behind the call as it read before. -/
theorem toks_again {H : Type} {enc : TypeId × Value → H} {W W' : World} {v : Value} {d : DataW H} {ps : List MemPlace} (h : DataW.Trod enc Tryz.prog W 0 (fun _ => true) true 23 v d ps) (hb : Below W.heap.size W W') (hlt : ∀ x ∈ ps, x.block < W.heap.size) :
    DataW.Trod enc Tryz.prog W' 0 (fun b => decide (b < W.heap.size)) true 23 v d ps :=
  Below.trod (by kernel_rfl) (by kernel_rfl) (of_decide_eq_true (by kernel_rfl)) h hb hlt
end Go.Proofs.YtcgiibjkonleeaaGreatDoor
