/-
  Contracts of package lex: the reader goes past a token.
-/
import Derived.Test.YtnhcjgnohnedaaaGreatDoorLxH
import Derived.BigRegion
namespace Go.Proofs.YtnhcjgnohnedaaaGreatDoor
open Go.RowKit

def faultV (e : Int) (nm : List UInt8) (ln cl : Int) : Value := .agg #[.int .i64 e, .string ⟨nm.toArray⟩, .int .i64 ln, .int .i64 cl]

theorem blk_new2 (w : World) (o1 o2 : Obj) : ((w.alloc o1).alloc o2).heap[w.heap.size + 1]? = some o2 := by
  have := heap_alloc_new (w.alloc o1) o2
  rwa [show (w.alloc o1).heap.size = w.heap.size + 1 by simp] at this
theorem far6 {w : World} {b b' : Nat} (hne : b' ≠ b) (v0 v1 v2 v3 v4 v5 : Value) :
    ((((((w.setCell ⟨b, 0, none⟩ v0).setCell ⟨b, 1, none⟩ v1).setCell ⟨b, 2, none⟩ v2).setCell ⟨b, 3, none⟩ v3).setCell ⟨b, 4, none⟩ v4).setCell ⟨b, 5, none⟩ v5).heap[b']? = w.heap[b']? :=
  (Below.heap_setCell _ ⟨b, 5, none⟩ _ _ hne).trans ((Below.heap_setCell _ ⟨b, 4, none⟩ _ _ hne).trans ((Below.heap_setCell _ ⟨b, 3, none⟩ _ _ hne).trans ((Below.heap_setCell _ ⟨b, 2, none⟩ _ _ hne).trans ((Below.heap_setCell _ ⟨b, 1, none⟩ _ _ hne).trans (Below.heap_setCell _ ⟨b, 0, none⟩ _ _ hne)))))
theorem far4 {w : World} {b b' : Nat} (hne : b' ≠ b) (v0 v1 v2 v3 : Value) :
    ((((w.setCell ⟨b, 0, none⟩ v0).setCell ⟨b, 1, none⟩ v1).setCell ⟨b, 2, none⟩ v2).setCell ⟨b, 3, none⟩ v3).heap[b']? = w.heap[b']? :=
  (Below.heap_setCell _ ⟨b, 3, none⟩ _ _ hne).trans ((Below.heap_setCell _ ⟨b, 2, none⟩ _ _ hne).trans ((Below.heap_setCell _ ⟨b, 1, none⟩ _ _ hne).trans (Below.heap_setCell _ ⟨b, 0, none⟩ _ _ hne)))
theorem grown_far {a w : World} {r : Option Nat} (h : a.grownBy w r) {g i : Nat} (hp : a.heap.size ≤ g) (v : Value) : a.grownBy (w.setCell ⟨g, i, none⟩ v) r :=
  ⟨h.os, h.tape, h.output, by simpa [World.setCell] using h.size, fun j hj hn => (Below.heap_setCell w ⟨g, i, none⟩ v j (fun e => by simp only at e; omega)).trans (h.block j hj hn)⟩
theorem grown6 {a w : World} {r : Option Nat} (h : a.grownBy w r) {b : Nat} (hb : a.heap.size ≤ b) (v0 v1 v2 v3 v4 v5 : Value) :
    a.grownBy ((((((w.setCell ⟨b, 0, none⟩ v0).setCell ⟨b, 1, none⟩ v1).setCell ⟨b, 2, none⟩ v2).setCell ⟨b, 3, none⟩ v3).setCell ⟨b, 4, none⟩ v4).setCell ⟨b, 5, none⟩ v5) r :=
  grown_far (grown_far (grown_far (grown_far (grown_far (grown_far h hb _) hb _) hb _) hb _) hb _) hb _
theorem grown4 {a w : World} {r : Option Nat} (h : a.grownBy w r) {b : Nat} (hb : a.heap.size ≤ b) (v0 v1 v2 v3 : Value) :
    a.grownBy ((((w.setCell ⟨b, 0, none⟩ v0).setCell ⟨b, 1, none⟩ v1).setCell ⟨b, 2, none⟩ v2).setCell ⟨b, 3, none⟩ v3) r :=
  grown_far (grown_far (grown_far (grown_far h hb _) hb _) hb _) hb _
theorem blk4b {w : World} {b : Nat} {t : TypeId} {c0 c1 c2 c3 : Value} (h : w.heap[b]? = some (.cells #[c0, c1, c2, c3] t (0, 0))) :
    (w.cell? ⟨b, 0, none⟩ = some c0 ∧ w.cell? ⟨b, 1, none⟩ = some c1 ∧ w.cell? ⟨b, 2, none⟩ = some c2 ∧ w.cell? ⟨b, 3, none⟩ = some c3) ∧
    (w.frozen? ⟨b, 0, none⟩ = false ∧ w.frozen? ⟨b, 1, none⟩ = false ∧ w.frozen? ⟨b, 2, none⟩ = false ∧ w.frozen? ⟨b, 3, none⟩ = false) ∧ b < w.heap.size := blk4 h

end Go.Proofs.YtnhcjgnohnedaaaGreatDoor
