/-
  Numbers that lie in blocks that can be written (of XPower.lean, by itself).
-/
-- LAW 01
import Derived.Test.YtanhomngnickfaaDoorAwake
namespace Go.Proofs.YtanhomngnickfaaDoor
open Go.RowKit

/-- A number that lies in a block that can be written. -/
structure NumFr (w : World) (b : Nat) (x y : Int) : Prop extends NumAt w b x y where
  f0 : w.frozen? ⟨b, 0, none⟩ = false
  f1 : w.frozen? ⟨b, 1, none⟩ = false
theorem NumFr.below {w w' : World} {b : Nat} {x y : Int} (h : NumFr w b x y) (hb : Below w.heap.size w w') : NumFr w' b x y :=
  ⟨h.toNumAt.below hb, by rw [(bcell hb).2 _ _ h.lt]; exact h.f0, by rw [(bcell hb).2 _ _ h.lt]; exact h.f1⟩
theorem NumFr.alloc {w : World} {b : Nat} {x y : Int} (h : NumFr w b x y) (o : Obj) : NumFr (w.alloc o) b x y :=
  h.below ((Below.refl _ _).alloc (Nat.le_refl _) o)
theorem numFr_new (w : World) (x y : Int) (t : TypeId) : NumFr (w.alloc (.cells #[.int .i64 x, .int .i64 y] t)) w.heap.size x y :=
  ⟨numAt_new w x y t, by simp [go_sem], by simp [go_sem]⟩
theorem NumFr.setSame {w : World} {b : Nat} {x y : Int} (h : NumFr w b x y) (x' y' : Int) : NumFr ((w.setCell ⟨b, 0, none⟩ (.int .i64 x')).setCell ⟨b, 1, none⟩ (.int .i64 y')) b x' y' := by
  have e01 : (⟨b, 1, none⟩ : Addr) ≠ ⟨b, 0, none⟩ := by simp
  have e10 : (⟨b, 0, none⟩ : Addr) ≠ ⟨b, 1, none⟩ := by simp
  refine ⟨⟨?_, ?_, ?_⟩, ?_, ?_⟩
  · rw [World.cell?_setCell_other _ _ _ _ e01]; exact World.cell?_setCell_same _ _ _ h.c0
  · exact World.cell?_setCell_same _ _ _ ((World.cell?_setCell_other _ _ _ _ e10).trans h.c1)
  · simpa using h.lt
  · simpa [go_sem] using h.f0
  · simpa [go_sem] using h.f1
theorem NumFr.setOther {w : World} {b c : Nat} {x y : Int} (h : NumFr w b x y) (hbc : c ≠ b) (u v : Value) : NumFr ((w.setCell ⟨c, 0, none⟩ u).setCell ⟨c, 1, none⟩ v) b x y := by
  refine ⟨⟨?_, ?_, ?_⟩, ?_, ?_⟩
  · rw [World.cell?_setCell_other _ _ _ _ (by simp <;> omega), World.cell?_setCell_other _ _ _ _ (by simp <;> omega)]; exact h.c0
  · rw [World.cell?_setCell_other _ _ _ _ (by simp <;> omega), World.cell?_setCell_other _ _ _ _ (by simp <;> omega)]; exact h.c1
  · simpa using h.lt
  · simpa [go_sem] using h.f0
  · simpa [go_sem] using h.f1

theorem belP {w a b : World} (h : Hid (Below w.heap.size w a)) (hb : Below a.heap.size a b) : Hid (Below w.heap.size w b) := h.out.trans (hb.mono h.out.size)
end Go.Proofs.YtanhomngnickfaaDoor
