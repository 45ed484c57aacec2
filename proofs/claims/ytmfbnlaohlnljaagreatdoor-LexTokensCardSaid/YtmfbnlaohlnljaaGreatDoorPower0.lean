/-
  Contracts of the reference of layer 3: the token with which a string begins: names.
  The chapter's examples hold: awake returns true, in every world that keeps what the library reads.
  Numbers that lie in blocks that can be written (of XPower.lean, by itself).
-/
import Derived.Test.YtmfbnlaohlnljaaGreatDoorLrI
import Derived.Test.YtmfbnlaohlnljaaGreatDoorLxI
import Derived.Test.YtmfbnlaohlnljaaGreatDoorDec3
namespace Go.Proofs.YtmfbnlaohlnljaaGreatDoor
open Go.RowKit

/-- What the reference's one returns. -/
def roneV (o : Lx.One) (l : List UInt8) : Value :=
  if o.e = 0 then .tuple #[tokV o.t 0 0, .int .i64 o.n, faultV 0 [] 0 0] else .tuple #[tokV ⟨0, [], 0, 0⟩ 0 0, .int .i64 0, faultV o.e (l.take (min o.n 40)) 0 0]
set_option maxRecDepth 100000 in
set_option maxHeartbeats 4000000 in
theorem rone_name (l : List UInt8) (w : World) (hl : l.length ≤ 20000) (h0 : 0 < Lx.runN Lx.letter l) (h40 : Lx.runN Lx.letter l ≤ 40) :
    Calls Tryz.prog 30 #[.string ⟨l.toArray⟩] w fun e w' => e = .returned (roneV ⟨⟨0, l.take (Lx.runN Lx.letter l), 0, 0⟩, Lx.runN Lx.letter l, 0⟩ l) ∧ Below w.heap.size w w' := by
  have HL := Lib.hid (fun W => rletters_any ⟨l.toArray⟩ W (by rw [ba_size]; unfold maxLen; omega))
  have hle := Lx.runN_le Lx.letter l
  simp only at HL
  have hx := ext_head l (Lx.runN Lx.letter l)
  obtain ⟨n, hn⟩ : ∃ n, n = Lx.runN Lx.letter l := ⟨_, rfl⟩
  rw [← hn] at HL hle hx h0 h40 ⊢
  obtain ⟨s, hs⟩ : ∃ s : ByteArray, s = ⟨l.toArray⟩ := ⟨_, rfl⟩
  have hz : s.size = l.length := by rw [hs]; rfl
  rw [← hs] at HL hx ⊢
  rw [← hz] at hle hl
  obtain ⟨T, hT⟩ : ∃ T : ByteArray, T = ⟨(l.take n).toArray⟩ := ⟨_, rfl⟩
  rw [← hT] at hx
  have HT := Lib.hid hT
  clear hn hs hz hT
  go_enter Tryz.func30, Tryz.ntmps30
  go_wp2_with fail
  refine (HL.out _).mono ?_; rintro e w' ⟨rfl, rfl⟩
  go_wp2_with fail
  exact bodyPost_ret (v := roneV ⟨⟨0, l.take n, 0, 0⟩, n, 0⟩ l) (by simp [results, Tryz.results30, go_sem, roneV, tokV, faultV]; exact HT.out) rfl ⟨rfl, ((Below.refl _ _).alloc (Nat.le_refl _) _).alloc (by simp) _⟩
set_option maxRecDepth 100000 in
set_option maxHeartbeats 4000000 in
theorem rone_long (l : List UInt8) (w : World) (hl : l.length ≤ 20000) (h40 : 40 < Lx.runN Lx.letter l) :
    Calls Tryz.prog 30 #[.string ⟨l.toArray⟩] w fun e w' => e = .returned (roneV (Lx.One.bad (Lx.runN Lx.letter l) 3) l) ∧ Below w.heap.size w w' := by
  have HL := Lib.hid (fun W => rletters_any ⟨l.toArray⟩ W (by rw [ba_size]; unfold maxLen; omega))
  have hle := Lx.runN_le Lx.letter l
  simp only at HL
  have hx := ext_head l (Lx.runN Lx.letter l)
  obtain ⟨n, hn⟩ : ∃ n, n = Lx.runN Lx.letter l := ⟨_, rfl⟩
  rw [← hn] at HL hle hx h40 ⊢
  obtain ⟨s, hs⟩ : ∃ s : ByteArray, s = ⟨l.toArray⟩ := ⟨_, rfl⟩
  have hz : s.size = l.length := by rw [hs]; rfl
  have HFX : Hid (∀ W, Calls Tryz.prog 58 #[.string ⟨(l.take n).toArray⟩] W fun e w' => e = .returned (.string ⟨(l.take (min n 40)).toArray⟩) ∧ W = w') := fun W => by
    have := rfirst_any ⟨(l.take n).toArray⟩ W (by rw [ba_size, List.length_take]; unfold maxLen; omega)
    rw [ba_size, ext_head, List.length_take, show min (min n l.length) 40 = min n 40 by omega, List.take_take, show min (min n 40) n = min n 40 by omega] at this
    exact this
  rw [← hs] at HL hx ⊢
  rw [← hz] at hle hl
  obtain ⟨T, hT⟩ : ∃ T : ByteArray, T = ⟨(l.take n).toArray⟩ := ⟨_, rfl⟩
  obtain ⟨F, hF⟩ : ∃ F : ByteArray, F = ⟨(l.take (min n 40)).toArray⟩ := ⟨_, rfl⟩
  rw [← hT] at hx HFX
  rw [← hF] at HFX
  have HF := Lib.hid hF
  clear hn hs hz hT hF
  go_enter Tryz.func30, Tryz.ntmps30
  go_wp2_with fail
  refine (HL.out _).mono ?_; rintro e w' ⟨rfl, rfl⟩
  go_wp2_with fail
  refine (HFX.out _).mono ?_; rintro e w' ⟨rfl, rfl⟩
  go_wp2_with fail
  exact bodyPost_ret (v := roneV (Lx.One.bad n 3) l) (by simp [results, Tryz.results30, go_sem, roneV, tokV, faultV, Lx.One.bad]; exact HF.out) rfl ⟨rfl, ((Below.refl _ _).alloc (Nat.le_refl _) _).alloc (by simp) _⟩
end Go.Proofs.YtmfbnlaohlnljaaGreatDoor

namespace Go.Proofs.YtmfbnlaohlnljaaGreatDoor
open Go.RowKit

/-- A number that lies in a block. -/
structure NumAt (w : World) (b : Nat) (x y : Int) : Prop where
  c0 : w.cell? ⟨b, 0, none⟩ = some (.int .i64 x)
  c1 : w.cell? ⟨b, 1, none⟩ = some (.int .i64 y)
  lt : b < w.heap.size
theorem NumAt.below {w w' : World} {b : Nat} {x y : Int} (h : NumAt w b x y) (hb : Below w.heap.size w w') : NumAt w' b x y :=
  ⟨by rw [(bcell hb).1 _ _ h.lt]; exact h.c0, by rw [(bcell hb).1 _ _ h.lt]; exact h.c1, Nat.lt_of_lt_of_le h.lt hb.size⟩
theorem NumAt.alloc {w : World} {b : Nat} {x y : Int} (h : NumAt w b x y) (o : Obj) : NumAt (w.alloc o) b x y :=
  h.below ((Below.refl _ _).alloc (Nat.le_refl _) o)
theorem numAt_new (w : World) (x y : Int) (t : TypeId) : NumAt (w.alloc (.cells #[.int .i64 x, .int .i64 y] t)) w.heap.size x y :=
  ⟨by simp [go_sem], by simp [go_sem], by simp⟩

theorem aw_make (w : World) : Calls Tryz.prog 163 #[.int .i64 6, .int .i64 (-4)] w fun e w' => e = .returned (numV (-3) 2 0) ∧ Below w.heap.size w w' := by
  have h := make_any 6 (-4) w (by omega) (by omega) (by omega) (by omega)
  rwa [show Nm.mkP 6 (-4) = -3 by decide +kernel, show Nm.mkQ 6 (-4) = 2 by decide +kernel, show Nm.mkE 6 (-4) = 0 by decide +kernel] at h
theorem aw_decimal (w : World) (he : Env w) : Calls Tryz.prog 126 #[.string ⟨#[48, 46, 53, 48]⟩] w fun e w' => e = .returned (numV 1 2 0) ∧ Below w.heap.size w w' := by
  have h := decimal_G1 ⟨#[48, 46, 53, 48]⟩ w he (by decide +kernel) [48] [53, 48] (by decide +kernel) (by decide) (by decide) (by decide +kernel) (by decide +kernel) (by decide)
  rwa [show Nm.mkP (dval ([48] ++ [53, 48])) ((10 ^ [(53 : UInt8), 48].length : Nat) : Int) = 1 by decide +kernel, show Nm.mkQ (dval ([48] ++ [53, 48])) ((10 ^ [(53 : UInt8), 48].length : Nat) : Int) = 2 by decide +kernel, show Nm.mkE (dval ([48] ++ [53, 48])) ((10 ^ [(53 : UInt8), 48].length : Nat) : Int) = 0 by decide +kernel] at h
theorem aw_valid (w : World) : Calls Tryz.prog 120 #[.agg #[.int .i64 (-3), .int .i64 2]] w fun e w' => e = .returned (.bool true) ∧ Below w.heap.size w w' := by
  have h := valid_any (-3) 2 w (by omega) (by omega) (by omega) (by omega)
  rwa [show Nm.vld (-3) 2 = true by decide +kernel] at h

end Go.Proofs.YtmfbnlaohlnljaaGreatDoor

namespace Go.Proofs.YtmfbnlaohlnljaaGreatDoor
open Go.RowKit

/-- A number that lies in a block that can be written. -/
structure NumFr (w : World) (b : Nat) (x y : Int) : Prop extends NumAt w b x y where
  f0 : w.frozen? ⟨b, 0, none⟩ = false
  f1 : w.frozen? ⟨b, 1, none⟩ = false
theorem NumFr.below {w w' : World} {b : Nat} {x y : Int} (h : NumFr w b x y) (hb : Below w.heap.size w w') : NumFr w' b x y :=
  ⟨h.toNumAt.below hb, by rw [(bcell hb).2 _ _ h.lt]; exact h.f0, by rw [(bcell hb).2 _ _ h.lt]; exact h.f1⟩
theorem NumFr.alloc {w : World} {b : Nat} {x y : Int} (h : NumFr w b x y) (o : Obj) : NumFr (w.alloc o) b x y :=
  h.below ((Below.refl _ _).alloc (Nat.le_refl _) o)
theorem numFr_new (w : World) (x y : Int) (t : TypeId) : NumFr (w.alloc (.cells #[.int .i64 x, .int .i64 y] t)) w.heap.size x y :=
  ⟨numAt_new w x y t, by simp [go_sem], by simp [go_sem]⟩
theorem NumFr.setSame {w : World} {b : Nat} {x y : Int} (h : NumFr w b x y) (x' y' : Int) : NumFr ((w.setCell ⟨b, 0, none⟩ (.int .i64 x')).setCell ⟨b, 1, none⟩ (.int .i64 y')) b x' y' := by
  have e01 : (⟨b, 1, none⟩ : Addr) ≠ ⟨b, 0, none⟩ := by simp
  have e10 : (⟨b, 0, none⟩ : Addr) ≠ ⟨b, 1, none⟩ := by simp
  refine ⟨⟨?_, ?_, ?_⟩, ?_, ?_⟩
  · rw [World.cell?_setCell_other _ _ _ _ e01]; exact World.cell?_setCell_same _ _ _ h.c0
  · exact World.cell?_setCell_same _ _ _ ((World.cell?_setCell_other _ _ _ _ e10).trans h.c1)
  · simpa using h.lt
  · simpa [go_sem] using h.f0
  · simpa [go_sem] using h.f1
theorem NumFr.setOther {w : World} {b c : Nat} {x y : Int} (h : NumFr w b x y) (hbc : c ≠ b) (u v : Value) : NumFr ((w.setCell ⟨c, 0, none⟩ u).setCell ⟨c, 1, none⟩ v) b x y := by
  refine ⟨⟨?_, ?_, ?_⟩, ?_, ?_⟩
  · rw [World.cell?_setCell_other _ _ _ _ (by simp <;> omega), World.cell?_setCell_other _ _ _ _ (by simp <;> omega)]; exact h.c0
  · rw [World.cell?_setCell_other _ _ _ _ (by simp <;> omega), World.cell?_setCell_other _ _ _ _ (by simp <;> omega)]; exact h.c1
  · simpa using h.lt
  · simpa [go_sem] using h.f0
  · simpa [go_sem] using h.f1

theorem belP {w a b : World} (h : Hid (Below w.heap.size w a)) (hb : Below a.heap.size a b) : Hid (Below w.heap.size w b) := h.out.trans (hb.mono h.out.size)
end Go.Proofs.YtmfbnlaohlnljaaGreatDoor
