/-
  The walk of NumMakes: it returns true at any two integers.
-/
-- LAW 01
import Derived.Test.YtmcpbnkmccngpaaDoorAwake
import Derived.Deep.RegionHeld3
namespace Go.Proofs.YtmcpbnkmccngpaaDoor
open Go.RowKit

theorem belK {w a b : World} (h : Hid (Below w.heap.size w a)) (hb : Below a.heap.size a b) : Hid (Below w.heap.size w b) := h.out.trans (hb.mono h.out.size)
theorem belD {B : Nat} {w a : World} (h : Hid (Below B w a)) : Hid (Below B w a.drew) := h.out.drew
theorem envD {a : World} (h : Hid (Env a)) : Hid (Env a.drew) := h.out.below ((Below.refl _ _).drew)
theorem envK {a b : World} (h : Hid (Env a)) (hb : Below a.heap.size a b) : Hid (Env b) := h.out.below hb

set_option maxRecDepth 100000 in
set_option maxHeartbeats 2000000 in
theorem numMakes_core (p q P Q E : Int) (v : Bool) (w : World) (he : Env w)
    (c1 : ∀ w, Calls Tryd.prog 13 #[.int .i64 p, .int .i64 q] w fun e w' => e = .returned (numV P Q E) ∧ Below w.heap.size w w')
    (c2 : ∀ w, Calls Tryd.prog 14 #[.int .i64 p, .int .i64 q] w fun e w' => e = .returned (numV P Q E) ∧ Below w.heap.size w w')
    (c3 : ∀ w, Calls Tryd.prog 15 #[.agg #[.int .i64 p, .int .i64 q]] w fun e w' => e = .returned (.bool v) ∧ Below w.heap.size w w')
    (c4 : ∀ w, Calls Tryd.prog 16 #[.agg #[.int .i64 p, .int .i64 q]] w fun e w' => e = .returned (.bool v) ∧ Below w.heap.size w w') :
    Calls Tryd.prog 3 #[.int .i64 p, .int .i64 q] w fun e w' => e = .returned (.bool true) ∧ Below w.heap.size w w' := by
  have hB := Below.refl w.heap.size w
  have HE := Lib.hid he
  have C1 := Lib.hid c1
  have C2 := Lib.hid c2
  have C3 := Lib.hid c3
  have C4 := Lib.hid c4
  clear he c1 c2 c3 c4
  go_enter Tryd.func3, Tryd.ntmps3
  go_wp2_with fail
  refine (C1.out _).mono ?_; rintro e w' ⟨rfl, hb1⟩
  replace hB := hB.trans (hb1.mono hB.size)
  clear hb1
  simp only [numV]
  go_wp2_with fail
  have nc := numAt_new w' P Q 23
  replace hB := hB.alloc hB.size (.cells #[.int .i64 P, .int .i64 Q] 23)
  generalize w'.alloc (.cells #[.int .i64 P, .int .i64 Q] 23) = W at nc hB ⊢
  generalize w'.heap.size = bc at nc ⊢
  clear w'
  refine (C2.out _).mono ?_; rintro e w' ⟨rfl, hb1⟩
  replace hB := hB.trans (hb1.mono hB.size)
  replace nc := nc.below hb1
  clear hb1
  simp only [numV]
  go_wp2_with fail
  have nd := numAt_new w' P Q 23
  replace hB := hB.alloc hB.size (.cells #[.int .i64 P, .int .i64 Q] 23)
  replace nc := nc.alloc (.cells #[.int .i64 P, .int .i64 Q] 23)
  have hWs : (w'.alloc (.cells #[.int .i64 P, .int .i64 Q] 23)).heap.size = w'.heap.size + 1 := by simp
  generalize w'.alloc (.cells #[.int .i64 P, .int .i64 Q] 23) = W at nc nd hB hWs ⊢
  generalize w'.heap.size = bd at nd hWs ⊢
  clear w'
  have nx := numAt_new W p q 23
  rw [hWs] at nx
  replace hB := hB.alloc hB.size (.cells #[.int .i64 p, .int .i64 q] 23)
  replace nc := nc.alloc (.cells #[.int .i64 p, .int .i64 q] 23)
  replace nd := nd.alloc (.cells #[.int .i64 p, .int .i64 q] 23)
  generalize W.alloc (.cells #[.int .i64 p, .int .i64 q] 23) = V at nc nd nx hB ⊢
  clear hWs
  have HB := Lib.hid hB
  replace HE := Lib.hid (HE.out.below hB)
  obtain ⟨nc0, nc1, ncl⟩ := nc
  obtain ⟨nd0, nd1, ndl⟩ := nd
  obtain ⟨nx0, nx1, nxl⟩ := nx
  clear hB
  go_region_held3 (fun w' => w'.cell? ⟨bc, 0, none⟩ = some (.int .i64 P) ∧ w'.cell? ⟨bc, 1, none⟩ = some (.int .i64 Q) ∧ w'.cell? ⟨bd, 0, none⟩ = some (.int .i64 P) ∧ w'.cell? ⟨bd, 1, none⟩ = some (.int .i64 Q) ∧ w'.cell? ⟨bd + 1, 0, none⟩ = some (.int .i64 p) ∧ w'.cell? ⟨bd + 1, 1, none⟩ = some (.int .i64 q) ∧ bc < w'.heap.size ∧ bd < w'.heap.size ∧ bd + 1 < w'.heap.size ∧ Hid (Below w.heap.size w w') ∧ Hid (Env w'))
    (first
      | (go_keep; done)
      | (go_split_ands
         refine ⟨?_, ?_, ?_, ?_, ?_, ?_, ?_, ?_, ?_, ?_, ?_⟩ <;> (first | assumption | (simp [*]; done) | (rw [(bcell hb1).1 _ _ (by assumption)]; assumption) | exact belD (by assumption) | exact envD (by assumption) | exact Nat.lt_of_lt_of_le (by assumption) hb1.size | exact belK (by assumption) hb1 | exact envK (by assumption) hb1)))
    (first
      | (go_at_call 15; refine (C3.out _).mono ?_; rintro e w1 ⟨rfl, hb1⟩)
      | (go_at_call 16; refine (C4.out _).mono ?_; rintro e w1 ⟨rfl, hb1⟩)
      | (go_at_call 17; refine (awake_any _ ?_).mono ?_; (go_split_ands; exact Hid.out (by assumption)); rintro e w1 ⟨rfl, hb1⟩))
  all_goals
    go_split_ands
    go_wp2
    go_ret
    exact ⟨rfl, Hid.out (by assumption)⟩

theorem numMakes_walk (p q : Int) (w : World) (he : Env w) (h1 : -9223372036854775808 ≤ p) (h2 : p ≤ 9223372036854775807) (h3 : -9223372036854775808 ≤ q) (h4 : q ≤ 9223372036854775807) :
    Calls Tryd.prog 3 #[.int .i64 p, .int .i64 q] w fun e w' => e = .returned (.bool true) ∧ Below w.heap.size w w' :=
  numMakes_core p q _ _ _ _ w he (fun w => make_any p q w h1 h2 h3 h4) (fun w => rmake_any p q w h1 h2 h3 h4) (fun w => valid_any p q w h1 h2 h3 h4) (fun w => rvalid_any p q w h1 h2 h3 h4)
end Go.Proofs.YtmcpbnkmccngpaaDoor
