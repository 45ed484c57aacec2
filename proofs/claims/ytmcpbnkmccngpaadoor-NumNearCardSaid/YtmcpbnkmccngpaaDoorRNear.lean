/-
  Contracts: the reference's Near.
-/
-- LAW 01
import Derived.Test.YtmcpbnkmccngpaaDoorUnits
import Derived.Test.YtmcpbnkmccngpaaDoorOrder
import Derived.Test.YtmcpbnkmccngpaaDoorPower
import Derived.Test.YtmcpbnkmccngpaaDoorFixMath
namespace Go.Proofs.YtmcpbnkmccngpaaDoor
open Go.RowKit

set_option maxHeartbeats 400000 in
theorem rnear_keep (c : UInt8) (hop : c = 43 ∨ c = 45 ∨ c = 42 ∨ c = 47) (aP aQ bP bQ x y e0 : Int) (w : World) (he : (e0 != 17) = true) (c1 : ∀ w, Calls Tryd.prog 54 #[.string ⟨#[c]⟩, .agg #[.int .i64 aP, .int .i64 aQ], .agg #[.int .i64 bP, .int .i64 bQ]] w fun e w' => e = .returned (numV x y e0) ∧ Below w.heap.size w w') :
    Calls Tryd.prog 27 #[.string ⟨#[c]⟩, .agg #[.int .i64 aP, .int .i64 aQ], .agg #[.int .i64 bP, .int .i64 bQ]] w fun e w' => e = .returned (numV x y e0) ∧ Below w.heap.size w w' := by
  have C1 := Lib.hid c1
  have he2 : (e0 == 17) = false := by simpa using he
  clear c1
  rcases hop with rfl | rfl | rfl | rfl
  all_goals
    go_enter Tryd.func27, Tryd.ntmps27
    go_wp2_with fail
    refine (C1.out _).mono ?_; rintro e w' ⟨rfl, hb⟩; obtain ⟨hc, hf⟩ := bcell hb; have hsz := hb.size; simp at hsz; simp only [numV]
    have hz1 : w.heap.size + 1 + 1 < w'.heap.size := by omega
    go_wp2_with fail
    exact bodyPost_ret (v := numV x y e0) (by simp [results, Tryd.results27, go_sem, numV, hc, hz1]) rfl ⟨rfl, (by repeat (first | exact Below.refl _ _ | refine Below.setCell ?_ (by first | (simp; done) | (simp; omega) | omega) _ | refine below_drewN ?_ _ | refine Below.alloc ?_ (by first | (simp; done) | (simp; omega) | omega) _ | refine Below.trans ?_ (hb.mono (by first | (simp; done) | (simp; omega) | omega))))⟩

set_option maxRecDepth 100000 in
set_option maxHeartbeats 400000 in
theorem rnear_out (c : UInt8) (hop : c = 43 ∨ c = 45 ∨ c = 42 ∨ c = 47) (aP aQ bP bQ x y p q n : Int) (w : World) (c1 : ∀ w, Calls Tryd.prog 54 #[.string ⟨#[c]⟩, .agg #[.int .i64 aP, .int .i64 aQ], .agg #[.int .i64 bP, .int .i64 bQ]] w fun e w' => e = .returned (numV x y 17) ∧ Below w.heap.size w w') (c2 : ∀ w, Calls Tryd.prog 58 #[.string ⟨#[c]⟩, .agg #[.int .i64 aP, .int .i64 aQ], .agg #[.int .i64 bP, .int .i64 bQ]] w fun e w' => e = .returned (.tuple #[.int .i64 p, .int .i64 q]) ∧ Below w.heap.size w w')
    (c3 : ∀ w, Calls Tryd.prog 57 #[.int .i64 p, .int .i64 q] w fun e w' => e = .returned (.tuple #[.int .i64 n, .bool false]) ∧ ∃ n, w' = w.drewN n) :
    Calls Tryd.prog 27 #[.string ⟨#[c]⟩, .agg #[.int .i64 aP, .int .i64 aQ], .agg #[.int .i64 bP, .int .i64 bQ]] w fun e w' => e = .returned (numV 0 0 17) ∧ Below w.heap.size w w' := by
  have C1 := Lib.hid c1
  have C2 := Lib.hid c2
  have C3 := Lib.hid c3
  clear c1 c2 c3
  rcases hop with rfl | rfl | rfl | rfl
  all_goals
    go_enter Tryd.func27, Tryd.ntmps27
    go_wp2_with fail
    have h := abc_new w aP aQ bP bQ 0 0
    have fr : NumFr (((w.alloc (.cells #[.int .i64 aP, .int .i64 aQ] 23)).alloc (.cells #[.int .i64 bP, .int .i64 bQ] 23)).alloc (.cells #[.int .i64 0, .int .i64 0] 23)) (w.heap.size + 1 + 1) 0 0 := by
      have := numFr_new ((w.alloc (.cells #[.int .i64 aP, .int .i64 aQ] 23)).alloc (.cells #[.int .i64 bP, .int .i64 bQ] 23)) 0 0 23
      rwa [show ((w.alloc (.cells #[.int .i64 aP, .int .i64 aQ] 23)).alloc (.cells #[.int .i64 bP, .int .i64 bQ] 23)).heap.size = w.heap.size + 1 + 1 by simp] at this
    generalize ((w.alloc (.cells #[.int .i64 aP, .int .i64 aQ] 23)).alloc (.cells #[.int .i64 bP, .int .i64 bQ] 23)).alloc (.cells #[.int .i64 0, .int .i64 0] 23) = W at h fr ⊢
    refine (C1.out _).mono ?_; rintro e w' ⟨rfl, hb1⟩; replace h := h.below hb1; replace fr := fr.below hb1; clear hb1; simp only [numV]
    have a0 := h.a.c0; have a1 := h.a.c1; have al := h.a.lt; have b0 := h.b.c0; have b1 := h.b.c1; have bl := h.b.lt; have c0 := h.c.c0; have c1 := h.c.c1; have cl := h.c.lt
    go_wp2_with fail
    clear a0 a1 al b0 b1 bl c0 c1 cl
    replace h := h.alloc (.cells #[.int .i64 x, .int .i64 y] 23)
    replace fr := fr.alloc (.cells #[.int .i64 x, .int .i64 y] 23)
    generalize World.alloc w' (.cells #[.int .i64 x, .int .i64 y] 23) = W5 at h fr ⊢
    generalize w'.heap.size = bk
    clear w'
    refine (C2.out _).mono ?_; rintro e w2 ⟨rfl, hb1⟩; replace h := h.below hb1; replace fr := fr.below hb1; clear hb1
    go_wp2_with fail
    refine (C3.out _).mono ?_; rintro e w3 ⟨rfl, k, rfl⟩
    replace h := h.below (below_drewN (Below.refl _ _) k)
    replace fr := fr.below (below_drewN (Below.refl _ _) k)
    generalize w2.drewN k = W6 at h fr ⊢
    have a0 := h.a.c0; have a1 := h.a.c1; have al := h.a.lt; have b0 := h.b.c0; have b1 := h.b.c1; have bl := h.b.lt; have c0 := h.c.c0; have c1 := h.c.c1; have cl := h.c.lt
    have f0 := fr.f0; have f1 := fr.f1
    go_wp2_with fail
    exact bodyPost_ret (v := numV 0 0 17) (by simp [results, Tryd.results27, go_sem, numV, c0, c1]) rfl ⟨rfl, by repeat (first | exact h.bel | refine Below.setCell ?_ (by first | (simp; done) | (simp; omega) | omega) _)⟩
set_option maxRecDepth 100000 in
set_option maxHeartbeats 400000 in
theorem rnear_ok (c : UInt8) (hop : c = 43 ∨ c = 45 ∨ c = 42 ∨ c = 47) (aP aQ bP bQ x y p q n : Int) (w : World) (n0 : -9223372036854775808 ≤ n) (n1 : n ≤ 9223372036854775807) (c1 : ∀ w, Calls Tryd.prog 54 #[.string ⟨#[c]⟩, .agg #[.int .i64 aP, .int .i64 aQ], .agg #[.int .i64 bP, .int .i64 bQ]] w fun e w' => e = .returned (numV x y 17) ∧ Below w.heap.size w w') (c2 : ∀ w, Calls Tryd.prog 58 #[.string ⟨#[c]⟩, .agg #[.int .i64 aP, .int .i64 aQ], .agg #[.int .i64 bP, .int .i64 bQ]] w fun e w' => e = .returned (.tuple #[.int .i64 p, .int .i64 q]) ∧ Below w.heap.size w w')
    (c3 : ∀ w, Calls Tryd.prog 57 #[.int .i64 p, .int .i64 q] w fun e w' => e = .returned (.tuple #[.int .i64 n, .bool true]) ∧ ∃ n, w' = w.drewN n) :
    Calls Tryd.prog 27 #[.string ⟨#[c]⟩, .agg #[.int .i64 aP, .int .i64 aQ], .agg #[.int .i64 bP, .int .i64 bQ]] w fun e w' => e = .returned (numV (Nm.mkP n 65536) (Nm.mkQ n 65536) (Nm.mkE n 65536)) ∧ Below w.heap.size w w' := by
  have C1 := Lib.hid c1
  have C2 := Lib.hid c2
  have C3 := Lib.hid c3
  clear c1 c2 c3
  rcases hop with rfl | rfl | rfl | rfl
  all_goals
    go_enter Tryd.func27, Tryd.ntmps27
    go_wp2_with fail
    have h := abc_new w aP aQ bP bQ 0 0
    have fr : NumFr (((w.alloc (.cells #[.int .i64 aP, .int .i64 aQ] 23)).alloc (.cells #[.int .i64 bP, .int .i64 bQ] 23)).alloc (.cells #[.int .i64 0, .int .i64 0] 23)) (w.heap.size + 1 + 1) 0 0 := by
      have := numFr_new ((w.alloc (.cells #[.int .i64 aP, .int .i64 aQ] 23)).alloc (.cells #[.int .i64 bP, .int .i64 bQ] 23)) 0 0 23
      rwa [show ((w.alloc (.cells #[.int .i64 aP, .int .i64 aQ] 23)).alloc (.cells #[.int .i64 bP, .int .i64 bQ] 23)).heap.size = w.heap.size + 1 + 1 by simp] at this
    generalize ((w.alloc (.cells #[.int .i64 aP, .int .i64 aQ] 23)).alloc (.cells #[.int .i64 bP, .int .i64 bQ] 23)).alloc (.cells #[.int .i64 0, .int .i64 0] 23) = W at h fr ⊢
    refine (C1.out _).mono ?_; rintro e w' ⟨rfl, hb1⟩; replace h := h.below hb1; replace fr := fr.below hb1; clear hb1; simp only [numV]
    have a0 := h.a.c0; have a1 := h.a.c1; have al := h.a.lt; have b0 := h.b.c0; have b1 := h.b.c1; have bl := h.b.lt; have c0 := h.c.c0; have c1 := h.c.c1; have cl := h.c.lt
    go_wp2_with fail
    clear a0 a1 al b0 b1 bl c0 c1 cl
    replace h := h.alloc (.cells #[.int .i64 x, .int .i64 y] 23)
    replace fr := fr.alloc (.cells #[.int .i64 x, .int .i64 y] 23)
    generalize World.alloc w' (.cells #[.int .i64 x, .int .i64 y] 23) = W5 at h fr ⊢
    generalize w'.heap.size = bk
    clear w'
    refine (C2.out _).mono ?_; rintro e w2 ⟨rfl, hb1⟩; replace h := h.below hb1; replace fr := fr.below hb1; clear hb1
    go_wp2_with fail
    refine (C3.out _).mono ?_; rintro e w3 ⟨rfl, k, rfl⟩
    replace h := h.below (below_drewN (Below.refl _ _) k)
    replace fr := fr.below (below_drewN (Below.refl _ _) k)
    generalize w2.drewN k = W6 at h fr ⊢
    go_wp2_with fail
    refine (rmake_any n 65536 _ n0 n1 (by omega) (by omega)).mono ?_; rintro e w4 ⟨rfl, hb1⟩; replace h := h.below hb1; replace fr := fr.below hb1; clear hb1; simp only [numV]
    have a0 := h.a.c0; have a1 := h.a.c1; have al := h.a.lt; have b0 := h.b.c0; have b1 := h.b.c1; have bl := h.b.lt; have c0 := h.c.c0; have c1 := h.c.c1; have cl := h.c.lt
    have f0 := fr.f0; have f1 := fr.f1
    go_wp2_with fail
    exact bodyPost_ret (v := numV (Nm.mkP n 65536) (Nm.mkQ n 65536) (Nm.mkE n 65536)) (by simp [results, Tryd.results27, go_sem, numV, c0, c1]) rfl ⟨rfl, by repeat (first | exact h.bel | refine Below.setCell ?_ (by first | (simp; done) | (simp; omega) | omega) _)⟩
end Go.Proofs.YtmcpbnkmccngpaaDoor
