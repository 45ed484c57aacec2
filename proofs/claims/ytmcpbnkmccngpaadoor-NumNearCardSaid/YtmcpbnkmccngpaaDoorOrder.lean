/-
  The walk of NumOrder.
-/
-- LAW 01
import Derived.Test.YtmcpbnkmccngpaaDoorSum
import Derived.Test.YtmcpbnkmccngpaaDoorRFix
namespace Go.Proofs.YtmcpbnkmccngpaaDoor
open Go.RowKit

theorem mul_bd2 (a b : Int) (ha : -2147483648 ≤ a) (ha' : a ≤ 2147483647) (hb : 1 ≤ b) (hb' : b ≤ 2147483647) : -4611686018427387904 ≤ a * b ∧ a * b ≤ 4611686018427387904 := by
  have h : (a * b).natAbs ≤ 4611686018427387904 := by
    rw [Int.natAbs_mul]
    exact Nat.le_trans (Nat.mul_le_mul (by omega : a.natAbs ≤ 2147483648) (by omega : b.natAbs ≤ 2147483648)) (by decide)
  omega
/-- The numbers a, b, c lie in three blocks of the call's own. -/
structure Abc (w0 : World) (aP aQ bP bQ cP cQ : Int) (w : World) : Prop where
  a : NumAt w w0.heap.size aP aQ
  b : NumAt w (w0.heap.size + 1) bP bQ
  c : NumAt w (w0.heap.size + 1 + 1) cP cQ
  bel : Below w0.heap.size w0 w
theorem Abc.below {w0 w w' : World} {aP aQ bP bQ cP cQ : Int} (h : Abc w0 aP aQ bP bQ cP cQ w) (hb : Below w.heap.size w w') : Abc w0 aP aQ bP bQ cP cQ w' :=
  ⟨h.a.below hb, h.b.below hb, h.c.below hb, h.bel.trans (hb.mono h.bel.size)⟩
theorem Abc.alloc {w0 w : World} {aP aQ bP bQ cP cQ : Int} (h : Abc w0 aP aQ bP bQ cP cQ w) (o : Obj) : Abc w0 aP aQ bP bQ cP cQ (w.alloc o) :=
  h.below ((Below.refl _ _).alloc (Nat.le_refl _) o)
theorem abc_new (w0 : World) (aP aQ bP bQ cP cQ : Int) : Abc w0 aP aQ bP bQ cP cQ (((w0.alloc (.cells #[.int .i64 aP, .int .i64 aQ] 23)).alloc (.cells #[.int .i64 bP, .int .i64 bQ] 23)).alloc (.cells #[.int .i64 cP, .int .i64 cQ] 23)) := by
  refine ⟨((numAt_new _ _ _ _).alloc _).alloc _, ?_, ?_, ?_⟩
  · have := (numAt_new (w0.alloc (.cells #[.int .i64 aP, .int .i64 aQ] 23)) bP bQ 23).alloc (.cells #[.int .i64 cP, .int .i64 cQ] 23)
    rwa [show (w0.alloc (.cells #[.int .i64 aP, .int .i64 aQ] 23)).heap.size = w0.heap.size + 1 by simp] at this
  · have := numAt_new ((w0.alloc (.cells #[.int .i64 aP, .int .i64 aQ] 23)).alloc (.cells #[.int .i64 bP, .int .i64 bQ] 23)) cP cQ 23
    rwa [show ((w0.alloc (.cells #[.int .i64 aP, .int .i64 aQ] 23)).alloc (.cells #[.int .i64 bP, .int .i64 bQ] 23)).heap.size = w0.heap.size + 1 + 1 by simp] at this
  · exact (((Below.refl _ _).alloc (Nat.le_refl _) _).alloc (by simp) _).alloc (by simp; omega) _

set_option maxRecDepth 100000 in
set_option maxHeartbeats 4000000 in
theorem numOrder_ok (aP aQ bP bQ cP cQ n o p o1 p1 x1 y1 x2 y2 k r1 r2 g s t s1 t1 : Int) (i1 i2 : Bool) (w : World) (he : Env w)
    (v1 : ∀ w, Calls Tryd.prog 16 #[.agg #[.int .i64 aP, .int .i64 aQ]] w fun e w' => e = .returned (.bool true) ∧ Below w.heap.size w w')
    (v2 : ∀ w, Calls Tryd.prog 16 #[.agg #[.int .i64 bP, .int .i64 bQ]] w fun e w' => e = .returned (.bool true) ∧ Below w.heap.size w w')
    (v3 : ∀ w, Calls Tryd.prog 16 #[.agg #[.int .i64 cP, .int .i64 cQ]] w fun e w' => e = .returned (.bool true) ∧ Below w.heap.size w w')
    (c1 : ∀ w, Calls Tryd.prog 34 #[.agg #[.int .i64 aP, .int .i64 aQ], .agg #[.int .i64 bP, .int .i64 bQ]] w fun e w' => e = .returned (.tuple #[.int .i64 n, .int .i64 0]) ∧ Below w.heap.size w w')
    (c2 : ∀ w, Calls Tryd.prog 34 #[.agg #[.int .i64 bP, .int .i64 bQ], .agg #[.int .i64 aP, .int .i64 aQ]] w fun e w' => e = .returned (.tuple #[.int .i64 (-n), .int .i64 0]) ∧ Below w.heap.size w w')
    (c3 : ∀ w, Calls Tryd.prog 34 #[.agg #[.int .i64 bP, .int .i64 bQ], .agg #[.int .i64 cP, .int .i64 cQ]] w fun e w' => e = .returned (.tuple #[.int .i64 o, .int .i64 o1]) ∧ Below w.heap.size w w')
    (c4 : ∀ w, Calls Tryd.prog 34 #[.agg #[.int .i64 aP, .int .i64 aQ], .agg #[.int .i64 cP, .int .i64 cQ]] w fun e w' => e = .returned (.tuple #[.int .i64 p, .int .i64 p1]) ∧ Below w.heap.size w w')
    (c5 : ∀ w, Calls Tryd.prog 46 #[.agg #[.int .i64 aP, .int .i64 aQ], .agg #[.int .i64 cP, .int .i64 cQ]] w fun e w' => e = .returned (sumV x1 y1 i1) ∧ Below w.heap.size w w')
    (c6 : ∀ w, Calls Tryd.prog 46 #[.agg #[.int .i64 bP, .int .i64 bQ], .agg #[.int .i64 cP, .int .i64 cQ]] w fun e w' => e = .returned (sumV x2 y2 i2) ∧ Below w.heap.size w w')
    (c7 : i1 = true → i2 = true → ∀ w, Calls Tryd.prog 34 #[.agg #[.int .i64 x1, .int .i64 y1], .agg #[.int .i64 x2, .int .i64 y2]] w fun e w' => e = .returned (.tuple #[.int .i64 n, .int .i64 0]) ∧ Below w.heap.size w w')
    (c8 : ∀ w, Calls Tryd.prog 32 #[.agg #[.int .i64 aP, .int .i64 aQ]] w fun e w' => e = .returned (.tuple #[.int .i64 k, .int .i64 0]) ∧ Below w.heap.size w w')
    (c9 : ∀ w, Calls Tryd.prog 28 #[.agg #[.int .i64 aP, .int .i64 aQ], .agg #[.int .i64 bP, .int .i64 bQ]] w fun e w' => e = .returned (numV r1 r2 g) ∧ Below w.heap.size w w')
    (c10 : g = 0 → ∀ w, Calls Tryd.prog 34 #[.agg #[.int .i64 r1, .int .i64 r2], .agg #[.int .i64 0, .int .i64 1]] w fun e w' => e = .returned (.tuple #[.int .i64 s, .int .i64 s1]) ∧ Below w.heap.size w w')
    (c11 : g = 0 → ∀ w, Calls Tryd.prog 34 #[.agg #[.int .i64 r1, .int .i64 r2], .agg #[.int .i64 bP, .int .i64 bQ]] w fun e w' => e = .returned (.tuple #[.int .i64 t, .int .i64 t1]) ∧ Below w.heap.size w w')
    (k0 : -2147483648 ≤ k) (k1 : k ≤ 2147483647) (q0 : 1 ≤ aQ) (q1 : aQ ≤ 2147483647) (p0 : -2147483647 ≤ aP) (p2 : aP ≤ 2147483647) (hk0 : k * aQ ≤ aP) (hk1 : aP < (k + 1) * aQ)
    (hm : g = 0 → (0 < bP ∧ 0 ≤ s ∧ t < 0) ∨ (bP < 0 ∧ s ≤ 0 ∧ 0 < t))
    (n0 : -1 ≤ n) (n1 : n ≤ 1) (hn : (n == 0) = (aP == bP && aQ == bQ)) (htr : n ≤ 0 → o ≤ 0 → p ≤ 0) :
    Calls Tryd.prog 10 #[.agg #[.int .i64 aP, .int .i64 aQ], .agg #[.int .i64 bP, .int .i64 bQ], .agg #[.int .i64 cP, .int .i64 cQ]] w fun e w' => e = .returned (.bool true) ∧ Below w.heap.size w w' := by
  have HE := Lib.hid he
  have V1 := Lib.hid v1
  have V2 := Lib.hid v2
  have V3 := Lib.hid v3
  have C1 := Lib.hid c1
  have C2 := Lib.hid c2
  have C3 := Lib.hid c3
  have C4 := Lib.hid c4
  have C5 := Lib.hid c5
  have C6 := Lib.hid c6
  have C7 := Lib.hid c7
  have C8 := Lib.hid c8
  have C9 := Lib.hid c9
  have C10 := Lib.hid c10
  have C11 := Lib.hid c11
  have HM := Lib.hid hm
  have HN := Lib.hid hn
  have HT := Lib.hid htr
  clear he v1 v2 v3 c1 c2 c3 c4 c5 c6 c7 c8 c9 c10 c11 hm hn htr
  go_enter Tryd.func10, Tryd.ntmps10
  go_wp2_with fail
  have h := abc_new w aP aQ bP bQ cP cQ
  generalize ((w.alloc (.cells #[.int .i64 aP, .int .i64 aQ] 23)).alloc (.cells #[.int .i64 bP, .int .i64 bQ] 23)).alloc (.cells #[.int .i64 cP, .int .i64 cQ] 23) = W at h ⊢
  refine (V1.out _).mono ?_; rintro e w' ⟨rfl, hb1⟩; replace h := h.below hb1; clear hb1
  have a0 := h.a.c0; have a1 := h.a.c1; have al := h.a.lt; have b0 := h.b.c0; have b1 := h.b.c1; have bl := h.b.lt; have c0 := h.c.c0; have c1 := h.c.c1; have cl := h.c.lt
  go_wp2_with fail
  clear a0 a1 al b0 b1 bl c0 c1 cl
  refine (V2.out _).mono ?_; rintro e w' ⟨rfl, hb1⟩; replace h := h.below hb1; clear hb1
  have a0 := h.a.c0; have a1 := h.a.c1; have al := h.a.lt; have b0 := h.b.c0; have b1 := h.b.c1; have bl := h.b.lt; have c0 := h.c.c0; have c1 := h.c.c1; have cl := h.c.lt
  go_wp2_with fail
  clear a0 a1 al b0 b1 bl c0 c1 cl
  refine (V3.out _).mono ?_; rintro e w' ⟨rfl, hb1⟩; replace h := h.below hb1; clear hb1
  have a0 := h.a.c0; have a1 := h.a.c1; have al := h.a.lt; have b0 := h.b.c0; have b1 := h.b.c1; have bl := h.b.lt; have c0 := h.c.c0; have c1 := h.c.c1; have cl := h.c.lt
  go_wp2_with fail
  clear a0 a1 al b0 b1 bl c0 c1 cl
  refine (C1.out _).mono ?_; rintro e w' ⟨rfl, hb1⟩; replace h := h.below hb1; clear hb1
  have a0 := h.a.c0; have a1 := h.a.c1; have al := h.a.lt; have b0 := h.b.c0; have b1 := h.b.c1; have bl := h.b.lt; have c0 := h.c.c0; have c1 := h.c.c1; have cl := h.c.lt
  go_wp2_with fail
  clear a0 a1 al b0 b1 bl c0 c1 cl
  refine (C2.out _).mono ?_; rintro e w' ⟨rfl, hb1⟩; replace h := h.below hb1; clear hb1
  have a0 := h.a.c0; have a1 := h.a.c1; have al := h.a.lt; have b0 := h.b.c0; have b1 := h.b.c1; have bl := h.b.lt; have c0 := h.c.c0; have c1 := h.c.c1; have cl := h.c.lt
  go_upto_region 5 with fail
  go_cut [75] (fun s75 wx => s75 = .bool false ∧ wx = w')
  case first =>
    by_cases hz : n = 0
    · have hzb : (n == 0) = true := by simpa using hz
      have hab := HN.out
      rw [hzb] at hab
      have e1 : aP = bP := by simp at hab; exact hab.1
      have e2 : aQ = bQ := by simp at hab; exact hab.2
      clear hab hz
      subst e1 e2
      go_wp2_with fail
      go_meet
      exact ⟨rfl, rfl⟩
    · have hzb : (n == 0) = false := by simpa using hz
      have hab := HN.out
      rw [hzb] at hab
      by_cases h1 : aP = bP
      · have e1 : ¬ aQ = bQ := by intro h2; rw [h1, h2] at hab; simp at hab
        clear hab
        subst h1
        go_wp2_with fail
        go_meet
        exact ⟨rfl, rfl⟩
      · clear hab
        go_wp2_with fail
        go_meet
        exact ⟨rfl, rfl⟩
  case rest =>
    obtain ⟨rfl, rfl⟩ := hcut
    go_wp2_with fail
    clear a0 a1 al b0 b1 bl c0 c1 cl
    refine (C3.out _).mono ?_; rintro e w' ⟨rfl, hb1⟩; replace h := h.below hb1; clear hb1
    have a0 := h.a.c0; have a1 := h.a.c1; have al := h.a.lt; have b0 := h.b.c0; have b1 := h.b.c1; have bl := h.b.lt; have c0 := h.c.c0; have c1 := h.c.c1; have cl := h.c.lt
    go_wp2_with fail
    clear a0 a1 al b0 b1 bl c0 c1 cl
    refine (C4.out _).mono ?_; rintro e w' ⟨rfl, hb1⟩; replace h := h.below hb1; clear hb1
    have a0 := h.a.c0; have a1 := h.a.c1; have al := h.a.lt; have b0 := h.b.c0; have b1 := h.b.c1; have bl := h.b.lt; have c0 := h.c.c0; have c1 := h.c.c1; have cl := h.c.lt
    go_upto_region 9 with fail
    go_cut [97] (fun s97 wx => s97 = .bool false ∧ wx = w')
    case first =>
      have ht := HT.out
      have ht2 : 0 < n ∨ 0 < o ∨ p ≤ 0 := by omega
      clear ht
      go_wp2_with fail
      all_goals
        go_meet
        exact ⟨by first | rfl | (simp <;> omega), rfl⟩
    case rest =>
      obtain ⟨rfl, rfl⟩ := hcut
      go_wp2_with fail
      clear a0 a1 al b0 b1 bl c0 c1 cl
      refine (C5.out _).mono ?_; rintro e w' ⟨rfl, hb1⟩; replace h := h.below hb1; clear hb1
      have a0 := h.a.c0; have a1 := h.a.c1; have al := h.a.lt; have b0 := h.b.c0; have b1 := h.b.c1; have bl := h.b.lt; have c0 := h.c.c0; have c1 := h.c.c1; have cl := h.c.lt
      simp only [sumV]
      go_wp2_with fail
      clear a0 a1 al b0 b1 bl c0 c1 cl
      have l1 := numAt_new w' x1 y1 23
      replace h := h.alloc (.cells #[.int .i64 x1, .int .i64 y1] 23)
      generalize World.alloc w' (.cells #[.int .i64 x1, .int .i64 y1] 23) = W5 at l1 h ⊢
      generalize w'.heap.size = bl1 at l1 ⊢
      clear w'
      refine (C6.out _).mono ?_; rintro e w' ⟨rfl, hb1⟩
      replace h := h.below hb1
      replace l1 := l1.below hb1
      clear hb1
      simp only [sumV]
      go_upto_region 13 with fail
      have l2 := numAt_new w' x2 y2 23
      replace h := h.alloc (.cells #[.int .i64 x2, .int .i64 y2] 23)
      replace l1 := l1.alloc (.cells #[.int .i64 x2, .int .i64 y2] 23)
      generalize World.alloc w' (.cells #[.int .i64 x2, .int .i64 y2] 23) = W6 at l1 l2 h ⊢
      generalize w'.heap.size = bl2 at l2 ⊢
      clear w'
      go_cut [113] (fun s113 wx => s113 = .bool (i1 && i2) ∧ wx = W6)
      case first =>
        cases i1
        all_goals
          go_wp2_with fail
          go_meet
          exact ⟨rfl, rfl⟩
      case rest =>
        obtain ⟨rfl, rfl⟩ := hcut
        go_upto_if 113 with fail
        go_cut [7] (fun s7 wx => s7 = .int .i64 n ∧ Abc w aP aQ bP bQ cP cQ wx)
        case first =>
          cases hii : (i1 && i2)
          · go_wp2_with fail
            go_meet
            exact ⟨rfl, h⟩
          · obtain ⟨e1, e2⟩ := and_true' hii
            have C7' := Lib.hid (C7.out e1 e2)
            clear e1 e2
            have d0 := l1.c0
            have d1 := l1.c1
            have d2 := l2.c0
            have d3 := l2.c1
            go_wp2_with fail
            clear d0 d1 d2 d3
            refine (C7'.out _).mono ?_; rintro e w' ⟨rfl, hb1⟩
            replace h := h.below hb1
            go_wp2_with fail
            go_meet
            exact ⟨rfl, h⟩
        case rest =>
          clear h l1 l2
          obtain ⟨rfl, h⟩ := hcut
          have a0 := h.a.c0; have a1 := h.a.c1; have al := h.a.lt; have b0 := h.b.c0; have b1 := h.b.c1; have bl := h.b.lt; have c0 := h.c.c0; have c1 := h.c.c1; have cl := h.c.lt
          go_wp2_with fail
          clear a0 a1 al b0 b1 bl c0 c1 cl
          refine (C8.out _).mono ?_; rintro e w' ⟨rfl, hb1⟩; replace h := h.below hb1; clear hb1
          have a0 := h.a.c0; have a1 := h.a.c1; have al := h.a.lt; have b0 := h.b.c0; have b1 := h.b.c1; have bl := h.b.lt; have c0 := h.c.c0; have c1 := h.c.c1; have cl := h.c.lt
          obtain ⟨z1, t1'⟩ := mul_bd2 k aQ (by omega) (by omega) (by omega) (by omega)
          have g1 : IntKind.i64.wrap (k * aQ) = k * aQ := IntWalk.i64_in _ (by omega)
          have g2 : IntKind.i64.wrap ((k + 1) * aQ) = (k + 1) * aQ := IntWalk.i64_in _ (by rw [Int.add_mul]; omega)
          have z3 : (k + 1) * aQ ≤ 9223372036854775807 := by rw [Int.add_mul]; omega
          have z4 : -9223372036854775808 ≤ (k + 1) * aQ := by rw [Int.add_mul]; omega
          go_wp2_with fail
          clear a0 a1 al b0 b1 bl c0 c1 cl
          clear z1 t1' g1 g2 z3 z4
          have nz := numAt_new w' k 1 23
          replace h := h.alloc (.cells #[.int .i64 k, .int .i64 1] 23)
          generalize World.alloc w' (.cells #[.int .i64 k, .int .i64 1] 23) = W8 at nz h ⊢
          generalize w'.heap.size = bz at nz ⊢
          clear w'
          refine (C9.out _).mono ?_; rintro e w' ⟨rfl, hb1⟩
          replace h := h.below hb1
          replace nz := nz.below hb1
          clear hb1
          simp only [numV]
          by_cases hg : g = 0
          · subst hg
            have hm2 := HM.out rfl
            have C10' := Lib.hid (C10.out rfl)
            have C11' := Lib.hid (C11.out rfl)
            clear C10 C11
            go_wp2_with fail
            have lr := numAt_new w' r1 r2 23
            replace h := h.alloc (.cells #[.int .i64 r1, .int .i64 r2] 23)
            replace nz := nz.alloc (.cells #[.int .i64 r1, .int .i64 r2] 23)
            generalize World.alloc w' (.cells #[.int .i64 r1, .int .i64 r2] 23) = W9 at nz lr h ⊢
            generalize w'.heap.size = br at lr ⊢
            clear w'
            refine (C10'.out _).mono ?_; rintro e w' ⟨rfl, hb1⟩
            replace h := h.below hb1
            replace nz := nz.below hb1
            replace lr := lr.below hb1
            clear hb1
            have d0 := lr.c0
            have d1 := lr.c1
            have a0 := h.a.c0; have a1 := h.a.c1; have al := h.a.lt; have b0 := h.b.c0; have b1 := h.b.c1; have bl := h.b.lt; have c0 := h.c.c0; have c1 := h.c.c1; have cl := h.c.lt
            go_wp2_with fail
            clear a0 a1 al b0 b1 bl c0 c1 cl
            clear d0 d1
            refine (C11'.out _).mono ?_; rintro e w'' ⟨rfl, hb1⟩
            replace h := h.below hb1
            replace nz := nz.below hb1
            clear hb1 lr
            rcases hm2 with ⟨m1, m2, m3⟩ | ⟨m1, m2, m3⟩
            all_goals
              have a0 := h.a.c0; have a1 := h.a.c1; have al := h.a.lt; have b0 := h.b.c0; have b1 := h.b.c1; have bl := h.b.lt; have c0 := h.c.c0; have c1 := h.c.c1; have cl := h.c.lt
              have d0 := nz.c0
              have d1 := nz.c1
              go_wp2_with fail
              clear a0 a1 al b0 b1 bl c0 c1 cl
              clear d0 d1
              refine (awake_any _ (HE.out.below h.bel)).mono ?_; rintro e w3 ⟨rfl, hb1⟩
              replace h := h.below hb1
              clear hb1
              go_wp2_with fail
              go_ret
              exact ⟨rfl, h.bel⟩
          · have hgb : (g == 0) = false := by simpa using hg
            have hgc : (g != 0) = true := by simpa using hg
            clear hg
            have d0 := nz.c0
            have d1 := nz.c1
            have d2 := nz.lt
            go_wp2_with fail
            clear d0 d1 d2
            replace h := h.alloc (.cells #[.int .i64 r1, .int .i64 r2] 23)
            refine (awake_any _ (HE.out.below h.bel)).mono ?_; rintro e w3 ⟨rfl, hb1⟩
            replace h := h.below hb1
            clear hb1
            go_wp2_with fail
            go_ret
            exact ⟨rfl, h.bel⟩
end Go.Proofs.YtmcpbnkmccngpaaDoor
