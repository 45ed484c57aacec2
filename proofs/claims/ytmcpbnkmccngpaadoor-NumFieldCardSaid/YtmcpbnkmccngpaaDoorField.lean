/-
  The walk of NumField, where the three numbers are numbers.
-/
-- LAW 01
import Derived.Test.YtmcpbnkmccngpaaDoorOrder
import Derived.Test.YtmcpbnkmccngpaaDoorOrdMath
namespace Go.Proofs.YtmcpbnkmccngpaaDoor
open Go.RowKit

set_option maxRecDepth 100000 in
set_option maxHeartbeats 4000000 in
theorem numField_ok (aP aQ bP bQ cP cQ x1 y1 x2 y2 x3 y3 x4 y4 u1 v1 u2 v2 u3 v3 u4 v4 d1 d2 g m1 m2 n1 n2 r1 r2 : Int) (i1 i2 i3 i4 j1 j2 j3 j4 k1 k2 k3 : Bool) (w : World) (he : Env w)
    (t1 : ∀ w, Calls Tryd.prog 16 #[.agg #[.int .i64 aP, .int .i64 aQ]] w fun e w' => e = .returned (.bool true) ∧ Below w.heap.size w w')
    (t2 : ∀ w, Calls Tryd.prog 16 #[.agg #[.int .i64 bP, .int .i64 bQ]] w fun e w' => e = .returned (.bool true) ∧ Below w.heap.size w w')
    (t3 : ∀ w, Calls Tryd.prog 16 #[.agg #[.int .i64 cP, .int .i64 cQ]] w fun e w' => e = .returned (.bool true) ∧ Below w.heap.size w w')
    (c1 : ∀ w, Calls Tryd.prog 46 #[.agg #[.int .i64 aP, .int .i64 aQ], .agg #[.int .i64 bP, .int .i64 bQ]] w fun e w' => e = .returned (sumV x1 y1 i1) ∧ Below w.heap.size w w')
    (c2 : ∀ w, Calls Tryd.prog 46 #[.agg #[.int .i64 bP, .int .i64 bQ], .agg #[.int .i64 aP, .int .i64 aQ]] w fun e w' => e = .returned (sumV x1 y1 i1) ∧ Below w.heap.size w w')
    (c3 : ∀ w, Calls Tryd.prog 47 #[.agg #[.int .i64 aP, .int .i64 aQ], .agg #[.int .i64 bP, .int .i64 bQ]] w fun e w' => e = .returned (sumV u1 v1 j1) ∧ Below w.heap.size w w')
    (c4 : ∀ w, Calls Tryd.prog 47 #[.agg #[.int .i64 bP, .int .i64 bQ], .agg #[.int .i64 aP, .int .i64 aQ]] w fun e w' => e = .returned (sumV u1 v1 j1) ∧ Below w.heap.size w w')
    (c5 : i1 = true → ∀ w, Calls Tryd.prog 20 #[.agg #[.int .i64 x1, .int .i64 y1], .agg #[.int .i64 bP, .int .i64 bQ]] w fun e w' => e = .returned (numV aP aQ 0) ∧ Below w.heap.size w w')
    (c6 : ∀ w, Calls Tryd.prog 46 #[.agg #[.int .i64 x1, .int .i64 y1], .agg #[.int .i64 cP, .int .i64 cQ]] w fun e w' => e = .returned (sumV x2 y2 i2) ∧ Below w.heap.size w w')
    (c7 : ∀ w, Calls Tryd.prog 46 #[.agg #[.int .i64 bP, .int .i64 bQ], .agg #[.int .i64 cP, .int .i64 cQ]] w fun e w' => e = .returned (sumV x3 y3 i3) ∧ Below w.heap.size w w')
    (c8 : ∀ w, Calls Tryd.prog 46 #[.agg #[.int .i64 aP, .int .i64 aQ], .agg #[.int .i64 x3, .int .i64 y3]] w fun e w' => e = .returned (sumV x4 y4 i4) ∧ Below w.heap.size w w')
    (c9 : ∀ w, Calls Tryd.prog 24 #[.agg #[.int .i64 u1, .int .i64 v1], .agg #[.int .i64 bP, .int .i64 bQ]] w fun e w' => e = .returned (numV d1 d2 g) ∧ Below w.heap.size w w')
    (c10 : ∀ w, Calls Tryd.prog 47 #[.agg #[.int .i64 u1, .int .i64 v1], .agg #[.int .i64 cP, .int .i64 cQ]] w fun e w' => e = .returned (sumV u2 v2 j2) ∧ Below w.heap.size w w')
    (c11 : ∀ w, Calls Tryd.prog 47 #[.agg #[.int .i64 bP, .int .i64 bQ], .agg #[.int .i64 cP, .int .i64 cQ]] w fun e w' => e = .returned (sumV u3 v3 j3) ∧ Below w.heap.size w w')
    (c12 : ∀ w, Calls Tryd.prog 47 #[.agg #[.int .i64 aP, .int .i64 aQ], .agg #[.int .i64 u3, .int .i64 v3]] w fun e w' => e = .returned (sumV u4 v4 j4) ∧ Below w.heap.size w w')
    (c13 : ∀ w, Calls Tryd.prog 47 #[.agg #[.int .i64 aP, .int .i64 aQ], .agg #[.int .i64 x3, .int .i64 y3]] w fun e w' => e = .returned (sumV m1 m2 k1) ∧ Below w.heap.size w w')
    (c14 : ∀ w, Calls Tryd.prog 47 #[.agg #[.int .i64 aP, .int .i64 aQ], .agg #[.int .i64 cP, .int .i64 cQ]] w fun e w' => e = .returned (sumV n1 n2 k2) ∧ Below w.heap.size w w')
    (c15 : ∀ w, Calls Tryd.prog 46 #[.agg #[.int .i64 u1, .int .i64 v1], .agg #[.int .i64 n1, .int .i64 n2]] w fun e w' => e = .returned (sumV r1 r2 k3) ∧ Below w.heap.size w w')
    (e1 : i1 = true → i2 = true → i3 = true → i4 = true → x2 = x4 ∧ y2 = y4)
    (e2 : j1 = true → bP ≠ 0 → d1 = aP ∧ d2 = aQ ∧ g = 0)
    (e3 : j1 = true → j2 = true → j3 = true → j4 = true → u2 = u4 ∧ v2 = v4)
    (e4 : i3 = true → k1 = true → j1 = true → k2 = true → k3 = true → m1 = r1 ∧ m2 = r2) :
    Calls Tryd.prog 9 #[.agg #[.int .i64 aP, .int .i64 aQ], .agg #[.int .i64 bP, .int .i64 bQ], .agg #[.int .i64 cP, .int .i64 cQ]] w fun e w' => e = .returned (.bool true) ∧ Below w.heap.size w w' := by
  have HE := Lib.hid he
  have T1 := Lib.hid t1
  have T2 := Lib.hid t2
  have T3 := Lib.hid t3
  have C1 := Lib.hid c1
  have C2 := Lib.hid c2
  have C3 := Lib.hid c3
  have C4 := Lib.hid c4
  have C5 := Lib.hid c5
  have C6 := Lib.hid c6
  have C7 := Lib.hid c7
  have C8 := Lib.hid c8
  have C9 := Lib.hid c9
  have C10 := Lib.hid c10
  have C11 := Lib.hid c11
  have C12 := Lib.hid c12
  have C13 := Lib.hid c13
  have C14 := Lib.hid c14
  have C15 := Lib.hid c15
  have E1 := Lib.hid e1
  have E2 := Lib.hid e2
  have E3 := Lib.hid e3
  have E4 := Lib.hid e4
  clear he t1 t2 t3 c1 c2 c3 c4 c5 c6 c7 c8 c9 c10 c11 c12 c13 c14 c15 e1 e2 e3 e4
  go_enter Tryd.func9, Tryd.ntmps9
  go_wp2_with fail
  have h := abc_new w aP aQ bP bQ cP cQ
  generalize ((w.alloc (.cells #[.int .i64 aP, .int .i64 aQ] 23)).alloc (.cells #[.int .i64 bP, .int .i64 bQ] 23)).alloc (.cells #[.int .i64 cP, .int .i64 cQ] 23) = W at h ⊢
  refine (T1.out _).mono ?_; rintro e w' ⟨rfl, hb1⟩
  replace h := h.below hb1
  clear hb1
  have a0 := h.a.c0; have a1 := h.a.c1; have al := h.a.lt
  have b0 := h.b.c0; have b1 := h.b.c1; have bl := h.b.lt
  have c0 := h.c.c0; have c1 := h.c.c1; have cl := h.c.lt
  go_wp2_with fail
  clear a0 a1 al b0 b1 bl c0 c1 cl
  refine (T2.out _).mono ?_; rintro e w' ⟨rfl, hb1⟩
  replace h := h.below hb1
  clear hb1
  have a0 := h.a.c0; have a1 := h.a.c1; have al := h.a.lt
  have b0 := h.b.c0; have b1 := h.b.c1; have bl := h.b.lt
  have c0 := h.c.c0; have c1 := h.c.c1; have cl := h.c.lt
  go_wp2_with fail
  clear a0 a1 al b0 b1 bl c0 c1 cl
  refine (T3.out _).mono ?_; rintro e w' ⟨rfl, hb1⟩
  replace h := h.below hb1
  clear hb1
  have a0 := h.a.c0; have a1 := h.a.c1; have al := h.a.lt
  have b0 := h.b.c0; have b1 := h.b.c1; have bl := h.b.lt
  have c0 := h.c.c0; have c1 := h.c.c1; have cl := h.c.lt
  go_wp2_with fail
  clear a0 a1 al b0 b1 bl c0 c1 cl
  refine (C1.out _).mono ?_; rintro e w' ⟨rfl, hb1⟩
  replace h := h.below hb1
  clear hb1
  simp only [sumV]
  have a0 := h.a.c0; have a1 := h.a.c1; have al := h.a.lt
  have b0 := h.b.c0; have b1 := h.b.c1; have bl := h.b.lt
  have c0 := h.c.c0; have c1 := h.c.c1; have cl := h.c.lt
  go_wp2_with fail
  clear a0 a1 al b0 b1 bl c0 c1 cl
  have lab := numAt_new w' x1 y1 23
  replace h := h.alloc (.cells #[.int .i64 x1, .int .i64 y1] 23)
  generalize World.alloc w' (.cells #[.int .i64 x1, .int .i64 y1] 23) = W1 at lab h ⊢
  generalize w'.heap.size = bk1 at lab ⊢
  clear w'
  refine (C2.out _).mono ?_; rintro e w' ⟨rfl, hb1⟩
  replace h := h.below hb1
  replace lab := lab.below hb1
  clear hb1
  simp only [sumV]
  go_upto_region 5 with fail
  have lba := numAt_new w' x1 y1 23
  replace h := h.alloc (.cells #[.int .i64 x1, .int .i64 y1] 23)
  replace lab := lab.alloc (.cells #[.int .i64 x1, .int .i64 y1] 23)
  generalize World.alloc w' (.cells #[.int .i64 x1, .int .i64 y1] 23) = W2 at lba lab h ⊢
  generalize w'.heap.size = bk2 at lba ⊢
  clear w'
  go_cut [74] (fun s74 wx => s74 = .bool false ∧ wx = W2)
  case first =>
    as_aux_lemma =>
      cases i1
      all_goals
        have lab_0 := lab.c0; have lab_1 := lab.c1; have lab_l := lab.lt
        have lba_0 := lba.c0; have lba_1 := lba.c1; have lba_l := lba.lt
        go_wp2_with fail
        go_meet
        exact ⟨rfl, rfl⟩
  case rest =>
    obtain ⟨rfl, rfl⟩ := hcut
    clear lba
    have a0 := h.a.c0; have a1 := h.a.c1; have al := h.a.lt
    have b0 := h.b.c0; have b1 := h.b.c1; have bl := h.b.lt
    have c0 := h.c.c0; have c1 := h.c.c1; have cl := h.c.lt
    go_wp2_with fail
    clear a0 a1 al b0 b1 bl c0 c1 cl
    refine (C3.out _).mono ?_; rintro e w' ⟨rfl, hb1⟩
    replace h := h.below hb1
    replace lab := lab.below hb1
    clear hb1
    simp only [sumV]
    have a0 := h.a.c0; have a1 := h.a.c1; have al := h.a.lt
    have b0 := h.b.c0; have b1 := h.b.c1; have bl := h.b.lt
    have c0 := h.c.c0; have c1 := h.c.c1; have cl := h.c.lt
    go_wp2_with fail
    clear a0 a1 al b0 b1 bl c0 c1 cl
    have lp := numAt_new w' u1 v1 23
    replace h := h.alloc (.cells #[.int .i64 u1, .int .i64 v1] 23)
    replace lab := lab.alloc (.cells #[.int .i64 u1, .int .i64 v1] 23)
    generalize World.alloc w' (.cells #[.int .i64 u1, .int .i64 v1] 23) = W3 at lp lab h ⊢
    generalize w'.heap.size = bk3 at lp ⊢
    clear w'
    refine (C4.out _).mono ?_; rintro e w' ⟨rfl, hb1⟩
    replace h := h.below hb1
    replace lab := lab.below hb1
    replace lp := lp.below hb1
    clear hb1
    simp only [sumV]
    go_upto_region 9 with fail
    have lq := numAt_new w' u1 v1 23
    replace h := h.alloc (.cells #[.int .i64 u1, .int .i64 v1] 23)
    replace lab := lab.alloc (.cells #[.int .i64 u1, .int .i64 v1] 23)
    replace lp := lp.alloc (.cells #[.int .i64 u1, .int .i64 v1] 23)
    generalize World.alloc w' (.cells #[.int .i64 u1, .int .i64 v1] 23) = W4 at lq lab lp h ⊢
    generalize w'.heap.size = bk4 at lq ⊢
    clear w'
    go_cut [94] (fun s94 wx => s94 = .bool false ∧ wx = W4)
    case first =>
      as_aux_lemma =>
        cases j1
        all_goals
          have lp_0 := lp.c0; have lp_1 := lp.c1; have lp_l := lp.lt
          have lq_0 := lq.c0; have lq_1 := lq.c1; have lq_l := lq.lt
          go_wp2_with fail
          go_meet
          exact ⟨rfl, rfl⟩
    case rest =>
      obtain ⟨rfl, rfl⟩ := hcut
      clear lq
      go_upto_if 95 with fail
      go_cut [8] (fun s8 wx => s8 = .bool i1 ∧ Abc w aP aQ bP bQ cP cQ wx ∧ NumAt wx bk3 u1 v1)
      case first =>
        as_aux_lemma =>
          cases i1
          · go_wp2_with fail
            go_meet
            exact ⟨rfl, h, lp⟩
          · have C5' := Lib.hid (C5.out rfl)
            have E1' := Lib.hid (E1.out rfl)
            clear C5 E1
            have a0 := h.a.c0; have a1 := h.a.c1; have al := h.a.lt
            have b0 := h.b.c0; have b1 := h.b.c1; have bl := h.b.lt
            have c0 := h.c.c0; have c1 := h.c.c1; have cl := h.c.lt
            have lab_0 := lab.c0; have lab_1 := lab.c1; have lab_l := lab.lt
            go_wp2_with fail
            clear a0 a1 al b0 b1 bl c0 c1 cl lab_0 lab_1 lab_l
            refine (C5'.out _).mono ?_; rintro e w' ⟨rfl, hb1⟩
            replace h := h.below hb1
            replace lab := lab.below hb1
            replace lp := lp.below hb1
            clear hb1
            simp only [numV]
            go_upto_region 13 with fail
            have lx := numAt_new w' aP aQ 23
            replace h := h.alloc (.cells #[.int .i64 aP, .int .i64 aQ] 23)
            replace lab := lab.alloc (.cells #[.int .i64 aP, .int .i64 aQ] 23)
            replace lp := lp.alloc (.cells #[.int .i64 aP, .int .i64 aQ] 23)
            generalize World.alloc w' (.cells #[.int .i64 aP, .int .i64 aQ] 23) = W5 at lx lab lp h ⊢
            generalize w'.heap.size = bk5 at lx ⊢
            clear w'
            have a0 := h.a.c0; have a1 := h.a.c1; have al := h.a.lt
            have b0 := h.b.c0; have b1 := h.b.c1; have bl := h.b.lt
            have c0 := h.c.c0; have c1 := h.c.c1; have cl := h.c.lt
            have lab_0 := lab.c0; have lab_1 := lab.c1; have lab_l := lab.lt
            have lx_0 := lx.c0; have lx_1 := lx.c1; have lx_l := lx.lt
            go_wp2_with fail
            clear a0 a1 al b0 b1 bl c0 c1 cl lab_0 lab_1 lab_l lx_0 lx_1 lx_l
            clear lx
            refine (C6.out _).mono ?_; rintro e w' ⟨rfl, hb1⟩
            replace h := h.below hb1
            replace lp := lp.below hb1
            clear hb1
            simp only [sumV]
            have a0 := h.a.c0; have a1 := h.a.c1; have al := h.a.lt
            have b0 := h.b.c0; have b1 := h.b.c1; have bl := h.b.lt
            have c0 := h.c.c0; have c1 := h.c.c1; have cl := h.c.lt
            go_wp2_with fail
            clear a0 a1 al b0 b1 bl c0 c1 cl
            have l2 := numAt_new w' x2 y2 23
            replace h := h.alloc (.cells #[.int .i64 x2, .int .i64 y2] 23)
            replace lp := lp.alloc (.cells #[.int .i64 x2, .int .i64 y2] 23)
            generalize World.alloc w' (.cells #[.int .i64 x2, .int .i64 y2] 23) = W6 at l2 lp h ⊢
            generalize w'.heap.size = bk6 at l2 ⊢
            clear w'
            refine (C7.out _).mono ?_; rintro e w' ⟨rfl, hb1⟩
            replace h := h.below hb1
            replace lp := lp.below hb1
            replace l2 := l2.below hb1
            clear hb1
            simp only [sumV]
            go_upto_region 17 with fail
            have l3 := numAt_new w' x3 y3 23
            replace h := h.alloc (.cells #[.int .i64 x3, .int .i64 y3] 23)
            replace lp := lp.alloc (.cells #[.int .i64 x3, .int .i64 y3] 23)
            replace l2 := l2.alloc (.cells #[.int .i64 x3, .int .i64 y3] 23)
            generalize World.alloc w' (.cells #[.int .i64 x3, .int .i64 y3] 23) = W7 at l3 lp l2 h ⊢
            generalize w'.heap.size = bk7 at l3 ⊢
            clear w'
            have a0 := h.a.c0; have a1 := h.a.c1; have al := h.a.lt
            have b0 := h.b.c0; have b1 := h.b.c1; have bl := h.b.lt
            have c0 := h.c.c0; have c1 := h.c.c1; have cl := h.c.lt
            have l3_0 := l3.c0; have l3_1 := l3.c1; have l3_l := l3.lt
            go_wp2_with fail
            clear a0 a1 al b0 b1 bl c0 c1 cl l3_0 l3_1 l3_l
            clear l3
            refine (C8.out _).mono ?_; rintro e w' ⟨rfl, hb1⟩
            replace h := h.below hb1
            replace lp := lp.below hb1
            replace l2 := l2.below hb1
            clear hb1
            simp only [sumV]
            go_upto_region 18 with fail
            have l4 := numAt_new w' x4 y4 23
            replace h := h.alloc (.cells #[.int .i64 x4, .int .i64 y4] 23)
            replace lp := lp.alloc (.cells #[.int .i64 x4, .int .i64 y4] 23)
            replace l2 := l2.alloc (.cells #[.int .i64 x4, .int .i64 y4] 23)
            generalize World.alloc w' (.cells #[.int .i64 x4, .int .i64 y4] 23) = W8 at l4 lp l2 h ⊢
            generalize w'.heap.size = bk8 at l4 ⊢
            clear w'
            go_cut [138] (fun s138 wx => s138 = .bool false ∧ wx = W8)
            case first =>
              as_aux_lemma =>
                have e := E1'.out
                cases i2
                · clear e
                  go_wp2_with fail
                  go_meet
                  exact ⟨rfl, rfl⟩
                cases i3
                · clear e
                  go_wp2_with fail
                  go_meet
                  exact ⟨rfl, rfl⟩
                cases i4
                · clear e
                  go_wp2_with fail
                  go_meet
                  exact ⟨rfl, rfl⟩
                obtain ⟨f1, f2⟩ := e rfl rfl rfl
                clear e
                subst f1 f2
                have l2_0 := l2.c0; have l2_1 := l2.c1; have l2_l := l2.lt
                have l4_0 := l4.c0; have l4_1 := l4.c1; have l4_l := l4.lt
                go_wp2_with fail
                go_meet
                exact ⟨rfl, rfl⟩
            case rest =>
              as_aux_lemma =>
                obtain ⟨rfl, rfl⟩ := hcut
                clear l2 l4
                go_wp2_with fail
                go_meet
                exact ⟨rfl, h, lp⟩
      case rest =>
        as_aux_lemma =>
          clear h lp lab
          obtain ⟨rfl, h, lp⟩ := hcut
          go_upto_if 139 with fail
          go_cut [12] (fun s12 wx => s12 = .bool j1 ∧ Abc w aP aQ bP bQ cP cQ wx)
          case first =>
            as_aux_lemma =>
              cases j1
              · go_wp2_with fail
                go_meet
                exact ⟨rfl, h⟩
              · have E2' := Lib.hid (E2.out rfl)
                have E3' := Lib.hid (E3.out rfl)
                clear E2 E3
                have a0 := h.a.c0; have a1 := h.a.c1; have al := h.a.lt
                have b0 := h.b.c0; have b1 := h.b.c1; have bl := h.b.lt
                have c0 := h.c.c0; have c1 := h.c.c1; have cl := h.c.lt
                have lp_0 := lp.c0; have lp_1 := lp.c1; have lp_l := lp.lt
                go_wp2_with fail
                clear a0 a1 al b0 b1 bl c0 c1 cl lp_0 lp_1 lp_l
                refine (C9.out _).mono ?_; rintro e w' ⟨rfl, hb1⟩
                replace h := h.below hb1
                replace lp := lp.below hb1
                clear hb1
                simp only [numV]
                go_upto_region 22 with fail
                have ld := numAt_new w' d1 d2 23
                replace h := h.alloc (.cells #[.int .i64 d1, .int .i64 d2] 23)
                replace lp := lp.alloc (.cells #[.int .i64 d1, .int .i64 d2] 23)
                generalize World.alloc w' (.cells #[.int .i64 d1, .int .i64 d2] 23) = W9 at ld lp h ⊢
                generalize w'.heap.size = bk9 at ld ⊢
                clear w'
                go_cut [157] (fun s157 wx => s157 = .bool false ∧ wx = W9)
                case first =>
                  as_aux_lemma =>
                    by_cases hz : bP = 0
                    · subst hz
                      have a0 := h.a.c0; have a1 := h.a.c1; have al := h.a.lt
                      have b0 := h.b.c0; have b1 := h.b.c1; have bl := h.b.lt
                      have c0 := h.c.c0; have c1 := h.c.c1; have cl := h.c.lt
                      have ld_0 := ld.c0; have ld_1 := ld.c1; have ld_l := ld.lt
                      go_wp2_with fail
                      go_meet
                      exact ⟨rfl, rfl⟩
                    · obtain ⟨f1, f2, f3⟩ := E2'.out hz
                      have hz1 : (bP != 0) = true := by simpa using hz
                      have hz2 : (bP == 0) = false := by simpa using hz
                      clear hz
                      subst f1 f2 f3
                      have a0 := h.a.c0; have a1 := h.a.c1; have al := h.a.lt
                      have b0 := h.b.c0; have b1 := h.b.c1; have bl := h.b.lt
                      have c0 := h.c.c0; have c1 := h.c.c1; have cl := h.c.lt
                      have ld_0 := ld.c0; have ld_1 := ld.c1; have ld_l := ld.lt
                      go_wp2_with fail
                      go_meet
                      exact ⟨rfl, rfl⟩
                case rest =>
                  as_aux_lemma =>
                    obtain ⟨rfl, rfl⟩ := hcut
                    clear ld
                    have a0 := h.a.c0; have a1 := h.a.c1; have al := h.a.lt
                    have b0 := h.b.c0; have b1 := h.b.c1; have bl := h.b.lt
                    have c0 := h.c.c0; have c1 := h.c.c1; have cl := h.c.lt
                    have lp_0 := lp.c0; have lp_1 := lp.c1; have lp_l := lp.lt
                    go_wp2_with fail
                    clear a0 a1 al b0 b1 bl c0 c1 cl lp_0 lp_1 lp_l
                    clear lp
                    refine (C10.out _).mono ?_; rintro e w' ⟨rfl, hb1⟩
                    replace h := h.below hb1
                    clear hb1
                    simp only [sumV]
                    have a0 := h.a.c0; have a1 := h.a.c1; have al := h.a.lt
                    have b0 := h.b.c0; have b1 := h.b.c1; have bl := h.b.lt
                    have c0 := h.c.c0; have c1 := h.c.c1; have cl := h.c.lt
                    go_wp2_with fail
                    clear a0 a1 al b0 b1 bl c0 c1 cl
                    have l2 := numAt_new w' u2 v2 23
                    replace h := h.alloc (.cells #[.int .i64 u2, .int .i64 v2] 23)
                    generalize World.alloc w' (.cells #[.int .i64 u2, .int .i64 v2] 23) = W10 at l2 h ⊢
                    generalize w'.heap.size = bk10 at l2 ⊢
                    clear w'
                    refine (C11.out _).mono ?_; rintro e w' ⟨rfl, hb1⟩
                    replace h := h.below hb1
                    replace l2 := l2.below hb1
                    clear hb1
                    simp only [sumV]
                    go_upto_region 26 with fail
                    have l3 := numAt_new w' u3 v3 23
                    replace h := h.alloc (.cells #[.int .i64 u3, .int .i64 v3] 23)
                    replace l2 := l2.alloc (.cells #[.int .i64 u3, .int .i64 v3] 23)
                    generalize World.alloc w' (.cells #[.int .i64 u3, .int .i64 v3] 23) = W11 at l3 l2 h ⊢
                    generalize w'.heap.size = bk11 at l3 ⊢
                    clear w'
                    have a0 := h.a.c0; have a1 := h.a.c1; have al := h.a.lt
                    have b0 := h.b.c0; have b1 := h.b.c1; have bl := h.b.lt
                    have c0 := h.c.c0; have c1 := h.c.c1; have cl := h.c.lt
                    have l3_0 := l3.c0; have l3_1 := l3.c1; have l3_l := l3.lt
                    go_wp2_with fail
                    clear a0 a1 al b0 b1 bl c0 c1 cl l3_0 l3_1 l3_l
                    clear l3
                    refine (C12.out _).mono ?_; rintro e w' ⟨rfl, hb1⟩
                    replace h := h.below hb1
                    replace l2 := l2.below hb1
                    clear hb1
                    simp only [sumV]
                    go_upto_region 27 with fail
                    have l4 := numAt_new w' u4 v4 23
                    replace h := h.alloc (.cells #[.int .i64 u4, .int .i64 v4] 23)
                    replace l2 := l2.alloc (.cells #[.int .i64 u4, .int .i64 v4] 23)
                    generalize World.alloc w' (.cells #[.int .i64 u4, .int .i64 v4] 23) = W12 at l4 l2 h ⊢
                    generalize w'.heap.size = bk12 at l4 ⊢
                    clear w'
                    go_cut [187] (fun s187 wx => s187 = .bool false ∧ wx = W12)
                    case first =>
                      as_aux_lemma =>
                        have e := E3'.out
                        cases j2
                        · clear e
                          go_wp2_with fail
                          go_meet
                          exact ⟨rfl, rfl⟩
                        cases j3
                        · clear e
                          go_wp2_with fail
                          go_meet
                          exact ⟨rfl, rfl⟩
                        cases j4
                        · clear e
                          go_wp2_with fail
                          go_meet
                          exact ⟨rfl, rfl⟩
                        obtain ⟨f1, f2⟩ := e rfl rfl rfl
                        clear e
                        subst f1 f2
                        have l2_0 := l2.c0; have l2_1 := l2.c1; have l2_l := l2.lt
                        have l4_0 := l4.c0; have l4_1 := l4.c1; have l4_l := l4.lt
                        go_wp2_with fail
                        go_meet
                        exact ⟨rfl, rfl⟩
                    case rest =>
                      as_aux_lemma =>
                        obtain ⟨rfl, rfl⟩ := hcut
                        clear l2 l4
                        go_wp2_with fail
                        go_meet
                        exact ⟨rfl, h⟩
          case rest =>
            as_aux_lemma =>
              clear h lp
              obtain ⟨rfl, h⟩ := hcut
              have a0 := h.a.c0; have a1 := h.a.c1; have al := h.a.lt
              have b0 := h.b.c0; have b1 := h.b.c1; have bl := h.b.lt
              have c0 := h.c.c0; have c1 := h.c.c1; have cl := h.c.lt
              go_wp2_with fail
              clear a0 a1 al b0 b1 bl c0 c1 cl
              refine (C7.out _).mono ?_; rintro e w' ⟨rfl, hb1⟩
              replace h := h.below hb1
              clear hb1
              simp only [sumV]
              go_upto_region 30 with fail
              have l3 := numAt_new w' x3 y3 23
              replace h := h.alloc (.cells #[.int .i64 x3, .int .i64 y3] 23)
              generalize World.alloc w' (.cells #[.int .i64 x3, .int .i64 y3] 23) = W13 at l3 h ⊢
              generalize w'.heap.size = bk13 at l3 ⊢
              clear w'
              have a0 := h.a.c0; have a1 := h.a.c1; have al := h.a.lt
              have b0 := h.b.c0; have b1 := h.b.c1; have bl := h.b.lt
              have c0 := h.c.c0; have c1 := h.c.c1; have cl := h.c.lt
              have l3_0 := l3.c0; have l3_1 := l3.c1; have l3_l := l3.lt
              go_wp2_with fail
              clear a0 a1 al b0 b1 bl c0 c1 cl l3_0 l3_1 l3_l
              clear l3
              refine (C13.out _).mono ?_; rintro e w' ⟨rfl, hb1⟩
              replace h := h.below hb1
              clear hb1
              simp only [sumV]
              have a0 := h.a.c0; have a1 := h.a.c1; have al := h.a.lt
              have b0 := h.b.c0; have b1 := h.b.c1; have bl := h.b.lt
              have c0 := h.c.c0; have c1 := h.c.c1; have cl := h.c.lt
              go_wp2_with fail
              clear a0 a1 al b0 b1 bl c0 c1 cl
              have lm := numAt_new w' m1 m2 23
              replace h := h.alloc (.cells #[.int .i64 m1, .int .i64 m2] 23)
              generalize World.alloc w' (.cells #[.int .i64 m1, .int .i64 m2] 23) = W14 at lm h ⊢
              generalize w'.heap.size = bk14 at lm ⊢
              clear w'
              refine (C3.out _).mono ?_; rintro e w' ⟨rfl, hb1⟩
              replace h := h.below hb1
              replace lm := lm.below hb1
              clear hb1
              simp only [sumV]
              have a0 := h.a.c0; have a1 := h.a.c1; have al := h.a.lt
              have b0 := h.b.c0; have b1 := h.b.c1; have bl := h.b.lt
              have c0 := h.c.c0; have c1 := h.c.c1; have cl := h.c.lt
              go_wp2_with fail
              clear a0 a1 al b0 b1 bl c0 c1 cl
              have lp := numAt_new w' u1 v1 23
              replace h := h.alloc (.cells #[.int .i64 u1, .int .i64 v1] 23)
              replace lm := lm.alloc (.cells #[.int .i64 u1, .int .i64 v1] 23)
              generalize World.alloc w' (.cells #[.int .i64 u1, .int .i64 v1] 23) = W15 at lp lm h ⊢
              generalize w'.heap.size = bk15 at lp ⊢
              clear w'
              refine (C14.out _).mono ?_; rintro e w' ⟨rfl, hb1⟩
              replace h := h.below hb1
              replace lm := lm.below hb1
              replace lp := lp.below hb1
              clear hb1
              simp only [sumV]
              go_upto_region 33 with fail
              have ln := numAt_new w' n1 n2 23
              replace h := h.alloc (.cells #[.int .i64 n1, .int .i64 n2] 23)
              replace lm := lm.alloc (.cells #[.int .i64 n1, .int .i64 n2] 23)
              replace lp := lp.alloc (.cells #[.int .i64 n1, .int .i64 n2] 23)
              generalize World.alloc w' (.cells #[.int .i64 n1, .int .i64 n2] 23) = W16 at ln lm lp h ⊢
              generalize w'.heap.size = bk16 at ln ⊢
              clear w'
              have a0 := h.a.c0; have a1 := h.a.c1; have al := h.a.lt
              have b0 := h.b.c0; have b1 := h.b.c1; have bl := h.b.lt
              have c0 := h.c.c0; have c1 := h.c.c1; have cl := h.c.lt
              have lp_0 := lp.c0; have lp_1 := lp.c1; have lp_l := lp.lt
              have ln_0 := ln.c0; have ln_1 := ln.c1; have ln_l := ln.lt
              go_wp2_with fail
              clear a0 a1 al b0 b1 bl c0 c1 cl lp_0 lp_1 lp_l ln_0 ln_1 ln_l
              clear lp ln
              refine (C15.out _).mono ?_; rintro e w' ⟨rfl, hb1⟩
              replace h := h.below hb1
              replace lm := lm.below hb1
              clear hb1
              simp only [sumV]
              go_upto_region 34 with fail
              have lr := numAt_new w' r1 r2 23
              replace h := h.alloc (.cells #[.int .i64 r1, .int .i64 r2] 23)
              replace lm := lm.alloc (.cells #[.int .i64 r1, .int .i64 r2] 23)
              generalize World.alloc w' (.cells #[.int .i64 r1, .int .i64 r2] 23) = W17 at lr lm h ⊢
              generalize w'.heap.size = bk17 at lr ⊢
              clear w'
              have e := E4.out
              cases i3
              · as_aux_lemma =>
                clear e
                go_wp2_with fail
                refine (awake_any _ (HE.out.below h.bel)).mono ?_; rintro e w3 ⟨rfl, hb1⟩
                replace h := h.below hb1
                clear hb1
                go_wp2_with fail
                go_ret
                exact ⟨rfl, h.bel⟩
              cases k1
              · as_aux_lemma =>
                clear e
                go_wp2_with fail
                refine (awake_any _ (HE.out.below h.bel)).mono ?_; rintro e w3 ⟨rfl, hb1⟩
                replace h := h.below hb1
                clear hb1
                go_wp2_with fail
                go_ret
                exact ⟨rfl, h.bel⟩
              cases j1
              · as_aux_lemma =>
                clear e
                go_wp2_with fail
                refine (awake_any _ (HE.out.below h.bel)).mono ?_; rintro e w3 ⟨rfl, hb1⟩
                replace h := h.below hb1
                clear hb1
                go_wp2_with fail
                go_ret
                exact ⟨rfl, h.bel⟩
              cases k2
              · as_aux_lemma =>
                clear e
                go_wp2_with fail
                refine (awake_any _ (HE.out.below h.bel)).mono ?_; rintro e w3 ⟨rfl, hb1⟩
                replace h := h.below hb1
                clear hb1
                go_wp2_with fail
                go_ret
                exact ⟨rfl, h.bel⟩
              cases k3
              · as_aux_lemma =>
                clear e
                go_wp2_with fail
                refine (awake_any _ (HE.out.below h.bel)).mono ?_; rintro e w3 ⟨rfl, hb1⟩
                replace h := h.below hb1
                clear hb1
                go_wp2_with fail
                go_ret
                exact ⟨rfl, h.bel⟩
              obtain ⟨f1, f2⟩ := e rfl rfl rfl rfl rfl
              clear e
              subst f1 f2
              have lm_0 := lm.c0; have lm_1 := lm.c1; have lm_l := lm.lt
              have lr_0 := lr.c0; have lr_1 := lr.c1; have lr_l := lr.lt
              go_wp2_with fail
              clear lm_0 lm_1 lm_l lr_0 lr_1 lr_l
              refine (awake_any _ (HE.out.below h.bel)).mono ?_; rintro e w3 ⟨rfl, hb1⟩
              replace h := h.below hb1
              clear hb1
              go_wp2_with fail
              go_ret
              exact ⟨rfl, h.bel⟩
end Go.Proofs.YtmcpbnkmccngpaaDoor
