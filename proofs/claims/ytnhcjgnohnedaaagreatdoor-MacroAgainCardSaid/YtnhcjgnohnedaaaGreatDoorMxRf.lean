/-
  The walk of MacroAgain: it returns true at any tokens.
-/
import Derived.Test.YtnhcjgnohnedaaaGreatDoorMxRe
import Derived.Test.YtnhcjgnohnedaaaGreatDoorMxPc
import Derived.Test.YtnhcjgnohnedaaaGreatDoorLxBa
import Derived.Test.YtnhcjgnohnedaaaGreatDoorLrH
namespace Go.Proofs.YtnhcjgnohnedaaaGreatDoor
open Go.RowKit

/-- A token that is valid fits. -/
theorem fit_ok {x : Tv} (h : x.ok = true) : x.fit := by
  have hx : Tv.of ⟨⟨x.k, x.t.data.toList, x.p, x.q⟩, x.a, x.c⟩ = x := by
    unfold Tv.of
    rw [← ba_list x.t]
  have := of_fit (t := ⟨⟨x.k, x.t.data.toList, x.p, x.q⟩, x.a, x.c⟩) h
  rwa [hx] at this
namespace Mx
theorem out_ok (l : List Tv) : ∀ t ∈ expandO l, t.ok = true := by
  intro t ht
  cases hok : l.all Tv.ok with
  | false => rw [(expand_arg hok).1] at ht; cases ht
  | true =>
    cases he : expanded l with
    | bad f => rw [(expand_bad hok he).1] at ht; cases ht
    | ok u s =>
      rw [(expand_ok hok he).1] at ht
      exact (Z.done_top (List.all_eq_true.1 hok) he).1.out.1 t ht
theorem out_len (l : List Tv) : (expandO l).length ≤ 20000 := by
  cases hok : l.all Tv.ok with
  | false => rw [(expand_arg hok).1]; simp
  | true =>
    cases he : expanded l with
    | bad f => rw [(expand_bad hok he).1]; simp
    | ok u s =>
      rw [(expand_ok hok he).1]
      exact (Z.done_top (List.all_eq_true.1 hok) he).1.out.2
theorem again_nil : expandF [] = noFlt ∧ expandO [] = [] := ⟨by kernel_rfl, by kernel_rfl⟩
theorem again_exp (l : List Tv) (hlen : (expandO l).length ≤ 20000) (hn : ∀ t ∈ expandO l, t.k = 0 → t.t.data.toList ∉ Lx.wds) : expandF (expandO l) = noFlt ∧ expandO (expandO l) = expandO l := by
  cases hok : l.all Tv.ok with
  | false => rw [(expand_arg hok).1]; exact again_nil
  | true =>
    cases he : expanded l with
    | bad f => rw [(expand_bad hok he).1]; exact again_nil
    | ok u s =>
      have hout := out_ok l
      rw [(expand_ok hok he).1] at hlen hn hout ⊢
      obtain ⟨s2, h2, h3⟩ := Z.again (List.all_eq_true.1 hok) he hlen hn
      have := expand_ok (List.all_eq_true.2 hout) h2
      exact ⟨this.2, by rw [this.1, h3]⟩
end Mx
set_option maxRecDepth 100000 in
set_option maxHeartbeats 8000000 in
theorem magain_any (A : Option Addr) (c : Nat) (l : List Tv) (w : World) (he : EnvL w) (h1 : TokSl w w.heap.size A l) (_ : A = none → c = 0 ∧ l = []) (hc : l.length ≤ c) (hl : l.length ≤ 9223372036854775807) (hf : ∀ x ∈ l, x.fit) :
    Calls Tryz.prog 5 #[.slice A l.length c] w fun e w' => e = .returned (.bool true) ∧ Below w.heap.size w w' := by
  have HE := Lib.hid he
  have HAW := Lib.hid (fun W (hW : EnvL W) => mawake_any W hW)
  have C1 := Lib.hid (mfew_any A c l w h1 hl)
  have C2 := Lib.hid (fun W (hW : EnvL W) (hs : TokSl W W.heap.size A l) => expand_any A c l W hW hs hc hl hf)
  have HG := Lib.hid (Mx.again_exp l)
  have HOK := Lib.hid (Mx.out_ok l)
  have H1 := Lib.hid h1
  obtain ⟨O, hO⟩ : ∃ O, O = Mx.expandO l := ⟨_, rfl⟩
  obtain ⟨⟨fc, fn, fl, fo⟩, hF⟩ : ∃ f, f = Mx.expandF l := ⟨_, rfl⟩
  rw [← hO, ← hF] at C2
  rw [← hO] at HG HOK
  obtain ⟨n, hn⟩ : ∃ n, n = l.length := ⟨_, rfl⟩
  rw [← hn] at C1 C2 ⊢
  unfold Mx.Flt.agg at C2
  dsimp only at C2
  obtain ⟨n2, hn2⟩ : ∃ n2, n2 = O.length := ⟨_, rfl⟩
  have HNO := Lib.hid hn2.symm
  clear he h1 hf hl hc hO hF hn hn2
  go_enter Tryz.func5, Tryz.ntmps5
  go_wp2_with fail
  refine C1.out.mono ?_; rintro e w1 ⟨⟨b1, rfl, hn⟩, hb⟩
  have B1 := Lib.hid hb
  have hz1 := hb.size
  clear hb hn
  cases b1
  case false =>
    go_wp2_with fail
    refine (HAW.out _ (HE.out.below B1.out)).mono ?_; rintro e w9 ⟨rfl, hb⟩
    go_wp2_with fail
    go_ret
    exact ⟨rfl, B1.out.trans (hb.mono B1.out.size)⟩
  have S1 := Lib.hid (H1.out.below B1.out)
  go_wp2_with fail
  refine (C2.out _ (HE.out.below B1.out) (S1.out.more hz1)).mono ?_; rintro e w2 ⟨v2, rfl, hv2, hb⟩
  have B2 := Lib.hid (B1.out.trans (hb.mono B1.out.size))
  obtain ⟨P2, d2, rfl, hs2⟩ := hv2.sl
  have hcap : O.length ≤ d2 := by
    obtain ⟨A', c', e1, -, e3, -⟩ := Mx.TokOwn.fix (X := fun _ => False) hv2 (fun _ _ h => h) (fun p hp => fit_ok (HOK.out p hp))
    injection e1 with e1 e2 e3'
    omega
  rw [HNO.out] at hcap ⊢
  have SO := Lib.hid (hs2.below (heap_new_b w2 (.cells #[.int .i64 fc, .string fn, .int .i64 fl, .int .i64 fo] 27) _ (Nat.le_refl _)))
  have B3 := Lib.hid (B2.out.alloc B2.out.size (.cells #[.int .i64 fc, .string fn, .int .i64 fl, .int .i64 fo] 27))
  have K1 := Lib.hid (heap_alloc_new w2 (.cells #[.int .i64 fc, .string fn, .int .i64 fl, .int .i64 fo] 27))
  have hz2 := B2.out.size
  clear hb hs2 hv2
  by_cases hfc : fc = 0
  case neg =>
    have e0 : (fc != 0) = true := by simpa using hfc
    clear hfc
    go_wp2_with fail
    refine (HAW.out _ (HE.out.below B3.out)).mono ?_; rintro e w9 ⟨rfl, hb⟩
    go_wp2_with fail
    go_ret
    exact ⟨rfl, B3.out.trans (hb.mono B3.out.size)⟩
  subst hfc
  by_cases h2000 : 2000 < n2
  case pos =>
    have e0 : decide ((2000 : Int) < (n2 : Int)) = true := decide_eq_true (by omega)
    go_wp2_with fail
    refine (HAW.out _ (HE.out.below B3.out)).mono ?_; rintro e w9 ⟨rfl, hb⟩
    go_wp2_with fail
    go_ret
    exact ⟨rfl, B3.out.trans (hb.mono B3.out.size)⟩
  go_wp2_with fail
  obtain ⟨W3, hW3⟩ : ∃ W3, w2.alloc (.cells #[.int .i64 0, .string fn, .int .i64 fl, .int .i64 fo] 27) = W3 := ⟨_, rfl⟩
  have hz3 : W3.heap.size = w2.heap.size + 1 := by rw [← hW3]; simp
  rw [hW3] at SO B3 K1 ⊢
  clear hW3 K1
  have SO : Hid (TokSl W3 W3.heap.size P2 O) := Lib.hid (SO.out.more (by omega))
  go_loopw [29] (fun v wr => ∃ k : Nat, v = .int .i64 k ∧ k ≤ n2 ∧ Hid (∀ (i : Nat) (x : Tv), i < k → O[i]? = some x → x.k = 0 → x.t.data.toList ∉ Lx.wds) ∧ Hid (Below W3.heap.size W3 wr)) (fun v _ => n2 - (intOf v).toNat)
  case atStart => exact ⟨0, rfl, by omega, fun i x h => by omega, Below.refl _ _⟩
  case round =>
    obtain ⟨k, rfl, hk, hs, hB⟩ := hrel
    by_cases hlt : k < n2
    · obtain ⟨ad1, rfl, hb1, at1⟩ := SO.out (by rw [HNO.out]; omega); have hx : O[k]? = some (O[k]'(by rw [HNO.out]; exact hlt)) := List.getElem?_eq_getElem _; generalize O[k]'(by rw [HNO.out]; exact hlt) = x at hx; have tx := (at1 k x hx).below hB.out (by rw [block_of_add]; exact hb1); have g1 := block_of_add ad1 (k * 6); obtain ⟨⟨xb, xo, xs⟩, hE1⟩ : ∃ E, ad1.add (k * 6) = E := ⟨_, rfl⟩; rw [hE1] at tx g1; obtain ⟨x0, x1, x2, x3, x4, x5⟩ := tx; simp only at x0 x1 x2 x3 x4 x5 g1; have hsz := hB.out.size; have hxb : xb < wr.heap.size := (by omega); have hk0 : (0 : Int) ≤ (k : Int) := (by omega); have hk1 : (k : Int) < (n2 : Int) := (by omega); have HX := Lib.hid hx; clear at1 g1 hb1 hx
      by_cases k0 : x.k = 0
      · have e0 : (x.k == 0) = true := by simpa using k0
        have HW := Lib.hid (fun W => rword_any x.t W)
        obtain ⟨r, hr⟩ : ∃ r, r = decide (x.t.data.toList ∈ Lx.wds) := ⟨_, rfl⟩
        rw [← hr] at HW
        have HR := Lib.hid hr
        have K0 := Lib.hid k0
        clear hr k0
        go_wp2_with fail
        refine (HW.out _).mono ?_; rintro e w4 ⟨rfl, hb⟩
        have B4 := Lib.hid ((hB.out.alloc hsz (.cells #[.int .i64 x.k, .string x.t, .int .i64 x.p, .int .i64 x.q, .int .i64 x.a, .int .i64 x.c] 41)).trans (hb.mono (by simp; omega)))
        clear hb x0 x1 x2 x3 x4 x5
        cases r
        case true =>
          go_wp2_with fail
          have B5 := Lib.hid (B3.out.trans (B4.out.mono B3.out.size))
          refine (HAW.out _ (HE.out.below B5.out)).mono ?_; rintro e w9 ⟨rfl, hb⟩
          go_wp2_with fail
          go_ret
          exact ⟨rfl, B5.out.trans (hb.mono B5.out.size)⟩
        case false =>
          go_wp2_with fail
          go_roundw
          case rel =>
            refine ⟨k + 1, by go_num, by omega, ?_, B4⟩
            refine Lib.hid (fun i u hi hu => ?_)
            by_cases e : i = k
            · subst e; rw [HX.out] at hu; injection hu with hu; subst hu; exact fun _ => of_decide_eq_false HR.out.symm
            · exact hs.out i u (by omega) hu
          case measure => simp [intOf]; omega
      · have e0 : (x.k == 0) = false := by simpa using k0
        have K0 := Lib.hid k0
        clear k0
        go_wp2_with fail
        go_roundw
        case rel =>
          refine ⟨k + 1, by go_num, by omega, ?_, Lib.hid (hB.out.alloc hsz _)⟩
          refine Lib.hid (fun i u hi hu => ?_)
          by_cases e : i = k
          · subst e; rw [HX.out] at hu; injection hu with hu; subst hu; exact fun h => absurd h K0.out
          · exact hs.out i u (by omega) hu
        case measure => simp [intOf]; omega
    · have hkn : k = n2 := by omega
      subst hkn
      obtain ⟨g1, g2⟩ := HG.out (by have := HNO.out; omega) (fun t ht => by
        obtain ⟨i, hi, rfl⟩ := List.getElem_of_mem ht
        have := HNO.out
        exact hs.out i _ (by omega) (List.getElem?_eq_getElem hi))
      have C3 := Lib.hid (fun W (hW : EnvL W) (hs : TokSl W W.heap.size P2 O) => expand_any P2 d2 O W hW hs (by have := HNO.out; omega) (by have := HNO.out; omega) (fun t ht => fit_ok (HOK.out t ht)))
      rw [g1, g2] at C3
      rw [HNO.out] at C3
      simp only [Mx.Flt.agg, Mx.noFlt, show Mx.str [] = ⟨#[]⟩ from rfl] at C3
      clear g1 g2 hs
      have B4 := Lib.hid (B3.out.trans (hB.out.mono B3.out.size))
      have S4 := Lib.hid ((SO.out.below hB.out).more hB.out.size)
      go_wp2_with fail
      refine (C3.out _ (HE.out.below B4.out) S4.out).mono ?_; rintro e w5 ⟨v5, rfl, hv5, hb⟩
      have B5 := Lib.hid (B4.out.trans (hb.mono B4.out.size))
      obtain ⟨P5, d5, rfl, hs5⟩ := hv5.sl
      rw [HNO.out]
      have S5 := Lib.hid ((hs5.below (heap_new_b w5 (.cells #[.int .i64 0, .string ⟨#[]⟩, .int .i64 0, .int .i64 0] 27) _ (Nat.le_refl _))).more (by simp : w5.heap.size ≤ (w5.alloc (.cells #[.int .i64 0, .string ⟨#[]⟩, .int .i64 0, .int .i64 0] 27)).heap.size))
      have S4 := Lib.hid ((S4.out.below (hb.alloc hb.size (.cells #[.int .i64 0, .string ⟨#[]⟩, .int .i64 0, .int .i64 0] 27))).more (by have := hb.size; simp; omega : wr.heap.size ≤ (w5.alloc (.cells #[.int .i64 0, .string ⟨#[]⟩, .int .i64 0, .int .i64 0] 27)).heap.size))
      have B6 := Lib.hid (B5.out.alloc B5.out.size (.cells #[.int .i64 0, .string ⟨#[]⟩, .int .i64 0, .int .i64 0] 27))
      clear hb hs5 hv5
      go_wp2_with fail
      refine (requal_any' P2 P5 d2 d5 _ _ O _ HNO.out.symm HNO.out.symm S4.out S5.out (by have := HNO.out; omega)).mono ?_; rintro e w6 ⟨rfl, hb⟩
      have B7 := Lib.hid (B6.out.trans (hb.mono B6.out.size))
      clear hb
      go_wp2_with fail
      refine (HAW.out _ (HE.out.below B7.out)).mono ?_; rintro e w9 ⟨rfl, hb⟩
      go_wp2_with fail
      go_ret
      exact ⟨rfl, B7.out.trans (hb.mono B7.out.size)⟩
end Go.Proofs.YtnhcjgnohnedaaaGreatDoor
