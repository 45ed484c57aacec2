/-
  The walk of MacroAgain: it returns true at any tokens.
  The walk of MacroOwn: it returns true at any tokens and names.
-/
import Derived.Test.YtnhcjgnohnedaaaGreatDoorMxRe
import Derived.Test.YtnhcjgnohnedaaaGreatDoorMxPc
import Derived.Test.YtnhcjgnohnedaaaGreatDoorLxBa
import Derived.Test.YtnhcjgnohnedaaaGreatDoorLrH
namespace Go.Proofs.YtnhcjgnohnedaaaGreatDoor
open Go.RowKit

/-- A token that is valid fits. -/
theorem fit_ok {x : Tv} (h : x.ok = true) : x.fit := by
  have hx : Tv.of ⟨⟨x.k, x.t.data.toList, x.p, x.q⟩, x.a, x.c⟩ = x := by
    unfold Tv.of
    rw [← ba_list x.t]
  have := of_fit (t := ⟨⟨x.k, x.t.data.toList, x.p, x.q⟩, x.a, x.c⟩) h
  rwa [hx] at this
namespace Mx
theorem out_ok (l : List Tv) : ∀ t ∈ expandO l, t.ok = true := by
  intro t ht
  cases hok : l.all Tv.ok with
  | false => rw [(expand_arg hok).1] at ht; cases ht
  | true =>
    cases he : expanded l with
    | bad f => rw [(expand_bad hok he).1] at ht; cases ht
    | ok u s =>
      rw [(expand_ok hok he).1] at ht
      exact (Z.done_top (List.all_eq_true.1 hok) he).1.out.1 t ht
theorem out_len (l : List Tv) : (expandO l).length ≤ 20000 := by
  cases hok : l.all Tv.ok with
  | false => rw [(expand_arg hok).1]; simp
  | true =>
    cases he : expanded l with
    | bad f => rw [(expand_bad hok he).1]; simp
    | ok u s =>
      rw [(expand_ok hok he).1]
      exact (Z.done_top (List.all_eq_true.1 hok) he).1.out.2
theorem again_nil : expandF [] = noFlt ∧ expandO [] = [] := ⟨by kernel_rfl, by kernel_rfl⟩
theorem again_exp (l : List Tv) (hlen : (expandO l).length ≤ 20000) (hn : ∀ t ∈ expandO l, t.k = 0 → t.t.data.toList ∉ Lx.wds) : expandF (expandO l) = noFlt ∧ expandO (expandO l) = expandO l := by
  cases hok : l.all Tv.ok with
  | false => rw [(expand_arg hok).1]; exact again_nil
  | true =>
    cases he : expanded l with
    | bad f => rw [(expand_bad hok he).1]; exact again_nil
    | ok u s =>
      have hout := out_ok l
      rw [(expand_ok hok he).1] at hlen hn hout ⊢
      obtain ⟨s2, h2, h3⟩ := Z.again (List.all_eq_true.1 hok) he hlen hn
      have := expand_ok (List.all_eq_true.2 hout) h2
      exact ⟨this.2, by rw [this.1, h3]⟩
end Mx
set_option maxRecDepth 100000 in
set_option maxHeartbeats 8000000 in
theorem magain_any (A : Option Addr) (c : Nat) (l : List Tv) (w : World) (he : EnvL w) (h1 : TokSl w w.heap.size A l) (_ : A = none → c = 0 ∧ l = []) (hc : l.length ≤ c) (hl : l.length ≤ 9223372036854775807) (hf : ∀ x ∈ l, x.fit) :
    Calls Tryz.prog 5 #[.slice A l.length c] w fun e w' => e = .returned (.bool true) ∧ Below w.heap.size w w' := by
  have HE := Lib.hid he
  have HAW := Lib.hid (fun W (hW : EnvL W) => mawake_any W hW)
  have C1 := Lib.hid (mfew_any A c l w h1 hl)
  have C2 := Lib.hid (fun W (hW : EnvL W) (hs : TokSl W W.heap.size A l) => expand_any A c l W hW hs hc hl hf)
  have HG := Lib.hid (Mx.again_exp l)
  have HOK := Lib.hid (Mx.out_ok l)
  have H1 := Lib.hid h1
  obtain ⟨O, hO⟩ : ∃ O, O = Mx.expandO l := ⟨_, rfl⟩
  obtain ⟨⟨fc, fn, fl, fo⟩, hF⟩ : ∃ f, f = Mx.expandF l := ⟨_, rfl⟩
  rw [← hO, ← hF] at C2
  rw [← hO] at HG HOK
  obtain ⟨n, hn⟩ : ∃ n, n = l.length := ⟨_, rfl⟩
  rw [← hn] at C1 C2 ⊢
  unfold Mx.Flt.agg at C2
  dsimp only at C2
  obtain ⟨n2, hn2⟩ : ∃ n2, n2 = O.length := ⟨_, rfl⟩
  have HNO := Lib.hid hn2.symm
  clear he h1 hf hl hc hO hF hn hn2
  go_enter Tryz.func5, Tryz.ntmps5
  go_wp2_with fail
  refine C1.out.mono ?_; rintro e w1 ⟨⟨b1, rfl, hn⟩, hb⟩
  have B1 := Lib.hid hb
  have hz1 := hb.size
  clear hb hn
  cases b1
  case false =>
    go_wp2_with fail
    refine (HAW.out _ (HE.out.below B1.out)).mono ?_; rintro e w9 ⟨rfl, hb⟩
    go_wp2_with fail
    go_ret
    exact ⟨rfl, B1.out.trans (hb.mono B1.out.size)⟩
  have S1 := Lib.hid (H1.out.below B1.out)
  go_wp2_with fail
  refine (C2.out _ (HE.out.below B1.out) (S1.out.more hz1)).mono ?_; rintro e w2 ⟨v2, rfl, hv2, hb⟩
  have B2 := Lib.hid (B1.out.trans (hb.mono B1.out.size))
  obtain ⟨P2, d2, rfl, hs2⟩ := hv2.sl
  have hcap : O.length ≤ d2 := by
    obtain ⟨A', c', e1, -, e3, -⟩ := Mx.TokOwn.fix (X := fun _ => False) hv2 (fun _ _ h => h) (fun p hp => fit_ok (HOK.out p hp))
    injection e1 with e1 e2 e3'
    omega
  rw [HNO.out] at hcap ⊢
  have SO := Lib.hid (hs2.below (heap_new_b w2 (.cells #[.int .i64 fc, .string fn, .int .i64 fl, .int .i64 fo] 27) _ (Nat.le_refl _)))
  have B3 := Lib.hid (B2.out.alloc B2.out.size (.cells #[.int .i64 fc, .string fn, .int .i64 fl, .int .i64 fo] 27))
  have K1 := Lib.hid (heap_alloc_new w2 (.cells #[.int .i64 fc, .string fn, .int .i64 fl, .int .i64 fo] 27))
  have hz2 := B2.out.size
  clear hb hs2 hv2
  by_cases hfc : fc = 0
  case neg =>
    have e0 : (fc != 0) = true := by simpa using hfc
    clear hfc
    go_wp2_with fail
    refine (HAW.out _ (HE.out.below B3.out)).mono ?_; rintro e w9 ⟨rfl, hb⟩
    go_wp2_with fail
    go_ret
    exact ⟨rfl, B3.out.trans (hb.mono B3.out.size)⟩
  subst hfc
  by_cases h2000 : 2000 < n2
  case pos =>
    have e0 : decide ((2000 : Int) < (n2 : Int)) = true := decide_eq_true (by omega)
    go_wp2_with fail
    refine (HAW.out _ (HE.out.below B3.out)).mono ?_; rintro e w9 ⟨rfl, hb⟩
    go_wp2_with fail
    go_ret
    exact ⟨rfl, B3.out.trans (hb.mono B3.out.size)⟩
  go_wp2_with fail
  obtain ⟨W3, hW3⟩ : ∃ W3, w2.alloc (.cells #[.int .i64 0, .string fn, .int .i64 fl, .int .i64 fo] 27) = W3 := ⟨_, rfl⟩
  have hz3 : W3.heap.size = w2.heap.size + 1 := by rw [← hW3]; simp
  rw [hW3] at SO B3 K1 ⊢
  clear hW3 K1
  have SO : Hid (TokSl W3 W3.heap.size P2 O) := Lib.hid (SO.out.more (by omega))
  go_loopw [29] (fun v wr => ∃ k : Nat, v = .int .i64 k ∧ k ≤ n2 ∧ Hid (∀ (i : Nat) (x : Tv), i < k → O[i]? = some x → x.k = 0 → x.t.data.toList ∉ Lx.wds) ∧ Hid (Below W3.heap.size W3 wr)) (fun v _ => n2 - (intOf v).toNat)
  case atStart => exact ⟨0, rfl, by omega, fun i x h => by omega, Below.refl _ _⟩
  case round =>
    obtain ⟨k, rfl, hk, hs, hB⟩ := hrel
    by_cases hlt : k < n2
    · obtain ⟨ad1, rfl, hb1, at1⟩ := SO.out (by rw [HNO.out]; omega); have hx : O[k]? = some (O[k]'(by rw [HNO.out]; exact hlt)) := List.getElem?_eq_getElem _; generalize O[k]'(by rw [HNO.out]; exact hlt) = x at hx; have tx := (at1 k x hx).below hB.out (by rw [block_of_add]; exact hb1); have g1 := block_of_add ad1 (k * 6); obtain ⟨⟨xb, xo, xs⟩, hE1⟩ : ∃ E, ad1.add (k * 6) = E := ⟨_, rfl⟩; rw [hE1] at tx g1; obtain ⟨x0, x1, x2, x3, x4, x5⟩ := tx; simp only at x0 x1 x2 x3 x4 x5 g1; have hsz := hB.out.size; have hxb : xb < wr.heap.size := (by omega); have hk0 : (0 : Int) ≤ (k : Int) := (by omega); have hk1 : (k : Int) < (n2 : Int) := (by omega); have HX := Lib.hid hx; clear at1 g1 hb1 hx
      by_cases k0 : x.k = 0
      · have e0 : (x.k == 0) = true := by simpa using k0
        have HW := Lib.hid (fun W => rword_any x.t W)
        obtain ⟨r, hr⟩ : ∃ r, r = decide (x.t.data.toList ∈ Lx.wds) := ⟨_, rfl⟩
        rw [← hr] at HW
        have HR := Lib.hid hr
        have K0 := Lib.hid k0
        clear hr k0
        go_wp2_with fail
        refine (HW.out _).mono ?_; rintro e w4 ⟨rfl, hb⟩
        have B4 := Lib.hid ((hB.out.alloc hsz (.cells #[.int .i64 x.k, .string x.t, .int .i64 x.p, .int .i64 x.q, .int .i64 x.a, .int .i64 x.c] 41)).trans (hb.mono (by simp; omega)))
        clear hb x0 x1 x2 x3 x4 x5
        cases r
        case true =>
          go_wp2_with fail
          have B5 := Lib.hid (B3.out.trans (B4.out.mono B3.out.size))
          refine (HAW.out _ (HE.out.below B5.out)).mono ?_; rintro e w9 ⟨rfl, hb⟩
          go_wp2_with fail
          go_ret
          exact ⟨rfl, B5.out.trans (hb.mono B5.out.size)⟩
        case false =>
          go_wp2_with fail
          go_roundw
          case rel =>
            refine ⟨k + 1, by go_num, by omega, ?_, B4⟩
            refine Lib.hid (fun i u hi hu => ?_)
            by_cases e : i = k
            · subst e; rw [HX.out] at hu; injection hu with hu; subst hu; exact fun _ => of_decide_eq_false HR.out.symm
            · exact hs.out i u (by omega) hu
          case measure => simp [intOf]; omega
      · have e0 : (x.k == 0) = false := by simpa using k0
        have K0 := Lib.hid k0
        clear k0
        go_wp2_with fail
        go_roundw
        case rel =>
          refine ⟨k + 1, by go_num, by omega, ?_, Lib.hid (hB.out.alloc hsz _)⟩
          refine Lib.hid (fun i u hi hu => ?_)
          by_cases e : i = k
          · subst e; rw [HX.out] at hu; injection hu with hu; subst hu; exact fun h => absurd h K0.out
          · exact hs.out i u (by omega) hu
        case measure => simp [intOf]; omega
    · have hkn : k = n2 := by omega
      subst hkn
      obtain ⟨g1, g2⟩ := HG.out (by have := HNO.out; omega) (fun t ht => by
        obtain ⟨i, hi, rfl⟩ := List.getElem_of_mem ht
        have := HNO.out
        exact hs.out i _ (by omega) (List.getElem?_eq_getElem hi))
      have C3 := Lib.hid (fun W (hW : EnvL W) (hs : TokSl W W.heap.size P2 O) => expand_any P2 d2 O W hW hs (by have := HNO.out; omega) (by have := HNO.out; omega) (fun t ht => fit_ok (HOK.out t ht)))
      rw [g1, g2] at C3
      rw [HNO.out] at C3
      simp only [Mx.Flt.agg, Mx.noFlt, show Mx.str [] = ⟨#[]⟩ from rfl] at C3
      clear g1 g2 hs
      have B4 := Lib.hid (B3.out.trans (hB.out.mono B3.out.size))
      have S4 := Lib.hid ((SO.out.below hB.out).more hB.out.size)
      go_wp2_with fail
      refine (C3.out _ (HE.out.below B4.out) S4.out).mono ?_; rintro e w5 ⟨v5, rfl, hv5, hb⟩
      have B5 := Lib.hid (B4.out.trans (hb.mono B4.out.size))
      obtain ⟨P5, d5, rfl, hs5⟩ := hv5.sl
      rw [HNO.out]
      have S5 := Lib.hid ((hs5.below (heap_new_b w5 (.cells #[.int .i64 0, .string ⟨#[]⟩, .int .i64 0, .int .i64 0] 27) _ (Nat.le_refl _))).more (by simp : w5.heap.size ≤ (w5.alloc (.cells #[.int .i64 0, .string ⟨#[]⟩, .int .i64 0, .int .i64 0] 27)).heap.size))
      have S4 := Lib.hid ((S4.out.below (hb.alloc hb.size (.cells #[.int .i64 0, .string ⟨#[]⟩, .int .i64 0, .int .i64 0] 27))).more (by have := hb.size; simp; omega : wr.heap.size ≤ (w5.alloc (.cells #[.int .i64 0, .string ⟨#[]⟩, .int .i64 0, .int .i64 0] 27)).heap.size))
      have B6 := Lib.hid (B5.out.alloc B5.out.size (.cells #[.int .i64 0, .string ⟨#[]⟩, .int .i64 0, .int .i64 0] 27))
      clear hb hs5 hv5
      go_wp2_with fail
      refine (requal_any' P2 P5 d2 d5 _ _ O _ HNO.out.symm HNO.out.symm S4.out S5.out (by have := HNO.out; omega)).mono ?_; rintro e w6 ⟨rfl, hb⟩
      have B7 := Lib.hid (B6.out.trans (hb.mono B6.out.size))
      clear hb
      go_wp2_with fail
      refine (HAW.out _ (HE.out.below B7.out)).mono ?_; rintro e w9 ⟨rfl, hb⟩
      go_wp2_with fail
      go_ret
      exact ⟨rfl, B7.out.trans (hb.mono B7.out.size)⟩
end Go.Proofs.YtnhcjgnohnedaaaGreatDoor

namespace Go.Proofs.YtnhcjgnohnedaaaGreatDoor
open Go.RowKit

/-- Rename of any tokens and names: a slice of the call's own. -/
theorem rename_all (A : Option Addr) (c : Nat) (l : List Tv) (a b : ByteArray) (w : World) (he : EnvL w) (h1 : TokSl w w.heap.size A l) (hA : A = none → c = 0 ∧ l = []) (hl : l.length ≤ 250) (hf : ∀ x ∈ l, x.fit) (ha : a.size ≤ maxLen) (hb : b.size ≤ maxLen) :
    Calls Tryz.prog 16 #[.slice A l.length c, .string a, .string b] w fun e w' => ∃ v R er, e = .returned (.tuple #[v, .int .i64 er]) ∧ TokOwn w' w.heap.size v R ∧ R.length ≤ 250 ∧ Below w.heap.size w w' := by
  cases hok : Mx.renOk l a b with
  | true =>
    refine (rename_ok A c l a b w he h1 hA (by omega) hf ha hb hok).mono ?_
    rintro e w' ⟨v, h1, h2, h3⟩
    exact ⟨v, _, 0, h1, h2, by rw [List.length_map]; exact hl, h3⟩
  | false =>
    refine (rename_bad A c l a b w he h1 (by omega) hf ha hb hok).mono ?_
    rintro e w' ⟨h1, h3⟩
    exact ⟨_, [], 2, h1, World.ownsRow_nil _ _ _ _, by simp, h3⟩
theorem own_empty (w : World) : TokOwn (w.alloc (.cells #[] 41)) w.heap.size (.slice (some ⟨w.heap.size, 0, none⟩) 0 0) [] := ⟨rfl, .inr ⟨w.heap.size, 0, #[], rfl, Nat.le_refl _, heap_alloc_new w _, Nat.le_refl _, by unfold maxLen; omega, rfl, rfl⟩⟩
theorem own_more {w : World} {B B' : Nat} {v : Value} {l : List Tv} (h : TokOwn w B v l) (hB : B' ≤ B) : TokOwn w B' v l := ⟨h.1, h.2.imp id (fun ⟨g, cap, cur, e, h1, h2⟩ => ⟨g, cap, cur, e, Nat.le_trans hB h1, h2⟩)⟩
theorem own_all {w : World} {B : Nat} {v : Value} {l : List Tv} (h : TokOwn w B v l) : ∃ A c, v = .slice A l.length c ∧ TokSl w w.heap.size A l ∧ (A = none → c = 0 ∧ l = []) ∧ l.length ≤ c := by
  obtain ⟨A, c, hv, hs⟩ := h.sl
  refine ⟨A, c, hv, hs, ?_⟩
  rcases h.2 with ⟨e, h0⟩ | ⟨g, cap, cur, e, hB, hg, hn, hc, -, ht⟩
  · rw [hv] at e; injection e with e1 e2 e3
    exact ⟨(fun _ => ⟨e3, List.eq_nil_of_length_eq_zero h0⟩), by omega⟩
  · rw [hv] at e; injection e with e1 e2 e3
    exact ⟨(fun e => by rw [e1] at e; cases e), by omega⟩
set_option maxRecDepth 100000 in
set_option maxHeartbeats 8000000 in
theorem mown_any (A : Option Addr) (c : Nat) (l : List Tv) (a b : ByteArray) (w : World) (he : EnvL w) (h1 : TokSl w w.heap.size A l) (hA : A = none → c = 0 ∧ l = []) (_ : l.length ≤ c) (hl : l.length ≤ 9223372036854775807) (hf : ∀ x ∈ l, x.fit) (ha : a.size ≤ maxLen) (hb : b.size ≤ maxLen) :
    Calls Tryz.prog 8 #[.slice A l.length c, .string a, .string b] w fun e w' => e = .returned (.bool true) ∧ Below w.heap.size w w' := by
  have HE := Lib.hid he
  have HAW := Lib.hid (fun W (hW : EnvL W) => mawake_any W hW)
  have C1 := Lib.hid (mfew_any A c l w h1 hl)
  have C2 := Lib.hid (fun (A' : Option Addr) (c' : Nat) W (hW : EnvL W) (hs : TokSl W W.heap.size A' l) (hc : l.length ≤ c') => expand_any A' c' l W hW hs hc hl hf)
  have C3 := Lib.hid (fun (A' : Option Addr) (c' : Nat) W (hW : EnvL W) (hs : TokSl W W.heap.size A' l) (hA' : A' = none → c' = 0 ∧ l = []) (hn : l.length ≤ 250) => rename_all A' c' l a b W hW hs hA' hn hf ha hb)
  have C4 := Lib.hid (fun (A' : Option Addr) (c' : Nat) W (hW : EnvL W) (hs : TokSl W W.heap.size A' l) (hc : l.length ≤ c') => macros_any A' c' l W hW hs hc hl hf)
  have HOL := Lib.hid (Mx.out_len l)
  have HFIT := Lib.hid hf
  have H1 := Lib.hid h1
  have HA := Lib.hid hA
  obtain ⟨O, hO⟩ : ∃ O, O = Mx.expandO l := ⟨_, rfl⟩
  obtain ⟨⟨fc, fn, fl, fo⟩, hF⟩ : ∃ f, f = Mx.expandF l := ⟨_, rfl⟩
  rw [← hO, ← hF] at C2
  rw [← hF] at C4
  rw [← hO] at HOL
  obtain ⟨n, hn⟩ : ∃ n, n = l.length := ⟨_, rfl⟩
  rw [← hn] at C1 C2 C3 C4 ⊢
  unfold Mx.Flt.agg at C2 C4
  dsimp only at C2 C4
  have HN := Lib.hid hn
  obtain ⟨n2, hn2⟩ : ∃ n2, n2 = O.length := ⟨_, rfl⟩
  have HNO := Lib.hid hn2.symm
  clear he h1 hf hl hA hO hF hn hn2 ha hb
  go_enter Tryz.func8, Tryz.ntmps8
  go_wp2_with fail
  refine C1.out.mono ?_; rintro e w1 ⟨⟨b1, rfl, hn⟩, hb⟩
  have B1 := Lib.hid hb
  have hz1 := hb.size
  clear hb
  cases b1
  case false =>
    clear hn
    go_wp2_with fail
    refine (HAW.out _ (HE.out.below B1.out)).mono ?_; rintro e w9 ⟨rfl, hb⟩
    go_wp2_with fail
    go_ret
    exact ⟨rfl, B1.out.trans (hb.mono B1.out.size)⟩
  have hn4 := hn rfl
  clear hn
  go_wp2_with (at_builtin; refine wpList_append_toks rfl _ _ rfl w1.heap.size (.slice (some ⟨w1.heap.size, 0, none⟩) 0 0) [] l rfl (own_empty w1) w.heap.size c A (by rw [← HN.out]; rfl) HA.out ((H1.out.below B1.out).below ((Below.refl _ _).alloc hz1 _)) (by simp; have := HN.out; omega) (by simp) ?_; intro v7 w2 own7 gr7)
  rw [List.nil_append] at own7
  have B2 := Lib.hid (below_row ((B1.out.alloc hz1 (.cells #[] 41))) gr7 (fun k hk => by simp [Value.ownBlock] at hk; omega) (by simp; omega))
  obtain ⟨A7, c7, rfl, hs7, hA7, hc7⟩ := own_all own7
  have O7 := Lib.hid own7
  have HG7 := Lib.hid (fun k hk => (World.ownsRow.lt own7 k hk).2)
  rw [← HN.out] at HG7
  have S7 := Lib.hid hs7
  have HA7 := Lib.hid hA7
  rw [← HN.out] at hc7 ⊢
  clear own7 gr7 hs7 hA7
  go_wp2_with fail
  refine (C2.out A7 c7 _ (HE.out.below B2.out) S7.out hc7).mono ?_; rintro e w3 ⟨v8, rfl, hv8, hb3⟩
  have B3 := Lib.hid (B2.out.trans (hb3.mono B2.out.size))
  have O8 := Lib.hid hv8
  have D7 := Lib.hid hb3
  have XF : ∃ o : Obj, o = .cells #[.int .i64 fc, .string fn, .int .i64 fl, .int .i64 fo] 27 := ⟨_, rfl⟩
  obtain ⟨A8, c8, rfl, hs8, hA8, -⟩ := own_all hv8
  rw [HNO.out]
  have hz3 := hb3.size
  clear hv8 hb3 hs8 hA8 XF
  go_wp2_with fail
  have D7 := Lib.hid (D7.out.alloc D7.out.size (.cells #[.int .i64 fc, .string fn, .int .i64 fl, .int .i64 fo] 27))
  have D8 := Lib.hid ((Below.refl w3.heap.size w3).alloc (Nat.le_refl _) (.cells #[.int .i64 fc, .string fn, .int .i64 fl, .int .i64 fo] 27))
  have B3 := Lib.hid (B3.out.alloc B3.out.size (.cells #[.int .i64 fc, .string fn, .int .i64 fl, .int .i64 fo] 27))
  obtain ⟨W3, hW3⟩ : ∃ W3, w3.alloc (.cells #[.int .i64 fc, .string fn, .int .i64 fl, .int .i64 fo] 27) = W3 := ⟨_, rfl⟩
  rw [hW3] at D7 D8 B3 ⊢
  clear hW3
  have hzW3 := D7.out.size
  refine (C3.out A7 c7 _ (HE.out.below B3.out) ((S7.out.below D7.out).more D7.out.size) HA7.out hn4).mono ?_; rintro e w4 ⟨v10, R, er, rfl, hv10, hR, hb4⟩
  have B4 := Lib.hid (B3.out.trans (hb4.mono B3.out.size))
  have D7 := Lib.hid (D7.out.trans (hb4.mono D7.out.size))
  have D8 := Lib.hid (D8.out.trans (hb4.mono D8.out.size))
  have O10 := Lib.hid (own_more hv10 hzW3)
  obtain ⟨A10, c10, rfl, -, hA10, -⟩ := own_all hv10
  obtain ⟨n3, hn3⟩ : ∃ n3, n3 = R.length := ⟨_, rfl⟩
  rw [← hn3]
  have HNR := Lib.hid hn3.symm
  have HRL := Lib.hid hR
  clear hv10 hb4 hR hA10 hn3
  go_wp2_with fail
  refine (C4.out A7 c7 _ (HE.out.below B4.out) ((S7.out.below D7.out).more D7.out.size) hc7).mono ?_; rintro e w5 ⟨v5, L5, rfl, -, -, hb5⟩
  have B5 := Lib.hid (B4.out.trans (hb5.mono B4.out.size))
  have D7 := Lib.hid (D7.out.trans (hb5.mono D7.out.size))
  have D8 := Lib.hid (D8.out.trans (hb5.mono D8.out.size))
  have D10 := Lib.hid hb5
  clear hb5
  go_wp2_with fail
  refine (requal_any' A7 A c7 c n n l _ HN.out HN.out ((S7.out.below D7.out).more D7.out.size) ((H1.out.below B5.out).more B5.out.size) (by have := HN.out; omega)).mono ?_; rintro e w6 ⟨rfl, hb6⟩
  have B6 := Lib.hid (B5.out.trans (hb6.mono B5.out.size))
  have D7 := Lib.hid (D7.out.trans (hb6.mono D7.out.size))
  have D8 := Lib.hid (D8.out.trans (hb6.mono D8.out.size))
  have D10 := Lib.hid (D10.out.trans (hb6.mono D10.out.size))
  have O7 := Lib.hid (O7.out.below D7.out)
  have O8 := Lib.hid (O8.out.below D8.out)
  have O10 := Lib.hid (O10.out.below D10.out)
  have hz6 := D7.out.size
  clear hb6 D7 D8 D10 B2 B3 B4 B5 S7 HA7
  obtain ⟨A8', c8', e8, hs8, hA8, -⟩ := own_all O8.out
  injection e8 with e8a e8b e8c
  subst e8a e8c
  obtain ⟨A10', c10', e10, hs10, hA10, -⟩ := own_all O10.out
  injection e10 with e10a e10b e10c
  subst e10a e10c
  clear e8b e10b
  have S8 := Lib.hid hs8
  have S10 := Lib.hid hs10
  have HA8 := Lib.hid hA8
  have HA10 := Lib.hid hA10
  clear hs8 hs10 hA8 hA10
  have h1 : O.length ≤ 1000000 := by have := HOL.out; omega
  have h2 : R.length ≤ 1000000 := by have := HRL.out; omega
  go_wp2_with (at_builtin; refine wpList_append_toks rfl _ _ rfl w6.heap.size (.slice (some ⟨w6.heap.size, 0, none⟩) 0 0) [] O rfl (own_empty w6) w6.heap.size c8 A8 (by rw [HNO.out]; rfl) HA8.out (S8.out.below ((Below.refl _ _).alloc (Nat.le_refl _) _)) (by simp; omega) (by simp) ?_)
  intro v12 w7 own12 gr12
  try rw [List.nil_append] at own12
  have gb12 : Below w6.heap.size w6 w7 := below_row ((Below.refl _ _).alloc (Nat.le_refl _) (.cells #[] 41)) gr12 (fun k hk => by simp [Value.ownBlock] at hk; omega) (by simp)
  have hz7 := gb12.size
  have S10 := Lib.hid (S10.out.below gb12)
  have O12 := Lib.hid own12
  have G12 := Lib.hid gb12
  clear own12 gr12 gb12
  go_wp2_with (at_builtin; refine wpList_append_toks rfl _ _ rfl w7.heap.size (.slice (some ⟨w7.heap.size, 0, none⟩) 0 0) [] R rfl (own_empty w7) w6.heap.size c10 A10 (by rw [HNR.out]; rfl) HA10.out (S10.out.below ((Below.refl _ _).alloc (by omega) _)) (by simp; omega) (by simp) ?_)
  intro v13 w8 own13 gr13
  try rw [List.nil_append] at own13
  have gb13 : Below w7.heap.size w7 w8 := below_row ((Below.refl _ _).alloc (Nat.le_refl _) (.cells #[] 41)) gr13 (fun k hk => by simp [Value.ownBlock] at hk; omega) (by simp)
  have hz8 := gb13.size
  have O12 := Lib.hid (O12.out.below gb13)
  have G13 := Lib.hid (G12.out.trans (gb13.mono hz7))
  have O13 := Lib.hid (own_more own13 hz7)
  have O7 := Lib.hid (O7.out.below G13.out)
  have O8 := Lib.hid (O8.out.below G13.out)
  have O10 := Lib.hid (O10.out.below G13.out)
  have B8 := Lib.hid (B6.out.trans (G13.out.mono B6.out.size))
  obtain ⟨A12, c12, rfl, -⟩ := own_all O12.out
  obtain ⟨A13, c13, rfl, -⟩ := own_all O13.out
  rw [HNO.out, HNR.out]
  clear own13 gr13 gb13 G12 G13 S8 S10 HA8 HA10 B6
  go_wp2_with fail
  have O7 : Hid (w8.ownsRow w1.heap.size 41 6 (.slice A7 n c7) n (rowV l)) := by have h := O7.out; unfold TokOwn at h; rw [← HN.out] at h; exact h
  go_loopw [48] (fun v wr => ∃ (k : Nat) (xs : List Value), v = .int .i64 k ∧ k ≤ n ∧ Hid (wr.ownsRow w1.heap.size 41 6 (.slice A7 n c7) n xs) ∧ Hid (w8.grownBy wr (Value.slice A7 n c7).ownBlock)) (fun v _ => n - (intOf v).toNat)
  case atStart => exact ⟨0, rowV l, rfl, by omega, O7, grown_refl _ _⟩
  case round =>
    obtain ⟨k, xs, rfl, hk, hr, hG⟩ := hrel
    by_cases hlt : k < n
    · obtain ⟨g, rfl, hgB⟩ : ∃ g, A7 = some ⟨g, 0, none⟩ ∧ w1.heap.size ≤ g := by
        rcases hr.out.2 with ⟨e, h0⟩ | ⟨g, cap, cur, e, hg, -⟩
        · omega
        · injection e with e1; exact ⟨g, e1, hg⟩
      have hfz : ∀ r, wr.frozen? ⟨g, r, none⟩ = false := by
        intro r
        obtain ⟨cur, hc⟩ := Mx.row_ty hr.out (k := g) rfl
        simp [World.frozen?, hc]
      have hgl : g < wr.heap.size := by
        obtain ⟨cur, hc⟩ := Mx.row_ty hr.out (k := g) rfl
        exact (Array.getElem?_eq_some_iff.1 hc).1
      have hcell : ∀ r, r < 6 → ∃ u, wr.cell? ⟨g, k * 6 + r, none⟩ = some u := fun r hr6 => by
        rw [World.ownsRow.cellAt hr.out (k * 6 + r) (by omega)]
        have hl := hr.out.1
        exact ⟨_, List.getElem?_eq_getElem (by omega)⟩
      obtain ⟨y0, q0⟩ := hcell 0 (by omega)
      rw [Nat.add_zero] at q0
      obtain ⟨y1, q1⟩ := hcell 1 (by omega)
      obtain ⟨y2, q2⟩ := hcell 2 (by omega)
      obtain ⟨y3, q3⟩ := hcell 3 (by omega)
      obtain ⟨y4, q4⟩ := hcell 4 (by omega)
      obtain ⟨y5, q5⟩ := hcell 5 (by omega)
      have f0 := hfz (k * 6)
      have f1 := hfz (k * 6 + 1)
      have f2 := hfz (k * 6 + 2)
      have f3 := hfz (k * 6 + 3)
      have f4 := hfz (k * 6 + 4)
      have f5 := hfz (k * 6 + 5)
      have hk0 : (0 : Int) ≤ (k : Int) := by omega
      have hk1 : (k : Int) < (n : Int) := by omega
      clear hcell hfz
      go_wp2_with fail
      have s0 := hr.out.stored (k * 6) (.int .i64 4)
      have s1 := s0.1.stored (k * 6 + 1) (.string ⟨#[59]⟩)
      have s2 := s1.1.stored (k * 6 + 2) (.int .i64 0)
      have s3 := s2.1.stored (k * 6 + 3) (.int .i64 0)
      have s4 := s3.1.stored (k * 6 + 4) (.int .i64 0)
      have s5 := s4.1.stored (k * 6 + 5) (.int .i64 0)
      have hg8 : w8.grownBy wr (some g) := hG.out
      exact ⟨⟨k + 1, _, by go_num, by omega, Lib.hid s5.1, Lib.hid (grown_trans hg8 (grown_trans s0.2 (grown_trans s1.2 (grown_trans s2.2 (grown_trans s3.2 (grown_trans s4.2 s5.2))))))⟩, by simp [intOf]; omega⟩
    · have hkn : k = n := by omega
      subst hkn
      have keepo : ∀ (B' : Nat) (v : Value) (L : List Tv), w2.heap.size ≤ B' → TokOwn w8 B' v L → TokOwn wr B' v L := fun B' v L hB h => Mx.row_keep h (fun i hi => by
        obtain ⟨h1, h2⟩ := World.ownsRow.lt h i hi
        exact hG.out.block i h2 (fun e => by have := HG7.out i e.symm; omega))
      have O8 := keepo _ _ _ (Nat.le_refl _) O8.out
      have O10 := keepo _ _ _ (Nat.le_refl _) O10.out
      have O12 := keepo _ _ _ hz6 O12.out
      have O13 := keepo _ _ _ hz6 O13.out
      have B9 := Lib.hid (below_row B8.out hG.out (fun i hi => by have := (World.ownsRow.lt O7.out i hi).1; omega) B8.out.size)
      obtain ⟨A8', c8', e8, S8, -, -⟩ := own_all O8
      injection e8 with e8a e8b e8c
      subst e8a e8c
      obtain ⟨A10', c10', e10, S10, -, -⟩ := own_all O10
      injection e10 with e10a e10b e10c
      subst e10a e10c
      obtain ⟨A12', c12', e12, S12, -, -⟩ := own_all O12
      injection e12 with e12a e12b e12c
      subst e12a e12c
      obtain ⟨A13', c13', e13, S13, -, -⟩ := own_all O13
      injection e13 with e13a e13b e13c
      subst e13a e13c
      have S8 := Lib.hid S8
      have S10 := Lib.hid S10
      have S12 := Lib.hid S12
      have S13 := Lib.hid S13
      clear keepo hr hG O8 O10 O12 O13 e8b e10b e12b e13b
      go_wp2_with fail
      refine (requal_any' A8 A12 c8 c12 _ _ O _ HNO.out.symm HNO.out.symm S8.out S12.out (by omega)).mono ?_; rintro e w9 ⟨rfl, hb9⟩
      have B10 := Lib.hid (B9.out.trans (hb9.mono B9.out.size))
      have S10 := Lib.hid ((S10.out.below hb9).more hb9.size)
      have S13 := Lib.hid ((S13.out.below hb9).more hb9.size)
      clear hb9
      go_wp2_with fail
      refine (requal_any' A10 A13 c10 c13 _ _ R _ HNR.out.symm HNR.out.symm S10.out S13.out (by omega)).mono ?_; rintro e w10 ⟨rfl, hb10⟩
      have B11 := Lib.hid (B10.out.trans (hb10.mono B10.out.size))
      clear hb10
      go_wp2_with fail
      refine (HAW.out _ (HE.out.below B11.out)).mono ?_; rintro e w11 ⟨rfl, hb⟩
      go_wp2_with fail
      go_ret
      exact ⟨rfl, B11.out.trans (hb.mono B11.out.size)⟩
end Go.Proofs.YtnhcjgnohnedaaaGreatDoor
