/-
  The walk of MacroAgain: it returns true at any tokens.
  The walk of MacroOwn: it returns true at any tokens and names.
  MacroPlain: what the law's own loop asks, as a plain function, and that it is what the mathematics asks.
  Contract of the law's own saves.
  The walk of MacroPlain: it returns true at any tokens.
-/
import Derived.Test.YtnhcjgnohnedaaaGreatDoorMxRe
import Derived.Test.YtnhcjgnohnedaaaGreatDoorMxPc
import Derived.Test.YtnhcjgnohnedaaaGreatDoorLxBa
import Derived.Test.YtnhcjgnohnedaaaGreatDoorLrH
namespace Go.Proofs.YtnhcjgnohnedaaaGreatDoor
open Go.RowKit

/-- A token that is valid fits. -/
theorem fit_ok {x : Tv} (h : x.ok = true) : x.fit := by
  have hx : Tv.of ⟨⟨x.k, x.t.data.toList, x.p, x.q⟩, x.a, x.c⟩ = x := by
    unfold Tv.of
    rw [← ba_list x.t]
  have := of_fit (t := ⟨⟨x.k, x.t.data.toList, x.p, x.q⟩, x.a, x.c⟩) h
  rwa [hx] at this
namespace Mx
theorem out_ok (l : List Tv) : ∀ t ∈ expandO l, t.ok = true := by
  intro t ht
  cases hok : l.all Tv.ok with
  | false => rw [(expand_arg hok).1] at ht; cases ht
  | true =>
    cases he : expanded l with
    | bad f => rw [(expand_bad hok he).1] at ht; cases ht
    | ok u s =>
      rw [(expand_ok hok he).1] at ht
      exact (Z.done_top (List.all_eq_true.1 hok) he).1.out.1 t ht
theorem out_len (l : List Tv) : (expandO l).length ≤ 20000 := by
  cases hok : l.all Tv.ok with
  | false => rw [(expand_arg hok).1]; simp
  | true =>
    cases he : expanded l with
    | bad f => rw [(expand_bad hok he).1]; simp
    | ok u s =>
      rw [(expand_ok hok he).1]
      exact (Z.done_top (List.all_eq_true.1 hok) he).1.out.2
theorem again_nil : expandF [] = noFlt ∧ expandO [] = [] := ⟨by kernel_rfl, by kernel_rfl⟩
theorem again_exp (l : List Tv) (hlen : (expandO l).length ≤ 20000) (hn : ∀ t ∈ expandO l, t.k = 0 → t.t.data.toList ∉ Lx.wds) : expandF (expandO l) = noFlt ∧ expandO (expandO l) = expandO l := by
  cases hok : l.all Tv.ok with
  | false => rw [(expand_arg hok).1]; exact again_nil
  | true =>
    cases he : expanded l with
    | bad f => rw [(expand_bad hok he).1]; exact again_nil
    | ok u s =>
      have hout := out_ok l
      rw [(expand_ok hok he).1] at hlen hn hout ⊢
      obtain ⟨s2, h2, h3⟩ := Z.again (List.all_eq_true.1 hok) he hlen hn
      have := expand_ok (List.all_eq_true.2 hout) h2
      exact ⟨this.2, by rw [this.1, h3]⟩
end Mx
set_option maxRecDepth 100000 in
set_option maxHeartbeats 8000000 in
theorem magain_any (A : Option Addr) (c : Nat) (l : List Tv) (w : World) (he : EnvL w) (h1 : TokSl w w.heap.size A l) (_ : A = none → c = 0 ∧ l = []) (hc : l.length ≤ c) (hl : l.length ≤ 9223372036854775807) (hf : ∀ x ∈ l, x.fit) :
    Calls Tryz.prog 5 #[.slice A l.length c] w fun e w' => e = .returned (.bool true) ∧ Below w.heap.size w w' := by
  have HE := Lib.hid he
  have HAW := Lib.hid (fun W (hW : EnvL W) => mawake_any W hW)
  have C1 := Lib.hid (mfew_any A c l w h1 hl)
  have C2 := Lib.hid (fun W (hW : EnvL W) (hs : TokSl W W.heap.size A l) => expand_any A c l W hW hs hc hl hf)
  have HG := Lib.hid (Mx.again_exp l)
  have HOK := Lib.hid (Mx.out_ok l)
  have H1 := Lib.hid h1
  obtain ⟨O, hO⟩ : ∃ O, O = Mx.expandO l := ⟨_, rfl⟩
  obtain ⟨⟨fc, fn, fl, fo⟩, hF⟩ : ∃ f, f = Mx.expandF l := ⟨_, rfl⟩
  rw [← hO, ← hF] at C2
  rw [← hO] at HG HOK
  obtain ⟨n, hn⟩ : ∃ n, n = l.length := ⟨_, rfl⟩
  rw [← hn] at C1 C2 ⊢
  unfold Mx.Flt.agg at C2
  dsimp only at C2
  obtain ⟨n2, hn2⟩ : ∃ n2, n2 = O.length := ⟨_, rfl⟩
  have HNO := Lib.hid hn2.symm
  clear he h1 hf hl hc hO hF hn hn2
  go_enter Tryz.func5, Tryz.ntmps5
  go_wp2_with fail
  refine C1.out.mono ?_; rintro e w1 ⟨⟨b1, rfl, hn⟩, hb⟩
  have B1 := Lib.hid hb
  have hz1 := hb.size
  clear hb hn
  cases b1
  case false =>
    go_wp2_with fail
    refine (HAW.out _ (HE.out.below B1.out)).mono ?_; rintro e w9 ⟨rfl, hb⟩
    go_wp2_with fail
    go_ret
    exact ⟨rfl, B1.out.trans (hb.mono B1.out.size)⟩
  have S1 := Lib.hid (H1.out.below B1.out)
  go_wp2_with fail
  refine (C2.out _ (HE.out.below B1.out) (S1.out.more hz1)).mono ?_; rintro e w2 ⟨v2, rfl, hv2, hb⟩
  have B2 := Lib.hid (B1.out.trans (hb.mono B1.out.size))
  obtain ⟨P2, d2, rfl, hs2⟩ := hv2.sl
  have hcap : O.length ≤ d2 := by
    obtain ⟨A', c', e1, -, e3, -⟩ := Mx.TokOwn.fix (X := fun _ => False) hv2 (fun _ _ h => h) (fun p hp => fit_ok (HOK.out p hp))
    injection e1 with e1 e2 e3'
    omega
  rw [HNO.out] at hcap ⊢
  have SO := Lib.hid (hs2.below (heap_new_b w2 (.cells #[.int .i64 fc, .string fn, .int .i64 fl, .int .i64 fo] 27) _ (Nat.le_refl _)))
  have B3 := Lib.hid (B2.out.alloc B2.out.size (.cells #[.int .i64 fc, .string fn, .int .i64 fl, .int .i64 fo] 27))
  have K1 := Lib.hid (heap_alloc_new w2 (.cells #[.int .i64 fc, .string fn, .int .i64 fl, .int .i64 fo] 27))
  have hz2 := B2.out.size
  clear hb hs2 hv2
  by_cases hfc : fc = 0
  case neg =>
    have e0 : (fc != 0) = true := by simpa using hfc
    clear hfc
    go_wp2_with fail
    refine (HAW.out _ (HE.out.below B3.out)).mono ?_; rintro e w9 ⟨rfl, hb⟩
    go_wp2_with fail
    go_ret
    exact ⟨rfl, B3.out.trans (hb.mono B3.out.size)⟩
  subst hfc
  by_cases h2000 : 2000 < n2
  case pos =>
    have e0 : decide ((2000 : Int) < (n2 : Int)) = true := decide_eq_true (by omega)
    go_wp2_with fail
    refine (HAW.out _ (HE.out.below B3.out)).mono ?_; rintro e w9 ⟨rfl, hb⟩
    go_wp2_with fail
    go_ret
    exact ⟨rfl, B3.out.trans (hb.mono B3.out.size)⟩
  go_wp2_with fail
  obtain ⟨W3, hW3⟩ : ∃ W3, w2.alloc (.cells #[.int .i64 0, .string fn, .int .i64 fl, .int .i64 fo] 27) = W3 := ⟨_, rfl⟩
  have hz3 : W3.heap.size = w2.heap.size + 1 := by rw [← hW3]; simp
  rw [hW3] at SO B3 K1 ⊢
  clear hW3 K1
  have SO : Hid (TokSl W3 W3.heap.size P2 O) := Lib.hid (SO.out.more (by omega))
  go_loopw [29] (fun v wr => ∃ k : Nat, v = .int .i64 k ∧ k ≤ n2 ∧ Hid (∀ (i : Nat) (x : Tv), i < k → O[i]? = some x → x.k = 0 → x.t.data.toList ∉ Lx.wds) ∧ Hid (Below W3.heap.size W3 wr)) (fun v _ => n2 - (intOf v).toNat)
  case atStart => exact ⟨0, rfl, by omega, fun i x h => by omega, Below.refl _ _⟩
  case round =>
    obtain ⟨k, rfl, hk, hs, hB⟩ := hrel
    by_cases hlt : k < n2
    · obtain ⟨ad1, rfl, hb1, at1⟩ := SO.out (by rw [HNO.out]; omega); have hx : O[k]? = some (O[k]'(by rw [HNO.out]; exact hlt)) := List.getElem?_eq_getElem _; generalize O[k]'(by rw [HNO.out]; exact hlt) = x at hx; have tx := (at1 k x hx).below hB.out (by rw [block_of_add]; exact hb1); have g1 := block_of_add ad1 (k * 6); obtain ⟨⟨xb, xo, xs⟩, hE1⟩ : ∃ E, ad1.add (k * 6) = E := ⟨_, rfl⟩; rw [hE1] at tx g1; obtain ⟨x0, x1, x2, x3, x4, x5⟩ := tx; simp only at x0 x1 x2 x3 x4 x5 g1; have hsz := hB.out.size; have hxb : xb < wr.heap.size := (by omega); have hk0 : (0 : Int) ≤ (k : Int) := (by omega); have hk1 : (k : Int) < (n2 : Int) := (by omega); have HX := Lib.hid hx; clear at1 g1 hb1 hx
      by_cases k0 : x.k = 0
      · have e0 : (x.k == 0) = true := by simpa using k0
        have HW := Lib.hid (fun W => rword_any x.t W)
        obtain ⟨r, hr⟩ : ∃ r, r = decide (x.t.data.toList ∈ Lx.wds) := ⟨_, rfl⟩
        rw [← hr] at HW
        have HR := Lib.hid hr
        have K0 := Lib.hid k0
        clear hr k0
        go_wp2_with fail
        refine (HW.out _).mono ?_; rintro e w4 ⟨rfl, hb⟩
        have B4 := Lib.hid ((hB.out.alloc hsz (.cells #[.int .i64 x.k, .string x.t, .int .i64 x.p, .int .i64 x.q, .int .i64 x.a, .int .i64 x.c] 41)).trans (hb.mono (by simp; omega)))
        clear hb x0 x1 x2 x3 x4 x5
        cases r
        case true =>
          go_wp2_with fail
          have B5 := Lib.hid (B3.out.trans (B4.out.mono B3.out.size))
          refine (HAW.out _ (HE.out.below B5.out)).mono ?_; rintro e w9 ⟨rfl, hb⟩
          go_wp2_with fail
          go_ret
          exact ⟨rfl, B5.out.trans (hb.mono B5.out.size)⟩
        case false =>
          go_wp2_with fail
          go_roundw
          case rel =>
            refine ⟨k + 1, by go_num, by omega, ?_, B4⟩
            refine Lib.hid (fun i u hi hu => ?_)
            by_cases e : i = k
            · subst e; rw [HX.out] at hu; injection hu with hu; subst hu; exact fun _ => of_decide_eq_false HR.out.symm
            · exact hs.out i u (by omega) hu
          case measure => simp [intOf]; omega
      · have e0 : (x.k == 0) = false := by simpa using k0
        have K0 := Lib.hid k0
        clear k0
        go_wp2_with fail
        go_roundw
        case rel =>
          refine ⟨k + 1, by go_num, by omega, ?_, Lib.hid (hB.out.alloc hsz _)⟩
          refine Lib.hid (fun i u hi hu => ?_)
          by_cases e : i = k
          · subst e; rw [HX.out] at hu; injection hu with hu; subst hu; exact fun h => absurd h K0.out
          · exact hs.out i u (by omega) hu
        case measure => simp [intOf]; omega
    · have hkn : k = n2 := by omega
      subst hkn
      obtain ⟨g1, g2⟩ := HG.out (by have := HNO.out; omega) (fun t ht => by
        obtain ⟨i, hi, rfl⟩ := List.getElem_of_mem ht
        have := HNO.out
        exact hs.out i _ (by omega) (List.getElem?_eq_getElem hi))
      have C3 := Lib.hid (fun W (hW : EnvL W) (hs : TokSl W W.heap.size P2 O) => expand_any P2 d2 O W hW hs (by have := HNO.out; omega) (by have := HNO.out; omega) (fun t ht => fit_ok (HOK.out t ht)))
      rw [g1, g2] at C3
      rw [HNO.out] at C3
      simp only [Mx.Flt.agg, Mx.noFlt, show Mx.str [] = ⟨#[]⟩ from rfl] at C3
      clear g1 g2 hs
      have B4 := Lib.hid (B3.out.trans (hB.out.mono B3.out.size))
      have S4 := Lib.hid ((SO.out.below hB.out).more hB.out.size)
      go_wp2_with fail
      refine (C3.out _ (HE.out.below B4.out) S4.out).mono ?_; rintro e w5 ⟨v5, rfl, hv5, hb⟩
      have B5 := Lib.hid (B4.out.trans (hb.mono B4.out.size))
      obtain ⟨P5, d5, rfl, hs5⟩ := hv5.sl
      rw [HNO.out]
      have S5 := Lib.hid ((hs5.below (heap_new_b w5 (.cells #[.int .i64 0, .string ⟨#[]⟩, .int .i64 0, .int .i64 0] 27) _ (Nat.le_refl _))).more (by simp : w5.heap.size ≤ (w5.alloc (.cells #[.int .i64 0, .string ⟨#[]⟩, .int .i64 0, .int .i64 0] 27)).heap.size))
      have S4 := Lib.hid ((S4.out.below (hb.alloc hb.size (.cells #[.int .i64 0, .string ⟨#[]⟩, .int .i64 0, .int .i64 0] 27))).more (by have := hb.size; simp; omega : wr.heap.size ≤ (w5.alloc (.cells #[.int .i64 0, .string ⟨#[]⟩, .int .i64 0, .int .i64 0] 27)).heap.size))
      have B6 := Lib.hid (B5.out.alloc B5.out.size (.cells #[.int .i64 0, .string ⟨#[]⟩, .int .i64 0, .int .i64 0] 27))
      clear hb hs5 hv5
      go_wp2_with fail
      refine (requal_any' P2 P5 d2 d5 _ _ O _ HNO.out.symm HNO.out.symm S4.out S5.out (by have := HNO.out; omega)).mono ?_; rintro e w6 ⟨rfl, hb⟩
      have B7 := Lib.hid (B6.out.trans (hb.mono B6.out.size))
      clear hb
      go_wp2_with fail
      refine (HAW.out _ (HE.out.below B7.out)).mono ?_; rintro e w9 ⟨rfl, hb⟩
      go_wp2_with fail
      go_ret
      exact ⟨rfl, B7.out.trans (hb.mono B7.out.size)⟩
end Go.Proofs.YtnhcjgnohnedaaaGreatDoor

namespace Go.Proofs.YtnhcjgnohnedaaaGreatDoor
open Go.RowKit

/-- Rename of any tokens and names: a slice of the call's own. -/
theorem rename_all (A : Option Addr) (c : Nat) (l : List Tv) (a b : ByteArray) (w : World) (he : EnvL w) (h1 : TokSl w w.heap.size A l) (hA : A = none → c = 0 ∧ l = []) (hl : l.length ≤ 250) (hf : ∀ x ∈ l, x.fit) (ha : a.size ≤ maxLen) (hb : b.size ≤ maxLen) :
    Calls Tryz.prog 16 #[.slice A l.length c, .string a, .string b] w fun e w' => ∃ v R er, e = .returned (.tuple #[v, .int .i64 er]) ∧ TokOwn w' w.heap.size v R ∧ R.length ≤ 250 ∧ Below w.heap.size w w' := by
  cases hok : Mx.renOk l a b with
  | true =>
    refine (rename_ok A c l a b w he h1 hA (by omega) hf ha hb hok).mono ?_
    rintro e w' ⟨v, h1, h2, h3⟩
    exact ⟨v, _, 0, h1, h2, by rw [List.length_map]; exact hl, h3⟩
  | false =>
    refine (rename_bad A c l a b w he h1 (by omega) hf ha hb hok).mono ?_
    rintro e w' ⟨h1, h3⟩
    exact ⟨_, [], 2, h1, World.ownsRow_nil _ _ _ _, by simp, h3⟩
theorem own_empty (w : World) : TokOwn (w.alloc (.cells #[] 41)) w.heap.size (.slice (some ⟨w.heap.size, 0, none⟩) 0 0) [] := ⟨rfl, .inr ⟨w.heap.size, 0, #[], rfl, Nat.le_refl _, heap_alloc_new w _, Nat.le_refl _, by unfold maxLen; omega, rfl, rfl⟩⟩
theorem own_more {w : World} {B B' : Nat} {v : Value} {l : List Tv} (h : TokOwn w B v l) (hB : B' ≤ B) : TokOwn w B' v l := ⟨h.1, h.2.imp id (fun ⟨g, cap, cur, e, h1, h2⟩ => ⟨g, cap, cur, e, Nat.le_trans hB h1, h2⟩)⟩
theorem own_all {w : World} {B : Nat} {v : Value} {l : List Tv} (h : TokOwn w B v l) : ∃ A c, v = .slice A l.length c ∧ TokSl w w.heap.size A l ∧ (A = none → c = 0 ∧ l = []) ∧ l.length ≤ c := by
  obtain ⟨A, c, hv, hs⟩ := h.sl
  refine ⟨A, c, hv, hs, ?_⟩
  rcases h.2 with ⟨e, h0⟩ | ⟨g, cap, cur, e, hB, hg, hn, hc, -, ht⟩
  · rw [hv] at e; injection e with e1 e2 e3
    exact ⟨(fun _ => ⟨e3, List.eq_nil_of_length_eq_zero h0⟩), by omega⟩
  · rw [hv] at e; injection e with e1 e2 e3
    exact ⟨(fun e => by rw [e1] at e; cases e), by omega⟩
set_option maxRecDepth 100000 in
set_option maxHeartbeats 8000000 in
theorem mown_any (A : Option Addr) (c : Nat) (l : List Tv) (a b : ByteArray) (w : World) (he : EnvL w) (h1 : TokSl w w.heap.size A l) (hA : A = none → c = 0 ∧ l = []) (_ : l.length ≤ c) (hl : l.length ≤ 9223372036854775807) (hf : ∀ x ∈ l, x.fit) (ha : a.size ≤ maxLen) (hb : b.size ≤ maxLen) :
    Calls Tryz.prog 8 #[.slice A l.length c, .string a, .string b] w fun e w' => e = .returned (.bool true) ∧ Below w.heap.size w w' := by
  have HE := Lib.hid he
  have HAW := Lib.hid (fun W (hW : EnvL W) => mawake_any W hW)
  have C1 := Lib.hid (mfew_any A c l w h1 hl)
  have C2 := Lib.hid (fun (A' : Option Addr) (c' : Nat) W (hW : EnvL W) (hs : TokSl W W.heap.size A' l) (hc : l.length ≤ c') => expand_any A' c' l W hW hs hc hl hf)
  have C3 := Lib.hid (fun (A' : Option Addr) (c' : Nat) W (hW : EnvL W) (hs : TokSl W W.heap.size A' l) (hA' : A' = none → c' = 0 ∧ l = []) (hn : l.length ≤ 250) => rename_all A' c' l a b W hW hs hA' hn hf ha hb)
  have C4 := Lib.hid (fun (A' : Option Addr) (c' : Nat) W (hW : EnvL W) (hs : TokSl W W.heap.size A' l) (hc : l.length ≤ c') => macros_any A' c' l W hW hs hc hl hf)
  have HOL := Lib.hid (Mx.out_len l)
  have HFIT := Lib.hid hf
  have H1 := Lib.hid h1
  have HA := Lib.hid hA
  obtain ⟨O, hO⟩ : ∃ O, O = Mx.expandO l := ⟨_, rfl⟩
  obtain ⟨⟨fc, fn, fl, fo⟩, hF⟩ : ∃ f, f = Mx.expandF l := ⟨_, rfl⟩
  rw [← hO, ← hF] at C2
  rw [← hF] at C4
  rw [← hO] at HOL
  obtain ⟨n, hn⟩ : ∃ n, n = l.length := ⟨_, rfl⟩
  rw [← hn] at C1 C2 C3 C4 ⊢
  unfold Mx.Flt.agg at C2 C4
  dsimp only at C2 C4
  have HN := Lib.hid hn
  obtain ⟨n2, hn2⟩ : ∃ n2, n2 = O.length := ⟨_, rfl⟩
  have HNO := Lib.hid hn2.symm
  clear he h1 hf hl hA hO hF hn hn2 ha hb
  go_enter Tryz.func8, Tryz.ntmps8
  go_wp2_with fail
  refine C1.out.mono ?_; rintro e w1 ⟨⟨b1, rfl, hn⟩, hb⟩
  have B1 := Lib.hid hb
  have hz1 := hb.size
  clear hb
  cases b1
  case false =>
    clear hn
    go_wp2_with fail
    refine (HAW.out _ (HE.out.below B1.out)).mono ?_; rintro e w9 ⟨rfl, hb⟩
    go_wp2_with fail
    go_ret
    exact ⟨rfl, B1.out.trans (hb.mono B1.out.size)⟩
  have hn4 := hn rfl
  clear hn
  go_wp2_with (at_builtin; refine wpList_append_toks rfl _ _ rfl w1.heap.size (.slice (some ⟨w1.heap.size, 0, none⟩) 0 0) [] l rfl (own_empty w1) w.heap.size c A (by rw [← HN.out]; rfl) HA.out ((H1.out.below B1.out).below ((Below.refl _ _).alloc hz1 _)) (by simp; have := HN.out; omega) (by simp) ?_; intro v7 w2 own7 gr7)
  rw [List.nil_append] at own7
  have B2 := Lib.hid (below_row ((B1.out.alloc hz1 (.cells #[] 41))) gr7 (fun k hk => by simp [Value.ownBlock] at hk; omega) (by simp; omega))
  obtain ⟨A7, c7, rfl, hs7, hA7, hc7⟩ := own_all own7
  have O7 := Lib.hid own7
  have HG7 := Lib.hid (fun k hk => (World.ownsRow.lt own7 k hk).2)
  rw [← HN.out] at HG7
  have S7 := Lib.hid hs7
  have HA7 := Lib.hid hA7
  rw [← HN.out] at hc7 ⊢
  clear own7 gr7 hs7 hA7
  go_wp2_with fail
  refine (C2.out A7 c7 _ (HE.out.below B2.out) S7.out hc7).mono ?_; rintro e w3 ⟨v8, rfl, hv8, hb3⟩
  have B3 := Lib.hid (B2.out.trans (hb3.mono B2.out.size))
  have O8 := Lib.hid hv8
  have D7 := Lib.hid hb3
  have XF : ∃ o : Obj, o = .cells #[.int .i64 fc, .string fn, .int .i64 fl, .int .i64 fo] 27 := ⟨_, rfl⟩
  obtain ⟨A8, c8, rfl, hs8, hA8, -⟩ := own_all hv8
  rw [HNO.out]
  have hz3 := hb3.size
  clear hv8 hb3 hs8 hA8 XF
  go_wp2_with fail
  have D7 := Lib.hid (D7.out.alloc D7.out.size (.cells #[.int .i64 fc, .string fn, .int .i64 fl, .int .i64 fo] 27))
  have D8 := Lib.hid ((Below.refl w3.heap.size w3).alloc (Nat.le_refl _) (.cells #[.int .i64 fc, .string fn, .int .i64 fl, .int .i64 fo] 27))
  have B3 := Lib.hid (B3.out.alloc B3.out.size (.cells #[.int .i64 fc, .string fn, .int .i64 fl, .int .i64 fo] 27))
  obtain ⟨W3, hW3⟩ : ∃ W3, w3.alloc (.cells #[.int .i64 fc, .string fn, .int .i64 fl, .int .i64 fo] 27) = W3 := ⟨_, rfl⟩
  rw [hW3] at D7 D8 B3 ⊢
  clear hW3
  have hzW3 := D7.out.size
  refine (C3.out A7 c7 _ (HE.out.below B3.out) ((S7.out.below D7.out).more D7.out.size) HA7.out hn4).mono ?_; rintro e w4 ⟨v10, R, er, rfl, hv10, hR, hb4⟩
  have B4 := Lib.hid (B3.out.trans (hb4.mono B3.out.size))
  have D7 := Lib.hid (D7.out.trans (hb4.mono D7.out.size))
  have D8 := Lib.hid (D8.out.trans (hb4.mono D8.out.size))
  have O10 := Lib.hid (own_more hv10 hzW3)
  obtain ⟨A10, c10, rfl, -, hA10, -⟩ := own_all hv10
  obtain ⟨n3, hn3⟩ : ∃ n3, n3 = R.length := ⟨_, rfl⟩
  rw [← hn3]
  have HNR := Lib.hid hn3.symm
  have HRL := Lib.hid hR
  clear hv10 hb4 hR hA10 hn3
  go_wp2_with fail
  refine (C4.out A7 c7 _ (HE.out.below B4.out) ((S7.out.below D7.out).more D7.out.size) hc7).mono ?_; rintro e w5 ⟨v5, L5, rfl, -, -, hb5⟩
  have B5 := Lib.hid (B4.out.trans (hb5.mono B4.out.size))
  have D7 := Lib.hid (D7.out.trans (hb5.mono D7.out.size))
  have D8 := Lib.hid (D8.out.trans (hb5.mono D8.out.size))
  have D10 := Lib.hid hb5
  clear hb5
  go_wp2_with fail
  refine (requal_any' A7 A c7 c n n l _ HN.out HN.out ((S7.out.below D7.out).more D7.out.size) ((H1.out.below B5.out).more B5.out.size) (by have := HN.out; omega)).mono ?_; rintro e w6 ⟨rfl, hb6⟩
  have B6 := Lib.hid (B5.out.trans (hb6.mono B5.out.size))
  have D7 := Lib.hid (D7.out.trans (hb6.mono D7.out.size))
  have D8 := Lib.hid (D8.out.trans (hb6.mono D8.out.size))
  have D10 := Lib.hid (D10.out.trans (hb6.mono D10.out.size))
  have O7 := Lib.hid (O7.out.below D7.out)
  have O8 := Lib.hid (O8.out.below D8.out)
  have O10 := Lib.hid (O10.out.below D10.out)
  have hz6 := D7.out.size
  clear hb6 D7 D8 D10 B2 B3 B4 B5 S7 HA7
  obtain ⟨A8', c8', e8, hs8, hA8, -⟩ := own_all O8.out
  injection e8 with e8a e8b e8c
  subst e8a e8c
  obtain ⟨A10', c10', e10, hs10, hA10, -⟩ := own_all O10.out
  injection e10 with e10a e10b e10c
  subst e10a e10c
  clear e8b e10b
  have S8 := Lib.hid hs8
  have S10 := Lib.hid hs10
  have HA8 := Lib.hid hA8
  have HA10 := Lib.hid hA10
  clear hs8 hs10 hA8 hA10
  have h1 : O.length ≤ 1000000 := by have := HOL.out; omega
  have h2 : R.length ≤ 1000000 := by have := HRL.out; omega
  go_wp2_with (at_builtin; refine wpList_append_toks rfl _ _ rfl w6.heap.size (.slice (some ⟨w6.heap.size, 0, none⟩) 0 0) [] O rfl (own_empty w6) w6.heap.size c8 A8 (by rw [HNO.out]; rfl) HA8.out (S8.out.below ((Below.refl _ _).alloc (Nat.le_refl _) _)) (by simp; omega) (by simp) ?_)
  intro v12 w7 own12 gr12
  try rw [List.nil_append] at own12
  have gb12 : Below w6.heap.size w6 w7 := below_row ((Below.refl _ _).alloc (Nat.le_refl _) (.cells #[] 41)) gr12 (fun k hk => by simp [Value.ownBlock] at hk; omega) (by simp)
  have hz7 := gb12.size
  have S10 := Lib.hid (S10.out.below gb12)
  have O12 := Lib.hid own12
  have G12 := Lib.hid gb12
  clear own12 gr12 gb12
  go_wp2_with (at_builtin; refine wpList_append_toks rfl _ _ rfl w7.heap.size (.slice (some ⟨w7.heap.size, 0, none⟩) 0 0) [] R rfl (own_empty w7) w6.heap.size c10 A10 (by rw [HNR.out]; rfl) HA10.out (S10.out.below ((Below.refl _ _).alloc (by omega) _)) (by simp; omega) (by simp) ?_)
  intro v13 w8 own13 gr13
  try rw [List.nil_append] at own13
  have gb13 : Below w7.heap.size w7 w8 := below_row ((Below.refl _ _).alloc (Nat.le_refl _) (.cells #[] 41)) gr13 (fun k hk => by simp [Value.ownBlock] at hk; omega) (by simp)
  have hz8 := gb13.size
  have O12 := Lib.hid (O12.out.below gb13)
  have G13 := Lib.hid (G12.out.trans (gb13.mono hz7))
  have O13 := Lib.hid (own_more own13 hz7)
  have O7 := Lib.hid (O7.out.below G13.out)
  have O8 := Lib.hid (O8.out.below G13.out)
  have O10 := Lib.hid (O10.out.below G13.out)
  have B8 := Lib.hid (B6.out.trans (G13.out.mono B6.out.size))
  obtain ⟨A12, c12, rfl, -⟩ := own_all O12.out
  obtain ⟨A13, c13, rfl, -⟩ := own_all O13.out
  rw [HNO.out, HNR.out]
  clear own13 gr13 gb13 G12 G13 S8 S10 HA8 HA10 B6
  go_wp2_with fail
  have O7 : Hid (w8.ownsRow w1.heap.size 41 6 (.slice A7 n c7) n (rowV l)) := by have h := O7.out; unfold TokOwn at h; rw [← HN.out] at h; exact h
  go_loopw [48] (fun v wr => ∃ (k : Nat) (xs : List Value), v = .int .i64 k ∧ k ≤ n ∧ Hid (wr.ownsRow w1.heap.size 41 6 (.slice A7 n c7) n xs) ∧ Hid (w8.grownBy wr (Value.slice A7 n c7).ownBlock)) (fun v _ => n - (intOf v).toNat)
  case atStart => exact ⟨0, rowV l, rfl, by omega, O7, grown_refl _ _⟩
  case round =>
    obtain ⟨k, xs, rfl, hk, hr, hG⟩ := hrel
    by_cases hlt : k < n
    · obtain ⟨g, rfl, hgB⟩ : ∃ g, A7 = some ⟨g, 0, none⟩ ∧ w1.heap.size ≤ g := by
        rcases hr.out.2 with ⟨e, h0⟩ | ⟨g, cap, cur, e, hg, -⟩
        · omega
        · injection e with e1; exact ⟨g, e1, hg⟩
      have hfz : ∀ r, wr.frozen? ⟨g, r, none⟩ = false := by
        intro r
        obtain ⟨cur, hc⟩ := Mx.row_ty hr.out (k := g) rfl
        simp [World.frozen?, hc]
      have hgl : g < wr.heap.size := by
        obtain ⟨cur, hc⟩ := Mx.row_ty hr.out (k := g) rfl
        exact (Array.getElem?_eq_some_iff.1 hc).1
      have hcell : ∀ r, r < 6 → ∃ u, wr.cell? ⟨g, k * 6 + r, none⟩ = some u := fun r hr6 => by
        rw [World.ownsRow.cellAt hr.out (k * 6 + r) (by omega)]
        have hl := hr.out.1
        exact ⟨_, List.getElem?_eq_getElem (by omega)⟩
      obtain ⟨y0, q0⟩ := hcell 0 (by omega)
      rw [Nat.add_zero] at q0
      obtain ⟨y1, q1⟩ := hcell 1 (by omega)
      obtain ⟨y2, q2⟩ := hcell 2 (by omega)
      obtain ⟨y3, q3⟩ := hcell 3 (by omega)
      obtain ⟨y4, q4⟩ := hcell 4 (by omega)
      obtain ⟨y5, q5⟩ := hcell 5 (by omega)
      have f0 := hfz (k * 6)
      have f1 := hfz (k * 6 + 1)
      have f2 := hfz (k * 6 + 2)
      have f3 := hfz (k * 6 + 3)
      have f4 := hfz (k * 6 + 4)
      have f5 := hfz (k * 6 + 5)
      have hk0 : (0 : Int) ≤ (k : Int) := by omega
      have hk1 : (k : Int) < (n : Int) := by omega
      clear hcell hfz
      go_wp2_with fail
      have s0 := hr.out.stored (k * 6) (.int .i64 4)
      have s1 := s0.1.stored (k * 6 + 1) (.string ⟨#[59]⟩)
      have s2 := s1.1.stored (k * 6 + 2) (.int .i64 0)
      have s3 := s2.1.stored (k * 6 + 3) (.int .i64 0)
      have s4 := s3.1.stored (k * 6 + 4) (.int .i64 0)
      have s5 := s4.1.stored (k * 6 + 5) (.int .i64 0)
      have hg8 : w8.grownBy wr (some g) := hG.out
      exact ⟨⟨k + 1, _, by go_num, by omega, Lib.hid s5.1, Lib.hid (grown_trans hg8 (grown_trans s0.2 (grown_trans s1.2 (grown_trans s2.2 (grown_trans s3.2 (grown_trans s4.2 s5.2))))))⟩, by simp [intOf]; omega⟩
    · have hkn : k = n := by omega
      subst hkn
      have keepo : ∀ (B' : Nat) (v : Value) (L : List Tv), w2.heap.size ≤ B' → TokOwn w8 B' v L → TokOwn wr B' v L := fun B' v L hB h => Mx.row_keep h (fun i hi => by
        obtain ⟨h1, h2⟩ := World.ownsRow.lt h i hi
        exact hG.out.block i h2 (fun e => by have := HG7.out i e.symm; omega))
      have O8 := keepo _ _ _ (Nat.le_refl _) O8.out
      have O10 := keepo _ _ _ (Nat.le_refl _) O10.out
      have O12 := keepo _ _ _ hz6 O12.out
      have O13 := keepo _ _ _ hz6 O13.out
      have B9 := Lib.hid (below_row B8.out hG.out (fun i hi => by have := (World.ownsRow.lt O7.out i hi).1; omega) B8.out.size)
      obtain ⟨A8', c8', e8, S8, -, -⟩ := own_all O8
      injection e8 with e8a e8b e8c
      subst e8a e8c
      obtain ⟨A10', c10', e10, S10, -, -⟩ := own_all O10
      injection e10 with e10a e10b e10c
      subst e10a e10c
      obtain ⟨A12', c12', e12, S12, -, -⟩ := own_all O12
      injection e12 with e12a e12b e12c
      subst e12a e12c
      obtain ⟨A13', c13', e13, S13, -, -⟩ := own_all O13
      injection e13 with e13a e13b e13c
      subst e13a e13c
      have S8 := Lib.hid S8
      have S10 := Lib.hid S10
      have S12 := Lib.hid S12
      have S13 := Lib.hid S13
      clear keepo hr hG O8 O10 O12 O13 e8b e10b e12b e13b
      go_wp2_with fail
      refine (requal_any' A8 A12 c8 c12 _ _ O _ HNO.out.symm HNO.out.symm S8.out S12.out (by omega)).mono ?_; rintro e w9 ⟨rfl, hb9⟩
      have B10 := Lib.hid (B9.out.trans (hb9.mono B9.out.size))
      have S10 := Lib.hid ((S10.out.below hb9).more hb9.size)
      have S13 := Lib.hid ((S13.out.below hb9).more hb9.size)
      clear hb9
      go_wp2_with fail
      refine (requal_any' A10 A13 c10 c13 _ _ R _ HNR.out.symm HNR.out.symm S10.out S13.out (by omega)).mono ?_; rintro e w10 ⟨rfl, hb10⟩
      have B11 := Lib.hid (B10.out.trans (hb10.mono B10.out.size))
      clear hb10
      go_wp2_with fail
      refine (HAW.out _ (HE.out.below B11.out)).mono ?_; rintro e w11 ⟨rfl, hb⟩
      go_wp2_with fail
      go_ret
      exact ⟨rfl, B11.out.trans (hb.mono B11.out.size)⟩
end Go.Proofs.YtnhcjgnohnedaaaGreatDoor

namespace Go.Proofs.YtnhcjgnohnedaaaGreatDoor
namespace Mx
namespace Z

/-- Tokens that begin with names, none of them a word, with commas between them. -/
def savesB : List Tv → Bool
  | [] => false
  | [t] => decide (t.k = 0) && !decide (t.t.data.toList ∈ Lx.wds)
  | t :: s :: r => (decide (t.k = 0) && !decide (t.t.data.toList ∈ Lx.wds)) && (if s.k = 4 ∧ s.t = str [44] then savesB r else true)
/-- The law's loop: how many groups are open behind the tokens; none: it gives up. -/
def lp : Nat → List Tv → Option Nat
  | d, [] => some d
  | d, t :: r =>
    if (norm t).k = 1 then
      if t.t = sDef ∨ t.t = sLet ∨ t.t = sEnddef then none
      else if t.t = sBegin then lp (d + 1) r
      else if t.t = sEnd then (if d = 0 then none else lp (d - 1) r)
      else if t.t = sSave then (if savesB r = true then lp d r else none)
      else lp d r
    else lp d r
theorem norm_t (t : Tv) : (norm t).t = t.t := by unfold norm; split <;> rfl
theorem norm_ne {t : Tv} (h : t.k ≠ 0) : norm t = t := by unfold norm; rw [if_neg (fun e => h e.1)]
def Cond : Nat → List Tv → Prop
  | 1, l => savesB l = true
  | 2, l => ∀ s r, l = s :: r → s.k = 4 ∧ s.t = str [44] → savesB r = true
  | _, _ => True
theorem saves_cons {t : Tv} {r : List Tv} (h : savesB (t :: r) = true) : t.k = 0 ∧ t.t.data.toList ∉ Lx.wds ∧ Cond 2 r := by
  cases r with
  | nil =>
    simp [savesB] at h
    exact ⟨h.1, h.2, fun s r e => by cases e⟩
  | cons s r =>
    rw [savesB, Bool.and_eq_true, Bool.and_eq_true] at h
    refine ⟨of_decide_eq_true h.1.1, by simpa using h.1.2, fun s' r' e hs => ?_⟩
    injection e with e1 e2
    subst e1 e2
    have := h.2
    rwa [if_pos hs] at this
theorem lp_acc : ∀ (l : List Tv) (d d' m : Nat), lp d l = some d' → Cond m l → m ≤ 2 → ∃ md, md ≠ 1 ∧ acc (d, m) (l.map norm) = some (d', md)
  | [], d, d', m, h, hc, hm => by
    injection h with h
    subst h
    refine ⟨m, ?_, rfl⟩
    intro e; subst e; simp [Cond, savesB] at hc
  | t :: r, d, d', m, h, hc, hm => by
    rw [List.map_cons, acc]
    by_cases m1 : m = 1
    · subst m1
      obtain ⟨h1, h2, h3⟩ := saves_cons hc
      have hn : norm t = t := by unfold norm; rw [if_neg (fun e => h2 e.2)]
      have hp : pstep (d, 1) t = some (d, 2) := by simp [pstep, h1]
      rw [hn, hp]
      rw [lp, hn, if_neg (by rw [h1]; decide)] at h
      exact lp_acc r d d' 2 h h3 (by omega)
    · rw [lp] at h
      by_cases hk : (norm t).k = 1
      · rw [if_pos hk] at h
        have hp : pstep (d, m) (norm t) = if t.t = sDef ∨ t.t = sLet ∨ t.t = sEnddef then none else if t.t = sBegin then some (d + 1, 0) else if t.t = sEnd then (if d = 0 then none else some (d - 1, 0)) else if t.t = sSave then some (d, 1) else some (d, 0) := by
          unfold pstep
          rw [if_neg m1, if_pos hk, norm_t]
        rw [hp]
        by_cases c1 : t.t = sDef ∨ t.t = sLet ∨ t.t = sEnddef
        · rw [if_pos c1] at h; cases h
        rw [if_neg c1] at h ⊢
        by_cases c2 : t.t = sBegin
        · rw [if_pos c2] at h ⊢
          exact lp_acc r (d + 1) d' 0 h trivial (by omega)
        rw [if_neg c2] at h ⊢
        by_cases c3 : t.t = sEnd
        · rw [if_pos c3] at h ⊢
          by_cases hd : d = 0
          · rw [if_pos hd] at h; cases h
          rw [if_neg hd] at h ⊢
          exact lp_acc r (d - 1) d' 0 h trivial (by omega)
        rw [if_neg c3] at h ⊢
        by_cases c4 : t.t = sSave
        · rw [if_pos c4] at h ⊢
          by_cases hs : savesB r = true
          · rw [if_pos hs] at h
            exact lp_acc r d d' 1 h hs (by omega)
          · rw [if_neg hs] at h; cases h
        rw [if_neg c4] at h ⊢
        exact lp_acc r d d' 0 h trivial (by omega)
      · rw [if_neg hk] at h
        by_cases hcm : m = 2 ∧ isSign (norm t) (str [44]) = true
        · have hp : pstep (d, m) (norm t) = some (d, 1) := by unfold pstep; rw [if_neg m1, if_neg hk, if_pos hcm]
          rw [hp]
          have hs := hcm.2
          unfold isSign at hs
          simp only [Bool.and_eq_true, beq_iff_eq, decide_eq_true_eq] at hs
          have hk4 : t.k = 4 := by
            by_cases h0 : t.k = 0
            · have : (norm t).k = 0 ∨ (norm t).k = 1 := by unfold norm; split <;> simp_all
              rcases this with e | e <;> rw [e] at hs <;> simp at hs
            · rw [norm_ne h0] at hs; exact hs.1
          have hc2 : Cond 2 (t :: r) := by rw [← hcm.1]; exact hc
          exact lp_acc r d d' 1 h (hc2 t r rfl ⟨hk4, by rw [← norm_t]; exact hs.2⟩) (by omega)
        · have hp : pstep (d, m) (norm t) = some (d, 0) := by unfold pstep; rw [if_neg m1, if_neg hk, if_neg hcm]
          rw [hp]
          exact lp_acc r d d' 0 h trivial (by omega)
theorem lp_done {l : List Tv} (hok : l.all Tv.ok = true) (hl : l.length ≤ 20000) (h : lp 0 l = some 0) : expandO l = l.map norm ∧ expandF l = noFlt := by
  obtain ⟨md, h1, h2⟩ := lp_acc l 0 0 0 h trivial (by omega)
  obtain ⟨s, h3, h4⟩ := plain_done hl h2 h1
  obtain ⟨h5, h6⟩ := expand_ok hok h3
  exact ⟨by rw [h5, h4], h6⟩
theorem lp_open {l : List Tv} {d : Nat} (hok : l.all Tv.ok = true) (hl : l.length ≤ 20000) (h : lp 0 l = some (d + 1)) : expandO l = [] ∧ (expandF l).code = 12 ∧ (expandF l).name = str [] := by
  obtain ⟨md, h1, h2⟩ := lp_acc l 0 (d + 1) 0 h trivial (by omega)
  obtain ⟨f, h3, h4, h5⟩ := plain_open hl h2 h1 (by omega)
  obtain ⟨h6, h7⟩ := expand_bad hok h3
  exact ⟨h6, by rw [h7]; exact h4, by rw [h7]; exact h5⟩
end Z
end Mx
end Go.Proofs.YtnhcjgnohnedaaaGreatDoor

namespace Go.Proofs.YtnhcjgnohnedaaaGreatDoor
open Go.RowKit

theorem drop_at {l : List Tv} {k : Nat} {x : Tv} (hx : l[k]? = some x) : l.drop k = x :: l.drop (k + 1) := by
  obtain ⟨hi, he⟩ := List.getElem?_eq_some_iff.1 hx
  rw [List.drop_eq_getElem_cons hi, he]
theorem comma_eq (t : ByteArray) : (t = Mx.str [44]) ↔ t.toList = [44] := by
  rw [Lib.toList_data]
  constructor
  · intro h; rw [h]; rfl
  · intro h; rw [ba_list t, h]; rfl
set_option maxRecDepth 100000 in
set_option maxHeartbeats 8000000 in
theorem msaves_any (A : Option Addr) (c : Nat) (l : List Tv) (w : World) (h1 : TokSl w w.heap.size A l) (hl : l.length ≤ 250) :
    Calls Tryz.prog 20 #[.slice A l.length c] w fun e w' => e = .returned (.bool (Mx.Z.savesB l)) ∧ Below w.heap.size w w' := by
  have H1 := Lib.hid h1
  obtain ⟨r, hr⟩ : ∃ r, r = Mx.Z.savesB l := ⟨_, rfl⟩
  rw [← hr]
  have HR := Lib.hid hr
  obtain ⟨n, hn⟩ : ∃ n, n = l.length := ⟨_, rfl⟩
  rw [← hn] at hl ⊢
  have HL := Lib.hid hn.symm
  clear h1 hr hn
  go_enter Tryz.func20, Tryz.ntmps20
  go_wp2_with fail
  go_loopw [3] (fun v wr => ∃ k : Nat, v = .int .i64 k ∧ k ≤ n ∧ Hid (Mx.Z.savesB (l.drop k) = r) ∧ Hid (Below w.heap.size w wr)) (fun v _ => n - (intOf v).toNat)
  case atStart => exact ⟨0, rfl, by omega, Lib.hid HR.out.symm, Below.refl _ _⟩
  case round =>
    obtain ⟨k, rfl, hk, hS, hB⟩ := hrel
    by_cases hlt : k < n
    case neg =>
      have hkn : k = n := by omega
      subst hkn
      have hr0 : r = false := by
        rw [← hS.out, List.drop_eq_nil_of_le (by have := HL.out; omega)]; rfl
      go_wp2_with fail
      go_ret
      exact ⟨by rw [hr0]; rfl, hB.out⟩
    case pos =>
      obtain ⟨ad1, hA1, hb1, at1⟩ := H1.out (by rw [HL.out]; omega); obtain rfl := hA1; have hx : l[k]? = some (l[k]'(by rw [HL.out]; exact hlt)) := List.getElem?_eq_getElem _; generalize l[k]'(by rw [HL.out]; exact hlt) = x at hx; have tx := (at1 k x hx).below hB.out (by rw [block_of_add]; exact hb1); have g1 := block_of_add ad1 (k * 6); obtain ⟨⟨xb, xo, xs⟩, hE1⟩ : ∃ E, ad1.add (k * 6) = E := ⟨_, rfl⟩; rw [hE1] at tx g1; obtain ⟨x0, x1, x2, x3, x4, x5⟩ := tx; simp only at x0 x1 x2 x3 x4 x5 g1; have hsz := hB.out.size; have hxb : xb < wr.heap.size := (by omega); have hk0 : (0 : Int) ≤ (k : Int) := (by omega); have hk1 : (k : Int) < (n : Int) := (by omega); have HX := Lib.hid hx; have HAT := Lib.hid at1; have HBL := Lib.hid hb1; clear at1 g1 hb1 hx
      by_cases k0 : x.k = 0
      case neg =>
        have e0 : (x.k != 0) = true := by simpa using k0
        have hr0 : r = false := by
          rw [← hS.out, drop_at HX.out]
          cases hd : l.drop (k + 1) with
          | nil => simp [Mx.Z.savesB, k0]
          | cons s q => simp [Mx.Z.savesB, k0]
        clear k0
        go_wp2_with fail
        go_ret
        exact ⟨by rw [hr0]; rfl, hB.out⟩
      case pos =>
        have e0 : (x.k != 0) = false := by simpa using k0
        have HW := Lib.hid (fun W => rword_any x.t W)
        obtain ⟨q, hq⟩ : ∃ q, q = decide (x.t.data.toList ∈ Lx.wds) := ⟨_, rfl⟩
        rw [← hq] at HW
        have HQ := Lib.hid hq
        have K0 := Lib.hid k0
        clear hq k0
        go_wp2_with fail
        refine (HW.out _).mono ?_; rintro e w4 ⟨rfl, hb⟩
        have B4 := Lib.hid (hB.out.trans (hb.mono hsz))
        clear hb x0 x1 x2 x3 x4 x5
        cases q
        case true =>
          have hr0 : r = false := by
            rw [← hS.out, drop_at HX.out]
            cases hd : l.drop (k + 1) with
            | nil => simp [Mx.Z.savesB, ← HQ.out]
            | cons s q => simp [Mx.Z.savesB, ← HQ.out]
          go_wp2_with fail
          go_ret
          exact ⟨by rw [hr0]; rfl, B4.out⟩
        case false =>
          by_cases hlt2 : k + 1 < n
          case neg =>
            have hr0 : r = true := by
              rw [← hS.out, drop_at HX.out, List.drop_eq_nil_of_le (by have := HL.out; omega)]
              simp [Mx.Z.savesB, ← HQ.out, K0.out]
            have hge : decide ((n : Int) ≤ (k : Int) + 1) = true := decide_eq_true (by omega)
            go_wp2_with fail
            go_ret
            exact ⟨by rw [hr0]; rfl, B4.out⟩
          case pos =>
            have hy : l[k + 1]? = some (l[k + 1]'(by rw [HL.out]; exact hlt2)) := List.getElem?_eq_getElem _
            generalize l[k + 1]'(by rw [HL.out]; exact hlt2) = y at hy
            have ty := (HAT.out (k + 1) y hy).below B4.out (by rw [block_of_add]; exact HBL.out)
            have HY := Lib.hid hy
            have hrr : r = (if y.k = 4 ∧ y.t = Mx.str [44] then Mx.Z.savesB (l.drop (k + 1 + 1)) else true) := by
              rw [← hS.out, drop_at HX.out, drop_at hy]
              simp [Mx.Z.savesB, ← HQ.out, K0.out]
            have HRR := Lib.hid hrr
            have hk2 : (0 : Int) ≤ (k : Int) + 1 := by omega
            have hk3 : (k : Int) + 1 < (n : Int) := by omega
            have hge : decide ((n : Int) ≤ (k : Int) + 1) = false := decide_eq_false (by omega)
            have hz4 := B4.out.size
            have g2 := block_of_add ad1 ((k + 1) * 6)
            obtain ⟨⟨yb, yo, ys⟩, hE2⟩ : ∃ E, ad1.add ((k + 1) * 6) = E := ⟨_, rfl⟩
            rw [hE2] at ty g2
            obtain ⟨y0, y1, y2, y3, y4, y5⟩ := ty
            simp only at y0 y1 y2 y3 y4 y5 g2
            have hkt : ((k : Int) + 1).toNat = k + 1 := by omega
            have hyb : yb < w4.heap.size := by have := HBL.out; omega
            clear hy hrr g2 hE1
            by_cases y4k : y.k = 4
            case neg =>
              have f0 : (y.k != 4) = true := by simpa using y4k
              have hr0 : r = true := by rw [HRR.out, if_neg (fun h => y4k h.1)]
              clear y4k
              go_wp2_with fail
              go_ret
              exact ⟨by rw [hr0]; rfl, B4.out⟩
            case pos =>
              have f0 : (y.k != 4) = false := by simpa using y4k
              by_cases hcm : y.t = Mx.str [44]
              case neg =>
                have hcl : ¬ y.t.toList = [44] := fun e => hcm ((comma_eq _).2 e)
                have f1 : (y.t.toList == [44]) = false := by simpa using hcl
                have f2 : (y.t.toList != [44]) = true := by simpa using hcl
                have hr0 : r = true := by rw [HRR.out, if_neg (fun h => hcm h.2)]
                clear y4k hcm hcl
                go_wp2_with fail
                go_ret
                exact ⟨by rw [hr0]; rfl, B4.out⟩
              case pos =>
                have hcl : y.t.toList = [44] := (comma_eq _).1 hcm
                have f1 : (y.t.toList == [44]) = true := by simpa using hcl
                have f2 : (y.t.toList != [44]) = false := by simpa using hcl
                have hr0 := Lib.hid (show Mx.Z.savesB (l.drop (k + 2)) = r by rw [HRR.out, if_pos ⟨y4k, hcm⟩])
                clear y4k hcm hcl
                go_wp2_with fail
                go_roundw
                case rel => exact ⟨k + 2, by go_num, by omega, hr0, B4⟩
                case measure => simp [intOf]; omega
end Go.Proofs.YtnhcjgnohnedaaaGreatDoor

namespace Go.Proofs.YtnhcjgnohnedaaaGreatDoor
open Go.RowKit

theorem toksl_new1 (W : World) (x : Tv) : TokSl (W.alloc (.cells #[.int .i64 x.k, .string x.t, .int .i64 x.p, .int .i64 x.q, .int .i64 x.a, .int .i64 x.c] 41)) (W.heap.size + 1) (some ⟨W.heap.size, 0, none⟩) [x] := by
  have h := toksl_one (x := x) (heap_alloc_new W (.cells #[.int .i64 x.k, .string x.t, .int .i64 x.p, .int .i64 x.q, .int .i64 x.a, .int .i64 x.c] 41))
  exact h.more (by simp)
theorem norm_take {l : List Tv} {i : Nat} {x : Tv} (hx : l[i]? = some x) : (l.take (i + 1)).map Mx.Z.norm = (l.take i).map Mx.Z.norm ++ [Mx.Z.norm x] := by
  obtain ⟨hi, he⟩ := List.getElem?_eq_some_iff.1 hx
  rw [List.take_succ_eq_append_getElem hi, he, List.map_append]; rfl
theorem str_iff (t : ByteArray) (L : List UInt8) : t = Mx.str L ↔ t.toList = L := by
  rw [Lib.toList_data]
  constructor
  · intro h; rw [h]; rfl
  · intro h; rw [ba_list t, h]; rfl
theorem toksl_at (W : World) (g : Nat) (hg : g = W.heap.size) (x : Tv) : TokSl (W.alloc (.cells #[.int .i64 x.k, .string x.t, .int .i64 x.p, .int .i64 x.q, .int .i64 x.a, .int .i64 x.c] 41)) (g + 1) (some ⟨g, 0, none⟩) [x] := by
  subst hg; exact toksl_new1 W x
/-- What is left of a row. -/
theorem drop_sl {w : World} {ad : Addr} {l : List Tv} {k : Nat} (h : TokSl w w.heap.size (some ad) l) {B : Nat} {a : World} (hB : w.heap.size ≤ B) (W : World) (ha : Below w.heap.size w a) (hb : Below B a W) (hz : B ≤ W.heap.size) : TokSl W W.heap.size (some (ad.add ((k + 1) * 6))) (l.drop (k + 1)) := fun hn => by
  obtain ⟨ad', e, h1, h2⟩ := h (by rw [List.length_drop] at hn; omega)
  injection e with e
  subst e
  refine ⟨_, rfl, by rw [block_of_add]; have := ha.size; omega, fun j y hy => ?_⟩
  rw [List.getElem?_drop] at hy
  have h3 := ((h2 (k + 1 + j) y hy).below ha (by rw [block_of_add]; exact h1)).below (hb.mono hB |> fun x => x) (by rw [block_of_add]; exact h1)
  rw [show (ad.add ((k + 1) * 6)).add (j * 6) = ad.add ((k + 1 + j) * 6) by rw [Addr.add_add]; congr 1; omega]
  exact h3
theorem saves_lt {l : List Tv} {n k : Nat} (h : Mx.Z.savesB (l.drop (k + 1)) = true) (hn : l.length = n) (hk : k < n) : k + 1 < n := by
  rcases Nat.lt_or_ge (k + 1) n with h1 | h1
  · exact h1
  · rw [List.drop_eq_nil_of_le (by omega)] at h; cases h
theorem msv (l : List Tv) (n k : Nat) (ad : Addr) (c' : Nat) (W : World) (hn : l.length = n) (hk : k < n) (h250 : n ≤ 250) (hs : TokSl W W.heap.size (some ad) (l.drop (k + 1))) :
    Calls Tryz.prog 20 #[.slice (some ad) (n - (k + 1)) c'] W fun e w' => e = .returned (.bool (Mx.Z.savesB (l.drop (k + 1)))) ∧ Below W.heap.size W w' := by
  have := msaves_any (some ad) c' (l.drop (k + 1)) W hs (by rw [List.length_drop]; omega)
  rw [List.length_drop, hn] at this
  exact this
/-- A string against a literal, as a walk asks. -/
theorem str_yes {t : ByteArray} {L : List UInt8} (h : t = Mx.str L) : (t.toList == L) = true := by simpa using (str_iff t L).1 h
theorem str_no {t : ByteArray} {L : List UInt8} (h : ¬ t = Mx.str L) : (t.toList == L) = false := by simpa using fun e => h ((str_iff t L).2 e)
set_option maxRecDepth 100000 in
set_option maxHeartbeats 16000000 in
theorem mplain_any (A : Option Addr) (c : Nat) (l : List Tv) (w : World) (he : EnvL w) (h1 : TokSl w w.heap.size A l) (_ : A = none → c = 0 ∧ l = []) (hc : l.length ≤ c) (hl : l.length ≤ 9223372036854775807) (hf : ∀ x ∈ l, x.fit) :
    Calls Tryz.prog 6 #[.slice A l.length c] w fun e w' => e = .returned (.bool true) ∧ Below w.heap.size w w' := by
  have HE := Lib.hid he
  have HAW := Lib.hid (fun W (hW : EnvL W) => mawake_any W hW)
  have C1 := Lib.hid (mfew_any A c l w h1 hl)
  have CA := Lib.hid (fun W (hs : TokSl W W.heap.size A l) => rall_any A c l W hs hl hf)
  have C2 := Lib.hid (fun W (hW : EnvL W) (hs : TokSl W W.heap.size A l) => expand_any A c l W hW hs hc hl hf)
  have HD0 := Lib.hid (@Mx.Z.lp_done l)
  have HD1 := Lib.hid (fun d => @Mx.Z.lp_open l d)
  have H1 := Lib.hid h1
  obtain ⟨p, hp⟩ : ∃ p, p = l.all Tv.ok := ⟨_, rfl⟩
  rw [← hp] at CA HD0 HD1
  obtain ⟨n, hn⟩ : ∃ n, n = l.length := ⟨_, rfl⟩
  rw [← hn] at C1 CA C2 ⊢
  have HL := Lib.hid hn.symm
  have hnc : n ≤ c := by omega
  clear he h1 hf hl hn hp hc
  go_enter Tryz.func6, Tryz.ntmps6
  go_wp2_with fail
  refine C1.out.mono ?_; rintro e w1 ⟨⟨b1, rfl, hn⟩, hb⟩
  have B1 := Lib.hid hb
  have hz1 := hb.size
  clear hb
  cases b1
  case false =>
    clear hn
    go_wp2_with fail
    refine (HAW.out _ (HE.out.below B1.out)).mono ?_; rintro e w9 ⟨rfl, hb⟩
    go_wp2_with fail
    go_ret
    exact ⟨rfl, B1.out.trans (hb.mono B1.out.size)⟩
  have hn4 := hn rfl
  clear hn
  go_wp2_with fail
  refine (CA.out _ ((H1.out.below B1.out).more hz1)).mono ?_; rintro e w2 ⟨rfl, hb⟩
  have B2 := Lib.hid (B1.out.trans (hb.mono hz1))
  clear hb
  cases p
  case false =>
    go_wp2_with fail
    refine (HAW.out _ (HE.out.below B2.out)).mono ?_; rintro e w9 ⟨rfl, hb⟩
    go_wp2_with fail
    go_ret
    exact ⟨rfl, B2.out.trans (hb.mono B2.out.size)⟩
  clear CA C1 B1 hz1
  go_wp2_with fail
  go_loopw [3, 4, 20] (fun vd vo vi wr => ∃ (k d : Nat), vd = .int .i64 d ∧ vi = .int .i64 k ∧ k ≤ n ∧ d ≤ k ∧ Hid (Mx.Z.lp 0 l = Mx.Z.lp d (l.drop k)) ∧ Hid (TokOwn wr w.heap.size vo ((l.take k).map Mx.Z.norm)) ∧ Hid (Below w.heap.size w wr)) (fun _ _ vi _ => n - (intOf vi).toNat)
  case atStart => exact ⟨0, 0, rfl, rfl, by omega, by omega, Lib.hid rfl, World.ownsRow_nil _ _ _ _, B2⟩
  case round =>
    obtain ⟨k, d, rfl, rfl, hk, hd, hP, hr, hB⟩ := hrel
    by_cases hlt : k < n
    case neg =>
      have hkn : k = n := by omega
      subst hkn
      have hfin : Mx.Z.lp 0 l = some d := by rw [hP.out, List.drop_eq_nil_of_le (by have := HL.out; omega)]; rfl
      have hO0 : TokOwn wr w.heap.size u4 (l.map Mx.Z.norm) := by
        have h := hr.out
        rwa [List.take_of_length_le (by have := HL.out; omega)] at h
      have hlen : (l.map Mx.Z.norm).length = k := by rw [List.length_map]; exact HL.out
      obtain ⟨A4, c4, rfl, hs4, -⟩ := own_all hO0
      rw [hlen]
      have S4 := Lib.hid hs4
      have HLEN := Lib.hid hlen
      have hsz := hB.out.size
      by_cases hd0 : d = 0
      case pos =>
        obtain ⟨g1, g2⟩ := HD0.out trivial (by have := HL.out; omega) (by rw [hfin, hd0])
        rw [g1, g2] at C2
        simp only [Mx.Flt.agg, Mx.noFlt, show Mx.str [] = ⟨#[]⟩ from rfl] at C2
        have hgt : decide ((0 : Int) < (d : Int)) = false := decide_eq_false (by omega)
        have hgn : decide (0 < d) = false := decide_eq_false (by omega)
        have hdl : d ≤ 0 := by omega
        have hdi : (d : Int) ≤ 0 := by omega
        clear g1 g2 hs4 hlen hO0 hfin hd0 hP hr
        go_wp2_with fail
        refine (C2.out _ (HE.out.below hB.out) ((H1.out.below hB.out).more hsz)).mono ?_; rintro e w5 ⟨v5, rfl, hv5, hb⟩
        have B5 := Lib.hid (hB.out.trans (hb.mono hsz))
        obtain ⟨P5, d5, rfl, hs5⟩ := hv5.sl
        rw [HLEN.out]
        have S5 := Lib.hid ((hs5.below (heap_new_b w5 (.cells #[.int .i64 0, .string ⟨#[]⟩, .int .i64 0, .int .i64 0] 27) _ (Nat.le_refl _))).more (by simp : w5.heap.size ≤ (w5.alloc (.cells #[.int .i64 0, .string ⟨#[]⟩, .int .i64 0, .int .i64 0] 27)).heap.size))
        have S4 := Lib.hid ((S4.out.below (hb.alloc hb.size (.cells #[.int .i64 0, .string ⟨#[]⟩, .int .i64 0, .int .i64 0] 27))).more (by have := hb.size; simp; omega : wr.heap.size ≤ (w5.alloc (.cells #[.int .i64 0, .string ⟨#[]⟩, .int .i64 0, .int .i64 0] 27)).heap.size))
        have B6 := Lib.hid (B5.out.alloc B5.out.size (.cells #[.int .i64 0, .string ⟨#[]⟩, .int .i64 0, .int .i64 0] 27))
        clear hb hs5 hv5
        go_wp2_with fail
        refine (requal_any' P5 A4 d5 c4 _ _ (l.map Mx.Z.norm) _ HLEN.out.symm HLEN.out.symm S5.out S4.out (by have := HLEN.out; omega)).mono ?_; rintro e w6 ⟨rfl, hb⟩
        have B7 := Lib.hid (B6.out.trans (hb.mono B6.out.size))
        clear hb
        go_wp2_with fail
        refine (HAW.out _ (HE.out.below B7.out)).mono ?_; rintro e w9 ⟨rfl, hb⟩
        go_wp2_with fail
        go_ret
        exact ⟨rfl, B7.out.trans (hb.mono B7.out.size)⟩
      case neg =>
        obtain ⟨d', hd'⟩ : ∃ d', d = d' + 1 := ⟨d - 1, by omega⟩
        obtain ⟨g1, g2, g3⟩ := HD1.out d' trivial (by have := HL.out; omega) (by rw [hfin, hd'])
        obtain ⟨⟨fc, fn, fl, fo⟩, hF⟩ : ∃ f, f = Mx.expandF l := ⟨_, rfl⟩
        rw [g1, ← hF] at C2
        rw [← hF] at g2 g3
        simp only at g2 g3
        subst g2 g3
        simp only [Mx.Flt.agg, show Mx.str [] = ⟨#[]⟩ from rfl] at C2
        have hgt : decide ((0 : Int) < (d : Int)) = true := decide_eq_true (by omega)
        have hgn : decide (0 < d) = true := decide_eq_true (by omega)
        have hdl : 0 < d := by omega
        have hdi : (0 : Int) < (d : Int) := by omega
        clear g1 hs4 hlen hO0 hfin hd0 hP hr hF hd'
        go_wp2_with fail
        refine (C2.out _ (HE.out.below hB.out) ((H1.out.below hB.out).more hsz)).mono ?_; rintro e w5 ⟨v5, rfl, hv5, hb⟩
        have B5 := Lib.hid (hB.out.trans (hb.mono hsz))
        obtain ⟨P5, d5, rfl, -⟩ := hv5.sl
        rw [List.length_nil]
        have B6 := Lib.hid (B5.out.alloc B5.out.size (.cells #[.int .i64 12, .string ⟨#[]⟩, .int .i64 fl, .int .i64 fo] 27))
        clear hb hv5
        go_wp2_with fail
        refine (HAW.out _ (HE.out.below B6.out)).mono ?_; rintro e w9 ⟨rfl, hb⟩
        go_wp2_with fail
        go_ret
        exact ⟨rfl, B6.out.trans (hb.mono B6.out.size)⟩
    case pos =>
      obtain ⟨ad1, hA1, hb1, at1⟩ := H1.out (by rw [HL.out]; omega); obtain rfl := hA1; have hx : l[k]? = some (l[k]'(by rw [HL.out]; exact hlt)) := List.getElem?_eq_getElem _; generalize l[k]'(by rw [HL.out]; exact hlt) = x at hx; have tx := (at1 k x hx).below hB.out (by rw [block_of_add]; exact hb1); have g1 := block_of_add ad1 (k * 6); obtain ⟨⟨xb, xo, xs⟩, hE1⟩ : ∃ E, ad1.add (k * 6) = E := ⟨_, rfl⟩; rw [hE1] at tx g1; obtain ⟨x0, x1, x2, x3, x4, x5⟩ := tx; simp only at x0 x1 x2 x3 x4 x5 g1; have hsz := hB.out.size; have hxb : xb < wr.heap.size := (by omega); have hk0 : (0 : Int) ≤ (k : Int) := (by omega); have hk1 : (k : Int) < (n : Int) := (by omega); have HX := Lib.hid hx; clear at1 g1 hb1 hx
      have hdr := drop_at HX.out
      rw [hdr] at hP
      clear hdr
      have D0 := Lib.hid ((Below.refl wr.heap.size wr).alloc (Nat.le_refl _) (.cells #[.int .i64 x.k, .string x.t, .int .i64 x.p, .int .i64 x.q, .int .i64 x.a, .int .i64 x.c] 41))
      by_cases k0 : x.k = 0
      case pos =>
        have e0 : (x.k == 0) = true := by simpa using k0
        have K0 := Lib.hid k0
        clear k0
        have HW := Lib.hid (fun W => rword_any x.t W)
        obtain ⟨q, hq⟩ : ∃ q, q = decide (x.t.data.toList ∈ Lx.wds) := ⟨_, rfl⟩
        rw [← hq] at HW
        go_wp2_with fail
        refine (HW.out _).mono ?_; rintro e w4 ⟨rfl, hb⟩
        have D4 := Lib.hid (D0.out.trans (hb.mono D0.out.size))
        have K4 := (hb.block wr.heap.size (by simp)).trans (heap_alloc_new wr (.cells #[.int .i64 x.k, .string x.t, .int .i64 x.p, .int .i64 x.q, .int .i64 x.a, .int .i64 x.c] 41))
        obtain ⟨⟨y0, y1, y2, y3, y4, y5⟩, ⟨z0, z1, z2, z3, z4, z5⟩, yl⟩ := blk6 K4
        have HK4 := Lib.hid K4
        clear hb K4 x0 x1 x2 x3 x4 x5 HW
        cases q
        case false =>
          have HNO : Hid (Mx.Z.norm x = x) := Lib.hid (by unfold Mx.Z.norm; rw [if_neg (fun h => of_decide_eq_false hq.symm h.2)])
          have HQ := Lib.hid (show Mx.Z.lp 0 l = Mx.Z.lp d (l.drop (k + 1)) by rw [hP.out, Mx.Z.lp, HNO.out, if_neg (by rw [K0.out]; decide)])
          have e1 : (x.k == 1) = false := by rw [K0.out]; rfl
          have hdn : decide ((d : Int) < 0) = false := decide_eq_false (by omega)
          clear hP hq
          go_wp2_with (at_builtin; refine wpList_append_toks rfl _ _ rfl w.heap.size u4 ((l.take k).map Mx.Z.norm) [x] rfl ?own (w4.heap.size + 1) 1 (some ⟨w4.heap.size, 0, none⟩) rfl (fun e => by cases e) ?hm ?hl ?hb ?_)
          case own => exact hr.out.below (D4.out.alloc D4.out.size _)
          case hm => exact toksl_at _ _ (by simp [World.setCell]) (x)
          case hl => have := HL.out; simp; omega
          case hb => have := D4.out.size; simp [World.setCell] at this ⊢; omega
          intro v1 w9 own9 gr9
          have DA := D4.out.alloc D4.out.size (.cells #[.int .i64 (x : Tv).k, .string (x : Tv).t, .int .i64 (x : Tv).p, .int .i64 (x : Tv).q, .int .i64 (x : Tv).a, .int .i64 (x : Tv).c] 41)
          have B9 := Lib.hid (below_row (hB.out.trans (DA.mono hsz)) gr9 (fun k hk => (World.ownsRow.lt hr.out k hk).1) (Nat.le_trans hsz DA.size))
          have O9 := Lib.hid own9
          clear own9 gr9 DA
          go_wp2_with fail
          exact ⟨⟨k + 1, d, rfl, by go_num, by omega, by omega, HQ, by rw [norm_take HX.out, HNO.out, List.map_take]; exact O9, B9⟩, by simp [intOf]; omega⟩
        case true =>
          have HNO : Hid (Mx.Z.norm x = { x with k := 1 }) := Lib.hid (by unfold Mx.Z.norm; rw [if_pos ⟨K0.out, of_decide_eq_true hq.symm⟩])
          have hk1 : (Mx.Z.norm x).k = 1 := by rw [HNO.out]
          have D5 := Lib.hid (D4.out.setCell (p := ⟨wr.heap.size, 0, none⟩) (Nat.le_refl _) (.int .i64 1))
          have K5 := Lib.hid (heap_set w4 wr.heap.size 0 (.int .i64 1) _ _ HK4.out)
          clear hq
          have BW := Lib.hid (hB.out.trans (D5.out.mono hsz))
          have hd0 : (0 : Int) ≤ (d : Int) := by omega
          have hd1 : (d : Int) ≤ 250 := by omega
          by_cases c0 : x.t = Mx.sDef
          case pos =>
            have f0 := str_yes (t := x.t) (L := [100, 101, 102]) c0
            clear hP hk1 c0
            go_wp2_with fail
            refine (HAW.out _ (HE.out.below BW.out)).mono ?_; rintro e w9 ⟨rfl, hb⟩
            go_wp2_with fail
            go_ret
            exact ⟨rfl, BW.out.trans (hb.mono BW.out.size)⟩
          case neg =>
            by_cases c1 : x.t = Mx.sLet
            case pos =>
              have f0 := str_no (t := x.t) (L := [100, 101, 102]) (by rw [c1]; decide)
              have f1 := str_yes (t := x.t) (L := [108, 101, 116]) c1
              clear hP hk1 c0 c1
              go_wp2_with fail
              refine (HAW.out _ (HE.out.below BW.out)).mono ?_; rintro e w9 ⟨rfl, hb⟩
              go_wp2_with fail
              go_ret
              exact ⟨rfl, BW.out.trans (hb.mono BW.out.size)⟩
            case neg =>
              by_cases c2 : x.t = Mx.sEnddef
              case pos =>
                have f0 := str_no (t := x.t) (L := [100, 101, 102]) (by rw [c2]; decide)
                have f1 := str_no (t := x.t) (L := [108, 101, 116]) (by rw [c2]; decide)
                have f2 := str_yes (t := x.t) (L := [101, 110, 100, 100, 101, 102]) c2
                clear hP hk1 c0 c1 c2
                go_wp2_with fail
                refine (HAW.out _ (HE.out.below BW.out)).mono ?_; rintro e w9 ⟨rfl, hb⟩
                go_wp2_with fail
                go_ret
                exact ⟨rfl, BW.out.trans (hb.mono BW.out.size)⟩
              case neg =>
                by_cases c3 : x.t = Mx.sBegin
                case pos =>
                  have f0 := str_no (t := x.t) (L := [100, 101, 102]) (by rw [c3]; decide)
                  have f1 := str_no (t := x.t) (L := [108, 101, 116]) (by rw [c3]; decide)
                  have f2 := str_no (t := x.t) (L := [101, 110, 100, 100, 101, 102]) (by rw [c3]; decide)
                  have f3 := str_yes (t := x.t) (L := [98, 101, 103, 105, 110, 103, 114, 111, 117, 112]) c3
                  have HQ := Lib.hid (show Mx.Z.lp 0 l = Mx.Z.lp (d + 1) (l.drop (k + 1)) by rw [hP.out, Mx.Z.lp, if_pos hk1, if_neg (by rw [c3]; decide), if_pos c3])
                  have hdn : decide ((d : Int) + 1 < 0) = false := decide_eq_false (by omega)
                  clear hP hk1 c0 c1 c2 c3
                  go_wp2_with (at_builtin; refine wpList_append_toks rfl _ _ rfl w.heap.size u4 ((l.take k).map Mx.Z.norm) [{ x with k := 1 }] rfl ?own (w4.heap.size + 1) 1 (some ⟨w4.heap.size, 0, none⟩) rfl (fun e => by cases e) ?hm ?hl ?hb ?_)
                  case own => exact hr.out.below (D5.out.alloc D5.out.size _)
                  case hm => exact toksl_at _ _ (by simp [World.setCell]) ({ x with k := 1 })
                  case hl => have := HL.out; simp; omega
                  case hb => have := D5.out.size; simp [World.setCell] at this ⊢; omega
                  intro v1 w9 own9 gr9
                  have DA := D5.out.alloc D5.out.size (.cells #[.int .i64 ({ x with k := 1 } : Tv).k, .string ({ x with k := 1 } : Tv).t, .int .i64 ({ x with k := 1 } : Tv).p, .int .i64 ({ x with k := 1 } : Tv).q, .int .i64 ({ x with k := 1 } : Tv).a, .int .i64 ({ x with k := 1 } : Tv).c] 41)
                  have B9 := Lib.hid (below_row (hB.out.trans (DA.mono hsz)) gr9 (fun k hk => (World.ownsRow.lt hr.out k hk).1) (Nat.le_trans hsz DA.size))
                  have O9 := Lib.hid own9
                  clear own9 gr9 DA
                  go_wp2_with fail
                  exact ⟨⟨k + 1, d + 1, by go_num, by go_num, by omega, by omega, HQ, by rw [norm_take HX.out, HNO.out, List.map_take]; exact O9, B9⟩, by simp [intOf]; omega⟩
                case neg =>
                  by_cases c4 : x.t = Mx.sEnd
                  case pos =>
                    have f0 := str_no (t := x.t) (L := [100, 101, 102]) (by rw [c4]; decide)
                    have f1 := str_no (t := x.t) (L := [108, 101, 116]) (by rw [c4]; decide)
                    have f2 := str_no (t := x.t) (L := [101, 110, 100, 100, 101, 102]) (by rw [c4]; decide)
                    have f3 := str_no (t := x.t) (L := [98, 101, 103, 105, 110, 103, 114, 111, 117, 112]) (by rw [c4]; decide)
                    have f4 := str_yes (t := x.t) (L := [101, 110, 100, 103, 114, 111, 117, 112]) c4
                    by_cases hz : d = 0
                    case pos =>
                      have hdn : decide ((d : Int) - 1 < 0) = true := decide_eq_true (by omega)
                      clear hP hk1 c0 c1 c2 c3 c4
                      go_wp2_with fail
                      refine (HAW.out _ (HE.out.below BW.out)).mono ?_; rintro e w9 ⟨rfl, hb⟩
                      go_wp2_with fail
                      go_ret
                      exact ⟨rfl, BW.out.trans (hb.mono BW.out.size)⟩
                    case neg =>
                      have HQ := Lib.hid (show Mx.Z.lp 0 l = Mx.Z.lp (d - 1) (l.drop (k + 1)) by rw [hP.out, Mx.Z.lp, if_pos hk1, if_neg (by rw [c4]; decide), if_neg c3, if_pos c4, if_neg hz])
                      have hdn : decide ((d : Int) - 1 < 0) = false := decide_eq_false (by omega)
                      clear hP hk1 c0 c1 c2 c3 c4
                      go_wp2_with (at_builtin; refine wpList_append_toks rfl _ _ rfl w.heap.size u4 ((l.take k).map Mx.Z.norm) [{ x with k := 1 }] rfl ?own (w4.heap.size + 1) 1 (some ⟨w4.heap.size, 0, none⟩) rfl (fun e => by cases e) ?hm ?hl ?hb ?_)
                      case own => exact hr.out.below (D5.out.alloc D5.out.size _)
                      case hm => exact toksl_at _ _ (by simp [World.setCell]) ({ x with k := 1 })
                      case hl => have := HL.out; simp; omega
                      case hb => have := D5.out.size; simp [World.setCell] at this ⊢; omega
                      intro v1 w9 own9 gr9
                      have DA := D5.out.alloc D5.out.size (.cells #[.int .i64 ({ x with k := 1 } : Tv).k, .string ({ x with k := 1 } : Tv).t, .int .i64 ({ x with k := 1 } : Tv).p, .int .i64 ({ x with k := 1 } : Tv).q, .int .i64 ({ x with k := 1 } : Tv).a, .int .i64 ({ x with k := 1 } : Tv).c] 41)
                      have B9 := Lib.hid (below_row (hB.out.trans (DA.mono hsz)) gr9 (fun k hk => (World.ownsRow.lt hr.out k hk).1) (Nat.le_trans hsz DA.size))
                      have O9 := Lib.hid own9
                      clear own9 gr9 DA
                      go_wp2_with fail
                      exact ⟨⟨k + 1, d - 1, by congr 1; omega, by go_num, by omega, by omega, HQ, by rw [norm_take HX.out, HNO.out, List.map_take]; exact O9, B9⟩, by simp [intOf]; omega⟩
                  case neg =>
                    by_cases c5 : x.t = Mx.sSave
                    case pos =>
                      have f0 := str_no (t := x.t) (L := [100, 101, 102]) (by rw [c5]; decide)
                      have f1 := str_no (t := x.t) (L := [108, 101, 116]) (by rw [c5]; decide)
                      have f2 := str_no (t := x.t) (L := [101, 110, 100, 100, 101, 102]) (by rw [c5]; decide)
                      have f3 := str_no (t := x.t) (L := [98, 101, 103, 105, 110, 103, 114, 111, 117, 112]) (by rw [c5]; decide)
                      have f4 := str_no (t := x.t) (L := [101, 110, 100, 103, 114, 111, 117, 112]) (by rw [c5]; decide)
                      have f5 := str_yes (t := x.t) (L := [115, 97, 118, 101]) c5
                      have HLP : Hid (Mx.Z.savesB (l.drop (k + 1)) = true → Mx.Z.lp 0 l = Mx.Z.lp d (l.drop (k + 1))) := Lib.hid (fun h => by rw [hP.out, Mx.Z.lp, if_pos hk1, if_neg (by rw [c5]; decide), if_neg c3, if_neg c4, if_pos c5, if_pos h])
                      clear hP hk1 c0 c1 c2 c3 c4 c5
                      have hdn : decide ((d : Int) < 0) = false := decide_eq_false (by omega)
                      go_wp2_with fail
                      all_goals
                        refine (msv l n k _ _ _ HL.out hlt hn4 (by first | exact drop_sl H1.out hsz _ hB.out D5.out D5.out.size | (intro h; simp at h; have := HL.out; omega))).mono ?_; rintro e w6 ⟨rfl, hb⟩
                        have D6 := Lib.hid (D5.out.trans (hb.mono D5.out.size))
                        have B6 := Lib.hid (hB.out.trans (D6.out.mono hsz))
                        have K6 := (hb.block wr.heap.size (by have := D5.out.size; simp [World.setCell]; omega)).trans K5.out
                        obtain ⟨⟨y0, y1, y2, y3, y4, y5⟩, -, yl⟩ := blk6 K6
                        clear hb K6
                        cases hsb : Mx.Z.savesB (l.drop (k + 1))
                        case false =>
                          clear HLP hsb
                          go_wp2_with fail
                          refine (HAW.out _ (HE.out.below B6.out)).mono ?_; rintro e w9 ⟨rfl, hb⟩
                          go_wp2_with fail
                          go_ret
                          exact ⟨rfl, B6.out.trans (hb.mono B6.out.size)⟩
                        case true =>
                          have hne := saves_lt hsb HL.out hlt
                          have HQ := Lib.hid (HLP.out hsb)
                          clear HLP hsb
                          try (exfalso; omega)
                          all_goals
                            go_wp2_with (at_builtin; refine wpList_append_toks rfl _ _ rfl w.heap.size u4 ((l.take k).map Mx.Z.norm) [{ x with k := 1 }] rfl ?own (w6.heap.size + 1) 1 (some ⟨w6.heap.size, 0, none⟩) rfl (fun e => by cases e) ?hm ?hl ?hb ?_)
                            case own => exact hr.out.below (D6.out.alloc D6.out.size _)
                            case hm => exact toksl_at _ _ (by simp [World.setCell]) ({ x with k := 1 })
                            case hl => have := HL.out; simp; omega
                            case hb => have := D6.out.size; simp [World.setCell] at this ⊢; omega
                            intro v1 w9 own9 gr9
                            have DA := D6.out.alloc D6.out.size (.cells #[.int .i64 ({ x with k := 1 } : Tv).k, .string ({ x with k := 1 } : Tv).t, .int .i64 ({ x with k := 1 } : Tv).p, .int .i64 ({ x with k := 1 } : Tv).q, .int .i64 ({ x with k := 1 } : Tv).a, .int .i64 ({ x with k := 1 } : Tv).c] 41)
                            have B9 := Lib.hid (below_row (hB.out.trans (DA.mono hsz)) gr9 (fun k hk => (World.ownsRow.lt hr.out k hk).1) (Nat.le_trans hsz DA.size))
                            have O9 := Lib.hid own9
                            clear own9 gr9 DA
                            go_wp2_with fail
                            exact ⟨⟨k + 1, d, rfl, by go_num, by omega, by omega, HQ, by rw [norm_take HX.out, HNO.out, List.map_take]; exact O9, B9⟩, by simp [intOf]; omega⟩
                    case neg =>
                      have f0 := str_no (t := x.t) (L := [100, 101, 102]) c0
                      have f1 := str_no (t := x.t) (L := [108, 101, 116]) c1
                      have f2 := str_no (t := x.t) (L := [101, 110, 100, 100, 101, 102]) c2
                      have f3 := str_no (t := x.t) (L := [98, 101, 103, 105, 110, 103, 114, 111, 117, 112]) c3
                      have f4 := str_no (t := x.t) (L := [101, 110, 100, 103, 114, 111, 117, 112]) c4
                      have f5 := str_no (t := x.t) (L := [115, 97, 118, 101]) c5
                      have HQ := Lib.hid (show Mx.Z.lp 0 l = Mx.Z.lp d (l.drop (k + 1)) by rw [hP.out, Mx.Z.lp, if_pos hk1, if_neg (by rintro (h | h | h) <;> contradiction), if_neg c3, if_neg c4, if_neg c5])
                      have hdn : decide ((d : Int) < 0) = false := decide_eq_false (by omega)
                      clear hP hk1 c0 c1 c2 c3 c4 c5
                      go_wp2_with (at_builtin; refine wpList_append_toks rfl _ _ rfl w.heap.size u4 ((l.take k).map Mx.Z.norm) [{ x with k := 1 }] rfl ?own (w4.heap.size + 1) 1 (some ⟨w4.heap.size, 0, none⟩) rfl (fun e => by cases e) ?hm ?hl ?hb ?_)
                      case own => exact hr.out.below (D5.out.alloc D5.out.size _)
                      case hm => exact toksl_at _ _ (by simp [World.setCell]) ({ x with k := 1 })
                      case hl => have := HL.out; simp; omega
                      case hb => have := D5.out.size; simp [World.setCell] at this ⊢; omega
                      intro v1 w9 own9 gr9
                      have DA := D5.out.alloc D5.out.size (.cells #[.int .i64 ({ x with k := 1 } : Tv).k, .string ({ x with k := 1 } : Tv).t, .int .i64 ({ x with k := 1 } : Tv).p, .int .i64 ({ x with k := 1 } : Tv).q, .int .i64 ({ x with k := 1 } : Tv).a, .int .i64 ({ x with k := 1 } : Tv).c] 41)
                      have B9 := Lib.hid (below_row (hB.out.trans (DA.mono hsz)) gr9 (fun k hk => (World.ownsRow.lt hr.out k hk).1) (Nat.le_trans hsz DA.size))
                      have O9 := Lib.hid own9
                      clear own9 gr9 DA
                      go_wp2_with fail
                      exact ⟨⟨k + 1, d, rfl, by go_num, by omega, by omega, HQ, by rw [norm_take HX.out, HNO.out, List.map_take]; exact O9, B9⟩, by simp [intOf]; omega⟩
      case neg =>
        have e0 : (x.k == 0) = false := by simpa using k0
        have HNO : Hid (Mx.Z.norm x = x) := Lib.hid (Mx.Z.norm_ne k0)
        by_cases k1 : x.k = 1
        case neg =>
          have e1 : (x.k == 1) = false := by simpa using k1
          have HQ := Lib.hid (show Mx.Z.lp 0 l = Mx.Z.lp d (l.drop (k + 1)) by rw [hP.out, Mx.Z.lp, HNO.out, if_neg k1])
          have hdn : decide ((d : Int) < 0) = false := decide_eq_false (by omega)
          clear k0 k1 hP
          go_wp2_with (at_builtin; refine wpList_append_toks rfl _ _ rfl w.heap.size u4 ((l.take k).map Mx.Z.norm) [x] rfl ?own ((wr.heap.size + 1) + 1) 1 (some ⟨(wr.heap.size + 1), 0, none⟩) rfl (fun e => by cases e) ?hm ?hl ?hb ?_)
          case own => exact hr.out.below (D0.out.alloc D0.out.size _)
          case hm => exact toksl_at _ _ (by simp [World.setCell]) (x)
          case hl => have := HL.out; simp; omega
          case hb => have := D0.out.size; simp [World.setCell] at this ⊢; omega
          intro v1 w9 own9 gr9
          have DA := D0.out.alloc D0.out.size (.cells #[.int .i64 (x : Tv).k, .string (x : Tv).t, .int .i64 (x : Tv).p, .int .i64 (x : Tv).q, .int .i64 (x : Tv).a, .int .i64 (x : Tv).c] 41)
          have B9 := Lib.hid (below_row (hB.out.trans (DA.mono hsz)) gr9 (fun k hk => (World.ownsRow.lt hr.out k hk).1) (Nat.le_trans hsz DA.size))
          have O9 := Lib.hid own9
          clear own9 gr9 DA
          go_wp2_with fail
          exact ⟨⟨k + 1, d, rfl, by go_num, by omega, by omega, HQ, by rw [norm_take HX.out, HNO.out, List.map_take]; exact O9, B9⟩, by simp [intOf]; omega⟩
        case pos =>
          have e1 : (x.k == 1) = true := by simpa using k1
          have hk1 : (Mx.Z.norm x).k = 1 := by rw [HNO.out]; exact k1
          have K0 := Lib.hid (heap_alloc_new wr (.cells #[.int .i64 x.k, .string x.t, .int .i64 x.p, .int .i64 x.q, .int .i64 x.a, .int .i64 x.c] 41))
          clear k0 k1
          have BW := Lib.hid (hB.out.trans (D0.out.mono hsz))
          have hd0 : (0 : Int) ≤ (d : Int) := by omega
          have hd1 : (d : Int) ≤ 250 := by omega
          by_cases c0 : x.t = Mx.sDef
          case pos =>
            have f0 := str_yes (t := x.t) (L := [100, 101, 102]) c0
            clear hP hk1 c0
            go_wp2_with fail
            refine (HAW.out _ (HE.out.below BW.out)).mono ?_; rintro e w9 ⟨rfl, hb⟩
            go_wp2_with fail
            go_ret
            exact ⟨rfl, BW.out.trans (hb.mono BW.out.size)⟩
          case neg =>
            by_cases c1 : x.t = Mx.sLet
            case pos =>
              have f0 := str_no (t := x.t) (L := [100, 101, 102]) (by rw [c1]; decide)
              have f1 := str_yes (t := x.t) (L := [108, 101, 116]) c1
              clear hP hk1 c0 c1
              go_wp2_with fail
              refine (HAW.out _ (HE.out.below BW.out)).mono ?_; rintro e w9 ⟨rfl, hb⟩
              go_wp2_with fail
              go_ret
              exact ⟨rfl, BW.out.trans (hb.mono BW.out.size)⟩
            case neg =>
              by_cases c2 : x.t = Mx.sEnddef
              case pos =>
                have f0 := str_no (t := x.t) (L := [100, 101, 102]) (by rw [c2]; decide)
                have f1 := str_no (t := x.t) (L := [108, 101, 116]) (by rw [c2]; decide)
                have f2 := str_yes (t := x.t) (L := [101, 110, 100, 100, 101, 102]) c2
                clear hP hk1 c0 c1 c2
                go_wp2_with fail
                refine (HAW.out _ (HE.out.below BW.out)).mono ?_; rintro e w9 ⟨rfl, hb⟩
                go_wp2_with fail
                go_ret
                exact ⟨rfl, BW.out.trans (hb.mono BW.out.size)⟩
              case neg =>
                by_cases c3 : x.t = Mx.sBegin
                case pos =>
                  have f0 := str_no (t := x.t) (L := [100, 101, 102]) (by rw [c3]; decide)
                  have f1 := str_no (t := x.t) (L := [108, 101, 116]) (by rw [c3]; decide)
                  have f2 := str_no (t := x.t) (L := [101, 110, 100, 100, 101, 102]) (by rw [c3]; decide)
                  have f3 := str_yes (t := x.t) (L := [98, 101, 103, 105, 110, 103, 114, 111, 117, 112]) c3
                  have HQ := Lib.hid (show Mx.Z.lp 0 l = Mx.Z.lp (d + 1) (l.drop (k + 1)) by rw [hP.out, Mx.Z.lp, if_pos hk1, if_neg (by rw [c3]; decide), if_pos c3])
                  have hdn : decide ((d : Int) + 1 < 0) = false := decide_eq_false (by omega)
                  clear hP hk1 c0 c1 c2 c3
                  go_wp2_with (at_builtin; refine wpList_append_toks rfl _ _ rfl w.heap.size u4 ((l.take k).map Mx.Z.norm) [x] rfl ?own ((wr.heap.size + 1) + 1) 1 (some ⟨(wr.heap.size + 1), 0, none⟩) rfl (fun e => by cases e) ?hm ?hl ?hb ?_)
                  case own => exact hr.out.below (D0.out.alloc D0.out.size _)
                  case hm => exact toksl_at _ _ (by simp [World.setCell]) (x)
                  case hl => have := HL.out; simp; omega
                  case hb => have := D0.out.size; simp [World.setCell] at this ⊢; omega
                  intro v1 w9 own9 gr9
                  have DA := D0.out.alloc D0.out.size (.cells #[.int .i64 (x : Tv).k, .string (x : Tv).t, .int .i64 (x : Tv).p, .int .i64 (x : Tv).q, .int .i64 (x : Tv).a, .int .i64 (x : Tv).c] 41)
                  have B9 := Lib.hid (below_row (hB.out.trans (DA.mono hsz)) gr9 (fun k hk => (World.ownsRow.lt hr.out k hk).1) (Nat.le_trans hsz DA.size))
                  have O9 := Lib.hid own9
                  clear own9 gr9 DA
                  go_wp2_with fail
                  exact ⟨⟨k + 1, d + 1, by go_num, by go_num, by omega, by omega, HQ, by rw [norm_take HX.out, HNO.out, List.map_take]; exact O9, B9⟩, by simp [intOf]; omega⟩
                case neg =>
                  by_cases c4 : x.t = Mx.sEnd
                  case pos =>
                    have f0 := str_no (t := x.t) (L := [100, 101, 102]) (by rw [c4]; decide)
                    have f1 := str_no (t := x.t) (L := [108, 101, 116]) (by rw [c4]; decide)
                    have f2 := str_no (t := x.t) (L := [101, 110, 100, 100, 101, 102]) (by rw [c4]; decide)
                    have f3 := str_no (t := x.t) (L := [98, 101, 103, 105, 110, 103, 114, 111, 117, 112]) (by rw [c4]; decide)
                    have f4 := str_yes (t := x.t) (L := [101, 110, 100, 103, 114, 111, 117, 112]) c4
                    by_cases hz : d = 0
                    case pos =>
                      have hdn : decide ((d : Int) - 1 < 0) = true := decide_eq_true (by omega)
                      clear hP hk1 c0 c1 c2 c3 c4
                      go_wp2_with fail
                      refine (HAW.out _ (HE.out.below BW.out)).mono ?_; rintro e w9 ⟨rfl, hb⟩
                      go_wp2_with fail
                      go_ret
                      exact ⟨rfl, BW.out.trans (hb.mono BW.out.size)⟩
                    case neg =>
                      have HQ := Lib.hid (show Mx.Z.lp 0 l = Mx.Z.lp (d - 1) (l.drop (k + 1)) by rw [hP.out, Mx.Z.lp, if_pos hk1, if_neg (by rw [c4]; decide), if_neg c3, if_pos c4, if_neg hz])
                      have hdn : decide ((d : Int) - 1 < 0) = false := decide_eq_false (by omega)
                      clear hP hk1 c0 c1 c2 c3 c4
                      go_wp2_with (at_builtin; refine wpList_append_toks rfl _ _ rfl w.heap.size u4 ((l.take k).map Mx.Z.norm) [x] rfl ?own ((wr.heap.size + 1) + 1) 1 (some ⟨(wr.heap.size + 1), 0, none⟩) rfl (fun e => by cases e) ?hm ?hl ?hb ?_)
                      case own => exact hr.out.below (D0.out.alloc D0.out.size _)
                      case hm => exact toksl_at _ _ (by simp [World.setCell]) (x)
                      case hl => have := HL.out; simp; omega
                      case hb => have := D0.out.size; simp [World.setCell] at this ⊢; omega
                      intro v1 w9 own9 gr9
                      have DA := D0.out.alloc D0.out.size (.cells #[.int .i64 (x : Tv).k, .string (x : Tv).t, .int .i64 (x : Tv).p, .int .i64 (x : Tv).q, .int .i64 (x : Tv).a, .int .i64 (x : Tv).c] 41)
                      have B9 := Lib.hid (below_row (hB.out.trans (DA.mono hsz)) gr9 (fun k hk => (World.ownsRow.lt hr.out k hk).1) (Nat.le_trans hsz DA.size))
                      have O9 := Lib.hid own9
                      clear own9 gr9 DA
                      go_wp2_with fail
                      exact ⟨⟨k + 1, d - 1, by congr 1; omega, by go_num, by omega, by omega, HQ, by rw [norm_take HX.out, HNO.out, List.map_take]; exact O9, B9⟩, by simp [intOf]; omega⟩
                  case neg =>
                    by_cases c5 : x.t = Mx.sSave
                    case pos =>
                      have f0 := str_no (t := x.t) (L := [100, 101, 102]) (by rw [c5]; decide)
                      have f1 := str_no (t := x.t) (L := [108, 101, 116]) (by rw [c5]; decide)
                      have f2 := str_no (t := x.t) (L := [101, 110, 100, 100, 101, 102]) (by rw [c5]; decide)
                      have f3 := str_no (t := x.t) (L := [98, 101, 103, 105, 110, 103, 114, 111, 117, 112]) (by rw [c5]; decide)
                      have f4 := str_no (t := x.t) (L := [101, 110, 100, 103, 114, 111, 117, 112]) (by rw [c5]; decide)
                      have f5 := str_yes (t := x.t) (L := [115, 97, 118, 101]) c5
                      have HLP : Hid (Mx.Z.savesB (l.drop (k + 1)) = true → Mx.Z.lp 0 l = Mx.Z.lp d (l.drop (k + 1))) := Lib.hid (fun h => by rw [hP.out, Mx.Z.lp, if_pos hk1, if_neg (by rw [c5]; decide), if_neg c3, if_neg c4, if_pos c5, if_pos h])
                      clear hP hk1 c0 c1 c2 c3 c4 c5
                      have hdn : decide ((d : Int) < 0) = false := decide_eq_false (by omega)
                      go_wp2_with fail
                      all_goals
                        refine (msv l n k _ _ _ HL.out hlt hn4 (by first | exact drop_sl H1.out hsz _ hB.out D0.out D0.out.size | (intro h; simp at h; have := HL.out; omega))).mono ?_; rintro e w6 ⟨rfl, hb⟩
                        have D6 := Lib.hid (D0.out.trans (hb.mono D0.out.size))
                        have B6 := Lib.hid (hB.out.trans (D6.out.mono hsz))
                        have K6 := (hb.block wr.heap.size (by have := D0.out.size; simp)).trans K0.out
                        obtain ⟨⟨y0, y1, y2, y3, y4, y5⟩, -, yl⟩ := blk6 K6
                        clear hb K6
                        cases hsb : Mx.Z.savesB (l.drop (k + 1))
                        case false =>
                          clear HLP hsb
                          go_wp2_with fail
                          refine (HAW.out _ (HE.out.below B6.out)).mono ?_; rintro e w9 ⟨rfl, hb⟩
                          go_wp2_with fail
                          go_ret
                          exact ⟨rfl, B6.out.trans (hb.mono B6.out.size)⟩
                        case true =>
                          have hne := saves_lt hsb HL.out hlt
                          have HQ := Lib.hid (HLP.out hsb)
                          clear HLP hsb
                          try (exfalso; omega)
                          all_goals
                            go_wp2_with (at_builtin; refine wpList_append_toks rfl _ _ rfl w.heap.size u4 ((l.take k).map Mx.Z.norm) [x] rfl ?own (w6.heap.size + 1) 1 (some ⟨w6.heap.size, 0, none⟩) rfl (fun e => by cases e) ?hm ?hl ?hb ?_)
                            case own => exact hr.out.below (D6.out.alloc D6.out.size _)
                            case hm => exact toksl_at _ _ (by simp [World.setCell]) (x)
                            case hl => have := HL.out; simp; omega
                            case hb => have := D6.out.size; simp [World.setCell] at this ⊢; omega
                            intro v1 w9 own9 gr9
                            have DA := D6.out.alloc D6.out.size (.cells #[.int .i64 (x : Tv).k, .string (x : Tv).t, .int .i64 (x : Tv).p, .int .i64 (x : Tv).q, .int .i64 (x : Tv).a, .int .i64 (x : Tv).c] 41)
                            have B9 := Lib.hid (below_row (hB.out.trans (DA.mono hsz)) gr9 (fun k hk => (World.ownsRow.lt hr.out k hk).1) (Nat.le_trans hsz DA.size))
                            have O9 := Lib.hid own9
                            clear own9 gr9 DA
                            go_wp2_with fail
                            exact ⟨⟨k + 1, d, rfl, by go_num, by omega, by omega, HQ, by rw [norm_take HX.out, HNO.out, List.map_take]; exact O9, B9⟩, by simp [intOf]; omega⟩
                    case neg =>
                      have f0 := str_no (t := x.t) (L := [100, 101, 102]) c0
                      have f1 := str_no (t := x.t) (L := [108, 101, 116]) c1
                      have f2 := str_no (t := x.t) (L := [101, 110, 100, 100, 101, 102]) c2
                      have f3 := str_no (t := x.t) (L := [98, 101, 103, 105, 110, 103, 114, 111, 117, 112]) c3
                      have f4 := str_no (t := x.t) (L := [101, 110, 100, 103, 114, 111, 117, 112]) c4
                      have f5 := str_no (t := x.t) (L := [115, 97, 118, 101]) c5
                      have HQ := Lib.hid (show Mx.Z.lp 0 l = Mx.Z.lp d (l.drop (k + 1)) by rw [hP.out, Mx.Z.lp, if_pos hk1, if_neg (by rintro (h | h | h) <;> contradiction), if_neg c3, if_neg c4, if_neg c5])
                      have hdn : decide ((d : Int) < 0) = false := decide_eq_false (by omega)
                      clear hP hk1 c0 c1 c2 c3 c4 c5
                      go_wp2_with (at_builtin; refine wpList_append_toks rfl _ _ rfl w.heap.size u4 ((l.take k).map Mx.Z.norm) [x] rfl ?own ((wr.heap.size + 1) + 1) 1 (some ⟨(wr.heap.size + 1), 0, none⟩) rfl (fun e => by cases e) ?hm ?hl ?hb ?_)
                      case own => exact hr.out.below (D0.out.alloc D0.out.size _)
                      case hm => exact toksl_at _ _ (by simp [World.setCell]) (x)
                      case hl => have := HL.out; simp; omega
                      case hb => have := D0.out.size; simp [World.setCell] at this ⊢; omega
                      intro v1 w9 own9 gr9
                      have DA := D0.out.alloc D0.out.size (.cells #[.int .i64 (x : Tv).k, .string (x : Tv).t, .int .i64 (x : Tv).p, .int .i64 (x : Tv).q, .int .i64 (x : Tv).a, .int .i64 (x : Tv).c] 41)
                      have B9 := Lib.hid (below_row (hB.out.trans (DA.mono hsz)) gr9 (fun k hk => (World.ownsRow.lt hr.out k hk).1) (Nat.le_trans hsz DA.size))
                      have O9 := Lib.hid own9
                      clear own9 gr9 DA
                      go_wp2_with fail
                      exact ⟨⟨k + 1, d, rfl, by go_num, by omega, by omega, HQ, by rw [norm_take HX.out, HNO.out, List.map_take]; exact O9, B9⟩, by simp [intOf]; omega⟩
end Go.Proofs.YtnhcjgnohnedaaaGreatDoor
