/-
  Contracts of package macro: save.
  Contracts of package macro: a token that is no name.
  Package macro: a group begins.
-/
import Derived.Test.YtnhcjgnohnedaaaGreatDoorMxEb
import Derived.Deep.DeepCutAuto
import Derived.Deep.CutBlock
import Derived.Deep.RegionHeld3
import Derived.Test.YtnhcjgnohnedaaaGreatDoorMxO
namespace Go.Proofs.YtnhcjgnohnedaaaGreatDoor
open Go.RowKit

namespace Mx
set_option maxRecDepth 100000 in
set_option maxHeartbeats 8000000 in
theorem save_any {w : World} {B b σ : Nat} {M P : Nat → Prop} {s : St} (H : Holds w B b σ M P s) :
    Calls Tryz.prog 90 #[.pointer (some ⟨b, 0, none⟩)] w (Ends B b σ M P w (save s) vUnit) := by
  have C1 := Lib.hid (readName_any H)
  clear H
  go_enter Tryz.func90, Tryz.ntmps90
  go_wp2_with fail
  refine C1.out.mono ?_; rintro e w1 ⟨M1, hG, ht, h⟩
  cases hq1 : readName s with
  | bad f =>
    rw [hq1] at h
    obtain rfl := h
    exact ⟨rfl, ends_bad (save_1 hq1) ht rfl⟩
  | ok a s1 =>
    rw [hq1] at h
    obtain ⟨v, rfl, ⟨⟨rfl, hfa⟩, -⟩, hh⟩ := h
    have Q1 := Lib.hid hq1
    have HA := Lib.hid (hh.own (.cells #[.int .i64 a.k, .string a.t, .int .i64 a.p, .int .i64 a.q, .int .i64 a.a, .int .i64 a.c] 41))
    have TA := Lib.hid (ht.then (Turns.alloc M w1 (.cells #[.int .i64 a.k, .string a.t, .int .i64 a.p, .int .i64 a.q, .int .i64 a.a, .int .i64 a.c] 41)))
    have FA := Lib.hid hfa
    have GA := Lib.hid hG
    have KA := Lib.hid (heap_alloc_new w1 (.cells #[.int .i64 a.k, .string a.t, .int .i64 a.p, .int .i64 a.q, .int .i64 a.a, .int .i64 a.c] 41))
    have zA := ht.size
    have CP := Lib.hid (put_any a 0 a.t hfa HA.out)
    clear hq1 hh ht hfa hG
    unfold Tv.val at CP ⊢
    go_wp2_with fail
    refine CP.out.mono ?_; rintro e w2 ⟨M2, hG, ht, h⟩
    have TB := Lib.hid (TA.out.trans GA.out ht)
    cases hq2 : put a 0 a.t s1 with
    | bad f =>
      rw [hq2] at h
      obtain rfl := h
      exact ⟨rfl, ends_bad (save_2 Q1.out hq2) TB.out rfl⟩
    | ok u s2 =>
      rw [hq2] at h
      obtain ⟨v, rfl, rfl, hh⟩ := h
      have HR := Lib.hid (save_3 Q1.out hq2)
      have H2 := Lib.hid (hh.slack (show σ + 1 + 1 ≤ σ + 4 by omega))
      have GB := Lib.hid (GA.out.trans hG (by simp; omega))
      have KB := Lib.hid ((ht.block w1.heap.size (by simp) (HA.out.lowP _ (Or.inr rfl)).2.2).trans KA.out)
      have zB : w1.heap.size + 1 ≤ w2.heap.size := by have := ht.size; simpa using this
      obtain ⟨⟨a0, a1, a2, a3, a4, a5⟩, -, al⟩ := blk6 KB.out
      obtain ⟨y, Pt⟩ := H2.out.parts
      have HPt := Lib.hid Pt
      have c9 := (ecells Pt.cells).c9
      have c10 := (ecells Pt.cells).c10
      have hlt := (ecells Pt.cells).lt
      clear hq2 hh ht hG Pt
      cases hgs : s2.groups with
      | nil =>
        obtain ⟨xs, hx, -, -⟩ := HPt.out.groups
        rw [hgs] at hx
        obtain ⟨A2, d2, hv⟩ := row_nil hx
        rw [hv] at c10
        have HRN : Hid (save s = .ok () { setMean a.t .var s2 with saving := true }) := by
          have e : addSaved a.t s2 = s2 := by unfold addSaved; rw [hgs]
          have := HR.out; rw [e] at this; exact this
        have HD := Lib.hid (H2.out.below (Below.refl _ _).drew)
        have PD := Lib.hid (Parts.below H2.out HPt.out (Below.refl _ _).drew)
        obtain ⟨hmM, N, hmap, hN⟩ := PD.out.map
        obtain ⟨D, hD, hsp⟩ := hmap.ex
        obtain ⟨w3, hrun, own3, gr3⟩ := World.ownsMap.update hD str_key Tryz.underlying45 (small_n hN H2.out.b1) (key := .string a.t) (val := .iface 95 (.agg #[])) (d := .held (.iface 95 (.agg #[]))) (ps := []) (WideMaps.keyOf_string_mk Tryz.underlying9 FA.out.ts) rfl
        have HM3 := Lib.hid (Holds.mapped (σ := σ + 1) (m := .var) HD.out PD.out FA.out.ts hD hsp hN rfl own3 gr3)
        have HF3 := Lib.hid (HM3.out.1.flag true)
        obtain ⟨y3, P3⟩ := HM3.out.1.parts
        have c11 := (ecells P3.cells).c11
        have f11 := (ecells P3.cells).fr 11
        have hlt3 := (ecells P3.cells).lt
        clear hx hv hgs hmap hD hsp hmM own3 gr3 P3 hN
        go_wp2_with fail
        go_region
        go_wp2_with fail
        go_end0
        exact ends_ok HRN.out GB.out (TB.out.trans GB.out (((Turns.refl _ _).drew.then HM3.out.2).then HF3.out.2)) rfl ((HF3.out.1.slack (by omega)).less (fun k hk => Or.inl hk))
      | cons g0 gs =>
        obtain ⟨xs, hx, hxM, hgr⟩ := HPt.out.groups
        rw [hgs] at hx hgr
        rw [List.reverse_cons, List.map_append, List.map_cons, List.map_nil] at hgr
        obtain ⟨xs', v0, cs, rfl, hrest, hown, hv0M, hsv, hdis⟩ := hgr.snoc
        rw [List.length_reverse] at hown
        obtain ⟨gg, cap, hvg, hcap, hggl, -⟩ := row_some hx
        obtain ⟨A0, c0, hv0⟩ : ∃ A0 c0, v0 = .slice A0 g0.length c0 := by
          rcases hown.2 with ⟨e, h0⟩ | ⟨g, c, cur, e, -⟩
          · exact ⟨none, 0, by rw [e, h0]⟩
          · exact ⟨_, _, e⟩
        have hx2 := hx
        rw [hvg] at hx2
        have hxl : xs'.length = gs.length := by have := hx.1; simp at this; omega
        have hcell : w2.cell? ⟨gg, gs.length, none⟩ = some v0 := by
          have h2 : w2.cell? ⟨gg, gs.length, none⟩ = (xs' ++ [v0])[gs.length]? := World.ownsRow.cellAt hx2 gs.length (by simp)
          rw [h2, List.getElem?_append_right (by omega), hxl, Nat.sub_self]; rfl
        have hfz : w2.frozen? ⟨gg, gs.length, none⟩ = false := World.ownsRow.frozenAt hx2 gs.length
        obtain ⟨gcur, hgcur⟩ := row_ty hx (k := gg) (by rw [hvg]; rfl)
        have hngg : some gg ≠ v0.ownBlock := fun e => by obtain ⟨cur, hc⟩ := row_ty hown e.symm; exact absurd (heap_inj hc hgcur) (by decide)
        have b4 := H2.out.b4
        have b1 := H2.out.b1
        have hsvd : g0.length ≤ 1000 + 4 * s2.steps := by have := HPt.out.pmap.2; have h3 : g0.length ≤ saved s2 := by unfold saved; rw [hgs]; simp
                                                          omega
        have hgl : gs.length ≤ 1000000 := by rw [hgs] at b4; simp at b4; omega
        have hg0 : g0.length ≤ 1000000 := by omega
        obtain ⟨kk, hkk⟩ : ∃ kk, kk = gs.length := ⟨_, rfl⟩
        obtain ⟨k0, hk0⟩ : ∃ k0, k0 = g0.length := ⟨_, rfl⟩
        rw [hvg, ← hkk] at c10
        rw [← hkk] at hcell hfz hgl hcap
        rw [← hk0] at hg0
        have hbg : ¬ b = gg := fun e => by rw [← e, HPt.out.cells] at hgcur; injection hgcur with hgcur; injection hgcur with _ h2; exact absurd h2 (by decide)
        have HNB : Hid (some b ≠ v0.ownBlock) := fun e => by obtain ⟨cur, hc⟩ := row_ty hown e.symm; exact absurd (heap_inj hc HPt.out.cells) (by decide)
        have HNT : Hid (some w1.heap.size ≠ v0.ownBlock) := fun e => (H2.out.lowP w1.heap.size (Or.inr rfl)).2.2 (hv0M _ e.symm)
        have htg : ¬ w1.heap.size = gg := fun e => (H2.out.lowP w1.heap.size (Or.inr rfl)).2.2 (hxM _ (by rw [hvg, e]; rfl))
        have htg2 : ¬ gg = w1.heap.size := fun e => htg e.symm
        have hbg2 : ¬ gg = b := fun e => hbg e.symm
        obtain ⟨i0, hi, hz0, hz1, hz2⟩ := info_parts info_saved
        obtain ⟨v5, hv5, hnm5⟩ := nameMeaning_at a.t FA.out.ts H2.out.drew
        obtain ⟨T5, p5, rfl⟩ := mean_iface hv5
        have HV5 := Lib.hid hv5
        have NMM := Lib.hid (hnm5.mono fun e w' h => And.intro h.1 h.2.symm)
        clear hnm5 hv5
        have HOWN : Hid (w2.ownsRow B 162 2 v0 k0 cs) := by rw [hk0]; exact hown
        have HSUM : Hid (∀ {W w1' : World} {g1 cap1 : Nat} {v : Value}, IsMean w2 (uni M2 (also P w1.heap.size)) v (s2.means a.t) → Below w2.heap.size w2 W → w1'.ownsRow B 162 2 (.slice (some ⟨g1, 0, none⟩) (k0 + 1) cap1) (k0 + 1) (cs ++ [.string a.t, v]) → W.grownBy w1' v0.ownBlock → (some g1 = v0.ownBlock ∨ some g1 = some W.heap.size) →
            ∃ M', Grows w2 M2 M' ∧ Turns M2 w2 (w1'.setCell ⟨gg, kk, none⟩ (.slice (some ⟨g1, 0, none⟩) (k0 + 1) cap1)) ∧ Holds (w1'.setCell ⟨gg, kk, none⟩ (.slice (some ⟨g1, 0, none⟩) (k0 + 1) cap1)) B b (σ + 1) M' (also P w1.heap.size) (addSaved a.t s2)) := fun hm hW o1 g1 l1 => by
          subst hkk hk0
          exact Holds.grouped H2.out HPt.out hgs hvg hx hrest hown hv0M (by exact hsv) hdis FA.out.ts hm hW o1 g1 l1
        have HCS : Hid (w2.ownsRow B 162 2 (.slice A0 k0 c0) k0 cs) := by have := HOWN.out; rw [hv0, ← hk0] at this; exact this
        have HNG := Lib.hid hngg
        rw [hv0] at hcell
        have HV0 := Lib.hid hv0
        rw [← hk0] at hcell
        clear hgs hx hxM hgr hrest hown hv0M hsv hdis hvg hx2 hxl hgcur hngg b4 b1 hsvd hkk hk0 hv0
        have HOWN2 : Hid (w2.drew.ownsRow B 162 2 (.slice A0 k0 c0) k0 cs) := by
          have h0 : w2.ownsRow B 162 2 (.slice A0 k0 c0) k0 cs := HCS.out
          exact h0
        have HCG := Lib.hid (fun (w1' : World) (h : w1'.heap[gg]? = w2.heap[gg]?) => And.intro ((World.cell?_of_block (a := ⟨gg, kk, none⟩) h).trans hcell) ((World.frozen?_of_block (a := ⟨gg, kk, none⟩) h).trans hfz))
        have bb := H2.out.Bs
        have HNG2 : Hid (some gg ≠ (Value.slice A0 k0 c0).ownBlock) := fun e => by have h := HNG.out; rw [HV0.out] at h; exact h (e.trans (own_len A0 _ _ c0))
        have HSUM2 : Hid (∀ {w1' : World} {g1 cap1 : Nat}, w1'.ownsRow B 162 2 (.slice (some ⟨g1, 0, none⟩) (k0 + 1) cap1) (k0 + 1) (cs ++ [.string a.t, .iface T5 p5]) → (w2.alloc (.cells #[.string a.t, .iface T5 p5] 162)).drew.grownBy w1' (Value.slice A0 k0 c0).ownBlock → (some g1 = (Value.slice A0 k0 c0).ownBlock ∨ some g1 = some (w2.alloc (.cells #[.string a.t, .iface T5 p5] 162)).drew.heap.size) →
            ∃ M', Grows w2 M2 M' ∧ Turns M2 w2 (w1'.setCell ⟨gg, kk, none⟩ (.slice (some ⟨g1, 0, none⟩) (k0 + 1) cap1)) ∧ Holds (w1'.setCell ⟨gg, kk, none⟩ (.slice (some ⟨g1, 0, none⟩) (k0 + 1) cap1)) B b (σ + 1) M' (also P w1.heap.size) (addSaved a.t s2)) := fun o1 g1 l1 =>
          HSUM.out (HV5.out.turn (turns_undrew _ _) (Grows.refl _ _)) (((Below.refl w2.heap.size w2).alloc (Nat.le_refl _) _).drew) o1 (by rw [HV0.out]; rw [own_len A0 _ k0 c0]; exact g1) (by rw [HV0.out]; rw [own_len A0 _ k0 c0]; exact l1)
        have HGW : Hid (∀ {w1' : World}, (w2.alloc (.cells #[.string a.t, .iface T5 p5] 162)).drew.grownBy w1' (Value.slice A0 k0 c0).ownBlock → w1'.heap[gg]? = w2.heap[gg]?) := fun gr1 =>
          (gr1.block gg (by simp; omega) HNG2.out).trans (Below.heap_alloc w2.drew _ gg hggl)
        have HBW : Hid (∀ {w1' : World}, (w2.alloc (.cells #[.string a.t, .iface T5 p5] 162)).drew.grownBy w1' (Value.slice A0 k0 c0).ownBlock → w1'.cell? ⟨b, 10, none⟩ = some (.slice (some ⟨gg, 0, none⟩) (kk + 1) cap)) := fun gr1 =>
          (World.cell?_of_block (a := ⟨b, 10, none⟩) ((gr1.block b (by simp; omega) (fun e => by have h := HNB.out; rw [HV0.out] at h; exact h (e.trans (own_len A0 _ _ c0)))).trans (Below.heap_alloc w2.drew _ b hlt))).trans c10
        have HTW : Hid (∀ {w1' : World}, (w2.alloc (.cells #[.string a.t, .iface T5 p5] 162)).drew.grownBy w1' (Value.slice A0 k0 c0).ownBlock → w1'.cell? ⟨w1.heap.size, 1, none⟩ = some (.string a.t)) := fun gr1 =>
          (World.cell?_of_block (a := ⟨w1.heap.size, 1, none⟩) ((gr1.block w1.heap.size (by simp; omega) (fun e => by have h := HNT.out; rw [HV0.out] at h; exact h (e.trans (own_len A0 _ _ c0)))).trans (Below.heap_alloc w2.drew _ w1.heap.size (by show w1.heap.size < w2.heap.size; omega)))).trans a1
        go_upto_if 17 with fail
        go_cut [] (fun wx => ∃ M', Grows w2 M2 M' ∧ Turns M2 w2 wx ∧ Holds wx B b (σ + 1) M' (also P w1.heap.size) (addSaved a.t s2))
        case first =>
          go_wp2_with fail
          have hkw := wrap_small hgl
          have hkt : ((kk : Int)).toNat = kk := Int.toNat_natCast kk
          have hk0' : (0 : Int) ≤ (kk : Int) := Int.natCast_nonneg kk
          have hk1 : (kk : Int) < (kk : Int) + 1 := Int.lt_succ _
          refine wp_region_held_drew (S := fun W => W.cell? ⟨b, 10, none⟩ = some (.slice (some ⟨gg, 0, none⟩) (kk + 1) cap) ∧ W.cell? ⟨w1.heap.size, 1, none⟩ = some (.string a.t)) (by kernel_rfl) (by refine ⟨?_, ?_⟩ <;> first | assumption | (go_simp; done)) (fun hHeld => ?_)
          (refine' wpAnyH_take (i := 0) ?zhi_0_1 ?zhs_0_1 ?zhf_0_1 ?zhr_0_1 ?zhQ_0_1 (Or.inl ⟨?zhw_0_1, ?zhy_0_1⟩) (by assumption) ?zrest_0_1; (case zhi_0_1 => ((try simp only [List.getElem?_toArray, List.getElem?_cons_succ, List.getElem?_cons_zero]); exact rfl)); (case zhs_0_1 => kernel_rfl); (case zhf_0_1 => kernel_rfl); (case zhr_0_1 => kernel_rfl); (case zhQ_0_1 => exact fun _ _ _ h => h); (case zhw_0_1 => rfl); (case zhy_0_1 => ((intro w hSw; (try dsimp only at hSw); go_simp) <;> with_reducible rfl)); (try simp only [Act.put, List.setIfInBounds_toArray, List.set_cons_zero, List.set_cons_succ]))
          (refine' wpAnyH_take (i := 1) ?zhi_1_2 ?zhs_1_2 ?zhf_1_2 ?zhr_1_2 ?zhQ_1_2 (Or.inl ⟨?zhw_1_2, ?zhy_1_2⟩) (by assumption) ?zrest_1_2; (case zhi_1_2 => ((try simp only [List.getElem?_toArray, List.getElem?_cons_succ, List.getElem?_cons_zero]); exact rfl)); (case zhs_1_2 => kernel_rfl); (case zhf_1_2 => kernel_rfl); (case zhr_1_2 => kernel_rfl); (case zhQ_1_2 => exact fun _ _ _ h => h); (case zhw_1_2 => rfl); (case zhy_1_2 => ((intro w hSw; (try dsimp only at hSw); go_simp) <;> with_reducible rfl)); (try simp only [Act.put, List.setIfInBounds_toArray, List.set_cons_zero, List.set_cons_succ]))
          (refine' wpAnyH_take (i := 2) ?zhi_2_3 ?zhs_2_3 ?zhf_2_3 ?zhr_2_3 ?zhQ_2_3 (Or.inl ⟨?zhw_2_3, ?zhy_2_3⟩) (by assumption) ?zrest_2_3; (case zhi_2_3 => ((try simp only [List.getElem?_toArray, List.getElem?_cons_succ, List.getElem?_cons_zero]); exact rfl)); (case zhs_2_3 => kernel_rfl); (case zhf_2_3 => kernel_rfl); (case zhr_2_3 => kernel_rfl); (case zhQ_2_3 => exact fun _ _ _ h => h); (case zhw_2_3 => rfl); (case zhy_2_3 => ((intro w hSw; (try dsimp only at hSw); go_simp) <;> with_reducible rfl)); (try simp only [Act.put, List.setIfInBounds_toArray, List.set_cons_zero, List.set_cons_succ]))
          (refine' wpAnyH_take (i := 3) ?zhi_3_4 ?zhs_3_4 ?zhf_3_4 ?zhr_3_4 ?zhQ_3_4 (Or.inl ⟨?zhw_3_4, ?zhy_3_4⟩) (by assumption) ?zrest_3_4; (case zhi_3_4 => ((try simp only [List.getElem?_toArray, List.getElem?_cons_succ, List.getElem?_cons_zero]); exact rfl)); (case zhs_3_4 => kernel_rfl); (case zhf_3_4 => kernel_rfl); (case zhr_3_4 => kernel_rfl); (case zhQ_3_4 => exact fun _ _ _ h => h); (case zhw_3_4 => rfl); (case zhy_3_4 => ((intro w hSw; (try dsimp only at hSw); go_simp) <;> with_reducible rfl)); (try simp only [Act.put, List.setIfInBounds_toArray, List.set_cons_zero, List.set_cons_succ]))
          (refine' wpAnyH_take (i := 4) ?zhi_4_5 ?zhs_4_5 ?zhf_4_5 ?zhr_4_5 ?zhQ_4_5 (Or.inl ⟨?zhw_4_5, ?zhy_4_5⟩) (by assumption) ?zrest_4_5; (case zhi_4_5 => ((try simp only [List.getElem?_toArray, List.getElem?_cons_succ, List.getElem?_cons_zero]); exact rfl)); (case zhs_4_5 => kernel_rfl); (case zhf_4_5 => kernel_rfl); (case zhr_4_5 => kernel_rfl); (case zhQ_4_5 => exact fun _ _ _ h => h); (case zhw_4_5 => rfl); (case zhy_4_5 => ((intro w hSw; (try dsimp only at hSw); go_simp) <;> with_reducible rfl)); (try simp only [Act.put, List.setIfInBounds_toArray, List.set_cons_zero, List.set_cons_succ]))
          (refine' wpAnyH_take (i := 5) ?zhi_5_6 ?zhs_5_6 ?zhf_5_6 ?zhr_5_6 ?zhQ_5_6 (Or.inl ⟨?zhw_5_6, ?zhy_5_6⟩) (by assumption) ?zrest_5_6; (case zhi_5_6 => ((try simp only [List.getElem?_toArray, List.getElem?_cons_succ, List.getElem?_cons_zero]); exact rfl)); (case zhs_5_6 => kernel_rfl); (case zhf_5_6 => kernel_rfl); (case zhr_5_6 => kernel_rfl); (case zhQ_5_6 => exact fun _ _ _ h => h); (case zhw_5_6 => rfl); (case zhy_5_6 => ((intro w hSw; (try dsimp only at hSw); go_simp) <;> with_reducible rfl)); (try simp only [Act.put, List.setIfInBounds_toArray, List.set_cons_zero, List.set_cons_succ]))
          (refine' wpAnyH_take (i := 6) ?zhi_6_7 ?zhs_6_7 ?zhf_6_7 ?zhr_6_7 ?zhQ_6_7 (Or.inl ⟨?zhw_6_7, ?zhy_6_7⟩) (by assumption) ?zrest_6_7; (case zhi_6_7 => ((try simp only [List.getElem?_toArray, List.getElem?_cons_succ, List.getElem?_cons_zero]); exact rfl)); (case zhs_6_7 => kernel_rfl); (case zhf_6_7 => kernel_rfl); (case zhr_6_7 => kernel_rfl); (case zhQ_6_7 => exact fun _ _ _ h => h); (case zhw_6_7 => rfl); (case zhy_6_7 => ((intro w hSw; (try dsimp only at hSw); go_simp) <;> with_reducible rfl)); (try simp only [Act.put, List.setIfInBounds_toArray, List.set_cons_zero, List.set_cons_succ]))
          (refine' wpAnyH_take (i := 7) ?zhi_7_8 ?zhs_7_8 ?zhf_7_8 ?zhr_7_8 ?zhQ_7_8 (Or.inl ⟨?zhw_7_8, ?zhy_7_8⟩) (by assumption) ?zrest_7_8; (case zhi_7_8 => ((try simp only [List.getElem?_toArray, List.getElem?_cons_succ, List.getElem?_cons_zero]); exact rfl)); (case zhs_7_8 => kernel_rfl); (case zhf_7_8 => kernel_rfl); (case zhr_7_8 => kernel_rfl); (case zhQ_7_8 => exact fun _ _ _ h => h); (case zhw_7_8 => rfl); (case zhy_7_8 => ((intro w hSw; (try dsimp only at hSw); go_simp) <;> with_reducible rfl)); (try simp only [Act.put, List.setIfInBounds_toArray, List.set_cons_zero, List.set_cons_succ]))
          (refine' wpAnyH_take (i := 8) ?zhi_8_9 ?zhs_8_9 ?zhf_8_9 ?zhr_8_9 ?zhQ_8_9 (Or.inl ⟨?zhw_8_9, ?zhy_8_9⟩) (by assumption) ?zrest_8_9; (case zhi_8_9 => ((try simp only [List.getElem?_toArray, List.getElem?_cons_succ, List.getElem?_cons_zero]); exact rfl)); (case zhs_8_9 => kernel_rfl); (case zhf_8_9 => kernel_rfl); (case zhr_8_9 => kernel_rfl); (case zhQ_8_9 => exact fun _ _ _ h => h); (case zhw_8_9 => rfl); (case zhy_8_9 => ((intro w hSw; (try dsimp only at hSw); go_simp) <;> with_reducible rfl)); (try simp only [Act.put, List.setIfInBounds_toArray, List.set_cons_zero, List.set_cons_succ]))
          (refine' wpAnyH_take (i := 9) ?zhi_9_10 ?zhs_9_10 ?zhf_9_10 ?zhr_9_10 ?zhQ_9_10 (Or.inl ⟨?zhw_9_10, ?zhy_9_10⟩) (by assumption) ?zrest_9_10; (case zhi_9_10 => ((try simp only [List.getElem?_toArray, List.getElem?_cons_succ, List.getElem?_cons_zero]); exact rfl)); (case zhs_9_10 => kernel_rfl); (case zhf_9_10 => kernel_rfl); (case zhr_9_10 => kernel_rfl); (case zhQ_9_10 => exact fun _ _ _ h => h); (case zhw_9_10 => rfl); (case zhy_9_10 => ((intro w hSw; (try dsimp only at hSw); go_simp) <;> with_reducible rfl)); (try simp only [Act.put, List.setIfInBounds_toArray, List.set_cons_zero, List.set_cons_succ]))
          (refine' wpAnyH_take (i := 10) ?zhi_10_11 ?zhs_10_11 ?zhf_10_11 ?zhr_10_11 ?zhQ_10_11 (Or.inl ⟨?zhw_10_11, ?zhy_10_11⟩) (by assumption) ?zrest_10_11; (case zhi_10_11 => ((try simp only [List.getElem?_toArray, List.getElem?_cons_succ, List.getElem?_cons_zero]); exact rfl)); (case zhs_10_11 => kernel_rfl); (case zhf_10_11 => kernel_rfl); (case zhr_10_11 => kernel_rfl); (case zhQ_10_11 => exact fun _ _ _ h => h); (case zhw_10_11 => rfl); (case zhy_10_11 => ((intro w hSw; (try dsimp only at hSw); go_simp) <;> with_reducible rfl)); (try simp only [Act.put, List.setIfInBounds_toArray, List.set_cons_zero, List.set_cons_succ]))
          (refine' wpAnyH_take (i := 11) ?zhi_11_12 ?zhs_11_12 ?zhf_11_12 ?zhr_11_12 ?zhQ_11_12 (Or.inl ⟨?zhw_11_12, ?zhy_11_12⟩) (by assumption) ?zrest_11_12; (case zhi_11_12 => ((try simp only [List.getElem?_toArray, List.getElem?_cons_succ, List.getElem?_cons_zero]); exact rfl)); (case zhs_11_12 => kernel_rfl); (case zhf_11_12 => kernel_rfl); (case zhr_11_12 => kernel_rfl); (case zhQ_11_12 => exact fun _ _ _ h => h); (case zhw_11_12 => rfl); (case zhy_11_12 => ((intro w hSw; (try dsimp only at hSw); go_simp) <;> with_reducible rfl)); (try simp only [Act.put, List.setIfInBounds_toArray, List.set_cons_zero, List.set_cons_succ]))
          (refine' wpAnyH_take (i := 12) ?zhi_12_13 ?zhs_12_13 ?zhf_12_13 ?zhr_12_13 ?zhQ_12_13 (Or.inl ⟨?zhw_12_13, ?zhy_12_13⟩) (by assumption) ?zrest_12_13; (case zhi_12_13 => ((try simp only [List.getElem?_toArray, List.getElem?_cons_succ, List.getElem?_cons_zero]); exact rfl)); (case zhs_12_13 => kernel_rfl); (case zhf_12_13 => kernel_rfl); (case zhr_12_13 => kernel_rfl); (case zhQ_12_13 => exact fun _ _ _ h => h); (case zhw_12_13 => rfl); (case zhy_12_13 => ((intro w hSw; (try dsimp only at hSw); go_simp) <;> with_reducible rfl)); (try simp only [Act.put, List.setIfInBounds_toArray, List.set_cons_zero, List.set_cons_succ]))
          (refine' wpAnyH_take (i := 14) ?zhi_14_14 ?zhs_14_14 ?zhf_14_14 ?zhr_14_14 ?zhQ_14_14 (Or.inl ⟨?zhw_14_14, ?zhy_14_14⟩) (by assumption) ?zrest_14_14; (case zhi_14_14 => ((try simp only [List.getElem?_toArray, List.getElem?_cons_succ, List.getElem?_cons_zero]); exact rfl)); (case zhs_14_14 => kernel_rfl); (case zhf_14_14 => kernel_rfl); (case zhr_14_14 => kernel_rfl); (case zhQ_14_14 => exact fun _ _ _ h => h); (case zhw_14_14 => rfl); (case zhy_14_14 => ((intro w hSw; (try dsimp only at hSw); go_simp) <;> with_reducible rfl)); (try simp only [Act.put, List.setIfInBounds_toArray, List.set_cons_zero, List.set_cons_succ]))
          (refine' wpAnyH_take (i := 15) ?zhi_15_15 ?zhs_15_15 ?zhf_15_15 ?zhr_15_15 ?zhQ_15_15 (Or.inl ⟨?zhw_15_15, ?zhy_15_15⟩) (by assumption) ?zrest_15_15; (case zhi_15_15 => ((try simp only [List.getElem?_toArray, List.getElem?_cons_succ, List.getElem?_cons_zero]); exact rfl)); (case zhs_15_15 => kernel_rfl); (case zhf_15_15 => kernel_rfl); (case zhr_15_15 => kernel_rfl); (case zhQ_15_15 => exact fun _ _ _ h => h); (case zhw_15_15 => rfl); (case zhy_15_15 => ((intro w hSw; (try dsimp only at hSw); go_simp) <;> with_reducible rfl)); (try simp only [Act.put, List.setIfInBounds_toArray, List.set_cons_zero, List.set_cons_succ]))
          (refine' wpAnyH_take (i := 16) ?zhi_16_16 ?zhs_16_16 ?zhf_16_16 ?zhr_16_16 ?zhQ_16_16 (Or.inl ⟨?zhw_16_16, ?zhy_16_16⟩) (by assumption) ?zrest_16_16; (case zhi_16_16 => ((try simp only [List.getElem?_toArray, List.getElem?_cons_succ, List.getElem?_cons_zero]); exact rfl)); (case zhs_16_16 => kernel_rfl); (case zhf_16_16 => kernel_rfl); (case zhr_16_16 => kernel_rfl); (case zhQ_16_16 => exact fun _ _ _ h => h); (case zhw_16_16 => rfl); (case zhy_16_16 => ((intro w hSw; (try dsimp only at hSw); go_simp) <;> with_reducible rfl)); (try simp only [Act.put, List.setIfInBounds_toArray, List.set_cons_zero, List.set_cons_succ]))
          (refine' wpAnyH_take (i := 17) ?zhi_17_17 ?zhs_17_17 ?zhf_17_17 ?zhr_17_17 ?zhQ_17_17 (Or.inl ⟨?zhw_17_17, ?zhy_17_17⟩) (by assumption) ?zrest_17_17; (case zhi_17_17 => ((try simp only [List.getElem?_toArray, List.getElem?_cons_succ, List.getElem?_cons_zero]); exact rfl)); (case zhs_17_17 => kernel_rfl); (case zhf_17_17 => kernel_rfl); (case zhr_17_17 => kernel_rfl); (case zhQ_17_17 => exact fun _ _ _ h => h); (case zhw_17_17 => rfl); (case zhy_17_17 => ((intro w hSw; (try dsimp only at hSw); go_simp) <;> with_reducible rfl)); (try simp only [Act.put, List.setIfInBounds_toArray, List.set_cons_zero, List.set_cons_succ]))
          (refine' wpAnyH_take (i := 18) ?zhi_18_18 ?zhs_18_18 ?zhf_18_18 ?zhr_18_18 ?zhQ_18_18 (Or.inl ⟨?zhw_18_18, ?zhy_18_18⟩) (by assumption) ?zrest_18_18; (case zhi_18_18 => ((try simp only [List.getElem?_toArray, List.getElem?_cons_succ, List.getElem?_cons_zero]); exact rfl)); (case zhs_18_18 => kernel_rfl); (case zhf_18_18 => kernel_rfl); (case zhr_18_18 => kernel_rfl); (case zhQ_18_18 => exact fun _ _ _ h => h); (case zhw_18_18 => rfl); (case zhy_18_18 => ((intro w hSw; (try dsimp only at hSw); go_simp) <;> with_reducible rfl)); (try simp only [Act.put, List.setIfInBounds_toArray, List.set_cons_zero, List.set_cons_succ]))
          refine wpAnyH_ready (rs := [13, 19]) (by kernel_rfl) (by simp) ?_
          refine' AllReadyH.cons ?yho_19_0 (fun K hK => ?yst_19_0) ?ymo_19_0; (case yho_19_0 => ((try simp only [List.getElem?_toArray, List.getElem?_cons_succ, List.getElem?_cons_zero]); exact rfl))
          case yst_19_0 =>
            go_simp
            refine hK.out _ _ (by refine ⟨?_, ?_⟩ <;> first | assumption | (go_simp; done)) (fun hHeld => ?_); clear hK K; (try simp only [Act.put, List.setIfInBounds_toArray, List.set_cons_zero, List.set_cons_succ])
            refine wpAnyH_ready (rs := [19]) (by kernel_rfl) (by simp) ?_
            refine' AllReadyH.cons ?yho_20_0 (fun K hK => ?yst_20_0) ?ymo_20_0; (case yho_20_0 => ((try simp only [List.getElem?_toArray, List.getElem?_cons_succ, List.getElem?_cons_zero]); exact rfl))
            case yst_20_0 =>
              (go_simp; go_at_call 91; refine NMM.out.mono ?_; rintro e w5 ⟨rfl, rfl⟩; (try go_wp2_with fail))
              refine hK.out _ _ (by refine ⟨?_, ?_⟩ <;> first | assumption | (go_simp; done)) (fun hHeld => ?_); clear hK K; (try simp only [Act.put, List.setIfInBounds_toArray, List.set_cons_zero, List.set_cons_succ])
              (refine' wpAnyH_take (i := 20) ?zhi_20_21 ?zhs_20_21 ?zhf_20_21 ?zhr_20_21 ?zhQ_20_21 (Or.inl ⟨?zhw_20_21, ?zhy_20_21⟩) (by assumption) ?zrest_20_21; (case zhi_20_21 => ((try simp only [List.getElem?_toArray, List.getElem?_cons_succ, List.getElem?_cons_zero]); exact rfl)); (case zhs_20_21 => kernel_rfl); (case zhf_20_21 => kernel_rfl); (case zhr_20_21 => kernel_rfl); (case zhQ_20_21 => exact fun _ _ _ h => h); (case zhw_20_21 => rfl); (case zhy_20_21 => ((intro w hSw; (try dsimp only at hSw); go_simp) <;> with_reducible rfl)); (try simp only [Act.put, List.setIfInBounds_toArray, List.set_cons_zero, List.set_cons_succ]))
              refine wpAnyH_ready (rs := [21]) (by kernel_rfl) (by simp) ?_
              refine' AllReadyH.cons ?yho_22_0 (fun K hK => ?yst_22_0) ?ymo_22_0; (case yho_22_0 => ((try simp only [List.getElem?_toArray, List.getElem?_cons_succ, List.getElem?_cons_zero]); exact rfl))
              case yst_22_0 =>
                go_simp
                refine hK.out _ _ (by refine ⟨?_, ?_⟩ <;> first | assumption | (go_simp; done)) (fun hHeld => ?_); clear hK K; (try simp only [Act.put, List.setIfInBounds_toArray, List.set_cons_zero, List.set_cons_succ])
                refine wpAnyH_ready (rs := [22]) (by kernel_rfl) (by simp) ?_
                refine' AllReadyH.cons ?yho_23_0 (fun K hK => ?yst_23_0) ?ymo_23_0; (case yho_23_0 => ((try simp only [List.getElem?_toArray, List.getElem?_cons_succ, List.getElem?_cons_zero]); exact rfl))
                case yst_23_0 =>
                  (refine step_own rfl (.tmp 31) (.tmp 39) 160 rfl B 162 i0 (.agg #[.string ⟨#[]⟩, .nilIface]) 2 32 Tryz.underlying160 hi hz0 hz1 hz2 rfl (by decide) (.slice A0 k0 c0) k0 cs (by simp [Act.eval]) (HOWN2.out.alloc _) ⟨w2.heap.size, 0, none⟩ 1 1 [.string a.t, .iface T5 p5] (by simp [Act.eval]) rfl (new_cells (heap_alloc_new w2.drew _)) (two_one HV5.out a.t) (by unfold maxLen; omega) (by omega) (by simp; omega) ?_; intro v1 w1' own1 gr1 loc1; obtain ⟨g1, cap1, rfl, -, -, -⟩ := row_some own1; obtain ⟨gc1, gc2⟩ := HCG.out w1' (HGW.out gr1); have bc1 := HBW.out gr1; have tc1 := HTW.out gr1; have HG := Lib.hid (HSUM2.out own1 gr1 loc1); clear own1 gr1 loc1; try go_simp)
                  refine hK.out _ _ (by refine ⟨?_, ?_⟩ <;> first | assumption | (go_simp; done)) (fun hHeld => ?_); clear hK K; (try simp only [Act.put, List.setIfInBounds_toArray, List.set_cons_zero, List.set_cons_succ])
                  (refine' wpAnyH_take (i := 23) ?zhi_23_24 ?zhs_23_24 ?zhf_23_24 ?zhr_23_24 ?zhQ_23_24 (Or.inl ⟨?zhw_23_24, ?zhy_23_24⟩) (by assumption) ?zrest_23_24; (case zhi_23_24 => ((try simp only [List.getElem?_toArray, List.getElem?_cons_succ, List.getElem?_cons_zero]); exact rfl)); (case zhs_23_24 => kernel_rfl); (case zhf_23_24 => kernel_rfl); (case zhr_23_24 => kernel_rfl); (case zhQ_23_24 => exact fun _ _ _ h => h); (case zhw_23_24 => rfl); (case zhy_23_24 => ((intro w hSw; (try dsimp only at hSw); go_simp) <;> with_reducible rfl)); (try simp only [Act.put, List.setIfInBounds_toArray, List.set_cons_zero, List.set_cons_succ]))
                  refine wpAnyH_ready (rs := [24]) (by kernel_rfl) (by simp) ?_
                  refine' AllReadyH.cons ?yho_25_0 (fun K hK => ?yst_25_0) ?ymo_25_0; (case yho_25_0 => ((try simp only [List.getElem?_toArray, List.getElem?_cons_succ, List.getElem?_cons_zero]); exact rfl))
                  case yst_25_0 =>
                    go_simp
                    refine hK.out _ _ (by refine ⟨?_, ?_⟩ <;> first | assumption | (go_simp; done)) (fun hHeld => ?_); clear hK K; (try simp only [Act.put, List.setIfInBounds_toArray, List.set_cons_zero, List.set_cons_succ])
                    refine wpAnyH_done (by kernel_rfl) ?_ _
                    go_wp2_with fail
                    go_meet
                    exact HG.out
                  exact AllReadyH.nil
                exact AllReadyH.nil
              exact AllReadyH.nil
            exact AllReadyH.nil
          refine' AllReadyH.cons ?yho_19_1 (fun K hK => ?yst_19_1) ?ymo_19_1; (case yho_19_1 => ((try simp only [List.getElem?_toArray, List.getElem?_cons_succ, List.getElem?_cons_zero]); exact rfl))
          case yst_19_1 =>
            (go_simp; go_at_call 91; refine NMM.out.mono ?_; rintro e w5 ⟨rfl, rfl⟩; (try go_wp2_with fail))
            refine hK.out _ _ (by refine ⟨?_, ?_⟩ <;> first | assumption | (go_simp; done)) (fun hHeld => ?_); clear hK K; (try simp only [Act.put, List.setIfInBounds_toArray, List.set_cons_zero, List.set_cons_succ])
            (refine' wpAnyH_take (i := 20) ?zhi_20_26 ?zhs_20_26 ?zhf_20_26 ?zhr_20_26 ?zhQ_20_26 (Or.inl ⟨?zhw_20_26, ?zhy_20_26⟩) (by assumption) ?zrest_20_26; (case zhi_20_26 => ((try simp only [List.getElem?_toArray, List.getElem?_cons_succ, List.getElem?_cons_zero]); exact rfl)); (case zhs_20_26 => kernel_rfl); (case zhf_20_26 => kernel_rfl); (case zhr_20_26 => kernel_rfl); (case zhQ_20_26 => exact fun _ _ _ h => h); (case zhw_20_26 => rfl); (case zhy_20_26 => ((intro w hSw; (try dsimp only at hSw); go_simp) <;> with_reducible rfl)); (try simp only [Act.put, List.setIfInBounds_toArray, List.set_cons_zero, List.set_cons_succ]))
            refine wpAnyH_ready (rs := [13, 21]) (by kernel_rfl) (by simp) ?_
            refine' AllReadyH.cons ?yho_27_0 (fun K hK => ?yst_27_0) ?ymo_27_0; (case yho_27_0 => ((try simp only [List.getElem?_toArray, List.getElem?_cons_succ, List.getElem?_cons_zero]); exact rfl))
            case yst_27_0 =>
              go_simp
              refine hK.out _ _ (by refine ⟨?_, ?_⟩ <;> first | assumption | (go_simp; done)) (fun hHeld => ?_); clear hK K; (try simp only [Act.put, List.setIfInBounds_toArray, List.set_cons_zero, List.set_cons_succ])
              refine wpAnyH_ready (rs := [21]) (by kernel_rfl) (by simp) ?_
              refine' AllReadyH.cons ?yho_28_0 (fun K hK => ?yst_28_0) ?ymo_28_0; (case yho_28_0 => ((try simp only [List.getElem?_toArray, List.getElem?_cons_succ, List.getElem?_cons_zero]); exact rfl))
              case yst_28_0 =>
                go_simp
                refine hK.out _ _ (by refine ⟨?_, ?_⟩ <;> first | assumption | (go_simp; done)) (fun hHeld => ?_); clear hK K; (try simp only [Act.put, List.setIfInBounds_toArray, List.set_cons_zero, List.set_cons_succ])
                refine wpAnyH_ready (rs := [22]) (by kernel_rfl) (by simp) ?_
                refine' AllReadyH.cons ?yho_29_0 (fun K hK => ?yst_29_0) ?ymo_29_0; (case yho_29_0 => ((try simp only [List.getElem?_toArray, List.getElem?_cons_succ, List.getElem?_cons_zero]); exact rfl))
                case yst_29_0 =>
                  (refine step_own rfl (.tmp 31) (.tmp 39) 160 rfl B 162 i0 (.agg #[.string ⟨#[]⟩, .nilIface]) 2 32 Tryz.underlying160 hi hz0 hz1 hz2 rfl (by decide) (.slice A0 k0 c0) k0 cs (by simp [Act.eval]) (HOWN2.out.alloc _) ⟨w2.heap.size, 0, none⟩ 1 1 [.string a.t, .iface T5 p5] (by simp [Act.eval]) rfl (new_cells (heap_alloc_new w2.drew _)) (two_one HV5.out a.t) (by unfold maxLen; omega) (by omega) (by simp; omega) ?_; intro v1 w1' own1 gr1 loc1; obtain ⟨g1, cap1, rfl, -, -, -⟩ := row_some own1; obtain ⟨gc1, gc2⟩ := HCG.out w1' (HGW.out gr1); have bc1 := HBW.out gr1; have tc1 := HTW.out gr1; have HG := Lib.hid (HSUM2.out own1 gr1 loc1); clear own1 gr1 loc1; try go_simp)
                  refine hK.out _ _ (by refine ⟨?_, ?_⟩ <;> first | assumption | (go_simp; done)) (fun hHeld => ?_); clear hK K; (try simp only [Act.put, List.setIfInBounds_toArray, List.set_cons_zero, List.set_cons_succ])
                  (refine' wpAnyH_take (i := 23) ?zhi_23_30 ?zhs_23_30 ?zhf_23_30 ?zhr_23_30 ?zhQ_23_30 (Or.inl ⟨?zhw_23_30, ?zhy_23_30⟩) (by assumption) ?zrest_23_30; (case zhi_23_30 => ((try simp only [List.getElem?_toArray, List.getElem?_cons_succ, List.getElem?_cons_zero]); exact rfl)); (case zhs_23_30 => kernel_rfl); (case zhf_23_30 => kernel_rfl); (case zhr_23_30 => kernel_rfl); (case zhQ_23_30 => exact fun _ _ _ h => h); (case zhw_23_30 => rfl); (case zhy_23_30 => ((intro w hSw; (try dsimp only at hSw); go_simp) <;> with_reducible rfl)); (try simp only [Act.put, List.setIfInBounds_toArray, List.set_cons_zero, List.set_cons_succ]))
                  refine wpAnyH_ready (rs := [24]) (by kernel_rfl) (by simp) ?_
                  refine' AllReadyH.cons ?yho_31_0 (fun K hK => ?yst_31_0) ?ymo_31_0; (case yho_31_0 => ((try simp only [List.getElem?_toArray, List.getElem?_cons_succ, List.getElem?_cons_zero]); exact rfl))
                  case yst_31_0 =>
                    go_simp
                    refine hK.out _ _ (by refine ⟨?_, ?_⟩ <;> first | assumption | (go_simp; done)) (fun hHeld => ?_); clear hK K; (try simp only [Act.put, List.setIfInBounds_toArray, List.set_cons_zero, List.set_cons_succ])
                    refine wpAnyH_done (by kernel_rfl) ?_ _
                    go_wp2_with fail
                    go_meet
                    exact HG.out
                  exact AllReadyH.nil
                exact AllReadyH.nil
              exact AllReadyH.nil
            refine' AllReadyH.cons ?yho_27_1 (fun K hK => ?yst_27_1) ?ymo_27_1; (case yho_27_1 => ((try simp only [List.getElem?_toArray, List.getElem?_cons_succ, List.getElem?_cons_zero]); exact rfl))
            case yst_27_1 =>
              go_simp
              refine hK.out _ _ (by refine ⟨?_, ?_⟩ <;> first | assumption | (go_simp; done)) (fun hHeld => ?_); clear hK K; (try simp only [Act.put, List.setIfInBounds_toArray, List.set_cons_zero, List.set_cons_succ])
              refine wpAnyH_ready (rs := [13]) (by kernel_rfl) (by simp) ?_
              refine' AllReadyH.cons ?yho_32_0 (fun K hK => ?yst_32_0) ?ymo_32_0; (case yho_32_0 => ((try simp only [List.getElem?_toArray, List.getElem?_cons_succ, List.getElem?_cons_zero]); exact rfl))
              case yst_32_0 =>
                go_simp
                refine hK.out _ _ (by refine ⟨?_, ?_⟩ <;> first | assumption | (go_simp; done)) (fun hHeld => ?_); clear hK K; (try simp only [Act.put, List.setIfInBounds_toArray, List.set_cons_zero, List.set_cons_succ])
                refine wpAnyH_ready (rs := [22]) (by kernel_rfl) (by simp) ?_
                refine' AllReadyH.cons ?yho_33_0 (fun K hK => ?yst_33_0) ?ymo_33_0; (case yho_33_0 => ((try simp only [List.getElem?_toArray, List.getElem?_cons_succ, List.getElem?_cons_zero]); exact rfl))
                case yst_33_0 =>
                  (refine step_own rfl (.tmp 31) (.tmp 39) 160 rfl B 162 i0 (.agg #[.string ⟨#[]⟩, .nilIface]) 2 32 Tryz.underlying160 hi hz0 hz1 hz2 rfl (by decide) (.slice A0 k0 c0) k0 cs (by simp [Act.eval]) (HOWN2.out.alloc _) ⟨w2.heap.size, 0, none⟩ 1 1 [.string a.t, .iface T5 p5] (by simp [Act.eval]) rfl (new_cells (heap_alloc_new w2.drew _)) (two_one HV5.out a.t) (by unfold maxLen; omega) (by omega) (by simp; omega) ?_; intro v1 w1' own1 gr1 loc1; obtain ⟨g1, cap1, rfl, -, -, -⟩ := row_some own1; obtain ⟨gc1, gc2⟩ := HCG.out w1' (HGW.out gr1); have bc1 := HBW.out gr1; have tc1 := HTW.out gr1; have HG := Lib.hid (HSUM2.out own1 gr1 loc1); clear own1 gr1 loc1; try go_simp)
                  refine hK.out _ _ (by refine ⟨?_, ?_⟩ <;> first | assumption | (go_simp; done)) (fun hHeld => ?_); clear hK K; (try simp only [Act.put, List.setIfInBounds_toArray, List.set_cons_zero, List.set_cons_succ])
                  (refine' wpAnyH_take (i := 23) ?zhi_23_34 ?zhs_23_34 ?zhf_23_34 ?zhr_23_34 ?zhQ_23_34 (Or.inl ⟨?zhw_23_34, ?zhy_23_34⟩) (by assumption) ?zrest_23_34; (case zhi_23_34 => ((try simp only [List.getElem?_toArray, List.getElem?_cons_succ, List.getElem?_cons_zero]); exact rfl)); (case zhs_23_34 => kernel_rfl); (case zhf_23_34 => kernel_rfl); (case zhr_23_34 => kernel_rfl); (case zhQ_23_34 => exact fun _ _ _ h => h); (case zhw_23_34 => rfl); (case zhy_23_34 => ((intro w hSw; (try dsimp only at hSw); go_simp) <;> with_reducible rfl)); (try simp only [Act.put, List.setIfInBounds_toArray, List.set_cons_zero, List.set_cons_succ]))
                  refine wpAnyH_ready (rs := [24]) (by kernel_rfl) (by simp) ?_
                  refine' AllReadyH.cons ?yho_35_0 (fun K hK => ?yst_35_0) ?ymo_35_0; (case yho_35_0 => ((try simp only [List.getElem?_toArray, List.getElem?_cons_succ, List.getElem?_cons_zero]); exact rfl))
                  case yst_35_0 =>
                    go_simp
                    refine hK.out _ _ (by refine ⟨?_, ?_⟩ <;> first | assumption | (go_simp; done)) (fun hHeld => ?_); clear hK K; (try simp only [Act.put, List.setIfInBounds_toArray, List.set_cons_zero, List.set_cons_succ])
                    refine wpAnyH_done (by kernel_rfl) ?_ _
                    go_wp2_with fail
                    go_meet
                    exact HG.out
                  exact AllReadyH.nil
                exact AllReadyH.nil
              exact AllReadyH.nil
            exact AllReadyH.nil
          exact AllReadyH.nil
        case rest =>
          obtain ⟨M3, G3, T3, H3⟩ := hcut
          have KX := Lib.hid ((T3.block w1.heap.size zB (H2.out.lowP _ (Or.inr rfl)).2.2).trans KB.out)
          obtain ⟨⟨d0, d1, d2, d3, d4, d5⟩, -, dl⟩ := blk6 KX.out
          obtain ⟨y9, Pt9⟩ := H3.parts
          have e9 := (ecells Pt9.cells).c9
          have elt := (ecells Pt9.cells).lt
          have PD := Lib.hid (Parts.below H3 Pt9 (Below.refl _ _).drew)
          have HD := Lib.hid (H3.below (Below.refl _ _).drew)
          have TD := Lib.hid ((TB.out.trans GB.out T3))
          have GD := Lib.hid (GB.out.trans G3 (by omega))
          obtain ⟨hmM, N, hmap, hN⟩ := PD.out.map
          obtain ⟨D, hD, hsp⟩ := hmap.ex
          obtain ⟨w3, hrun, own3, gr3⟩ := World.ownsMap.update hD str_key Tryz.underlying45 (small_n hN H3.b1) (key := .string a.t) (val := .iface 95 (.agg #[])) (d := .held (.iface 95 (.agg #[]))) (ps := []) (WideMaps.keyOf_string_mk Tryz.underlying9 FA.out.ts) rfl
          have HM3 := Lib.hid (Holds.mapped (σ := σ) (m := .var) HD.out PD.out FA.out.ts hD hsp hN rfl own3 gr3)
          have HF3 := Lib.hid (HM3.out.1.flag true)
          obtain ⟨y3, P3⟩ := HM3.out.1.parts
          have c11 := (ecells P3.cells).c11
          have f11 := (ecells P3.cells).fr 11
          have hlt3 := (ecells P3.cells).lt
          clear hmap hD hsp hmM own3 gr3 P3 hN Pt9 H3 T3 G3
          go_wp2_with fail
          go_region
          go_wp2_with fail
          go_end0
          exact ends_ok HR.out GD.out (TD.out.trans GD.out (((Turns.refl _ _).drew.then HM3.out.2).then HF3.out.2)) rfl (HF3.out.1.less (fun k hk => Or.inl hk))
end Mx
end Go.Proofs.YtnhcjgnohnedaaaGreatDoor

namespace Go.Proofs.YtnhcjgnohnedaaaGreatDoor
open Go.RowKit

namespace Mx
theorem other_1 {s : St} {t : Tv} {f : Flt} (h : put t t.k t.t (unsave s) = .bad f) : takeOther t s = .bad f := by simp [takeOther, bind, M.bind, h]
theorem other_2 {s s1 : St} {t : Tv} (h : put t t.k t.t (unsave s) = .ok () s1) (hc : (s.saving && isSign t (str [44])) = false) : takeOther t s = .ok () s1 := by
  unfold takeOther
  rw [hc]
  simp [bind, M.bind, h, pure]
theorem other_3 {s s1 : St} {t : Tv} (h : put t t.k t.t (unsave s) = .ok () s1) (hc : (s.saving && isSign t (str [44])) = true) : takeOther t s = save s1 := by
  unfold takeOther
  rw [hc]
  simp [bind, M.bind, h]
set_option maxRecDepth 100000 in
set_option maxHeartbeats 8000000 in
theorem takeOther_any {w : World} {B b σ : Nat} {M P : Nat → Prop} {s : St} (x : Tv) (hx : x.fit) (H : Holds w B b σ M P s) :
    Calls Tryz.prog 52 #[.pointer (some ⟨b, 0, none⟩), x.val] w (Ends B b σ M P w (takeOther x s) vUnit) := by
  have HA := Lib.hid (H.alloc (.cells #[.int .i64 x.k, .string x.t, .int .i64 x.p, .int .i64 x.q, .int .i64 x.a, .int .i64 x.c] 41))
  have TA := Lib.hid (Turns.alloc M w (.cells #[.int .i64 x.k, .string x.t, .int .i64 x.p, .int .i64 x.q, .int .i64 x.a, .int .i64 x.c] 41))
  have HX := Lib.hid hx
  have hwlt : ∀ k, M k → k < w.heap.size := fun k hk => (H.low k hk).2
  cases hs : s.saving
  · obtain ⟨y, Pt⟩ := HA.out.parts
    have c11 := (ecells Pt.cells).c11
    have f11 := (ecells Pt.cells).fr 11
    have hlt := (ecells Pt.cells).lt
    rw [hs] at c11
    have HC : Hid ((s.saving && isSign x (str [44])) = false) := by show _ = _; rw [hs]; rfl
    have HF := Lib.hid (HA.out.flag false)
    have CP : Hid (Calls Tryz.prog 56 #[.pointer (some ⟨b, 0, none⟩), x.val, .int .i64 x.k, .string x.t] _ (Ends B b σ M P _ (put x x.k x.t (unsave s)) vUnit)) := Lib.hid (put_any (s := unsave s) x x.k x.t hx HF.out.1)
    unfold Tv.val at CP ⊢
    clear H Pt hx hs
    go_enter Tryz.func52, Tryz.ntmps52
    go_wp2_with fail
    refine CP.out.mono ?_; rintro e w1 ⟨M1, hG, ht, h⟩
    have TT := Lib.hid (TA.out.then (HF.out.2.then ht))
    cases hq : put x x.k x.t (unsave s) with
    | bad f =>
      rw [hq] at h
      obtain rfl := h
      exact ⟨rfl, ends_bad (other_1 hq) TT.out rfl⟩
    | ok u s1 =>
      rw [hq] at h
      obtain ⟨v, rfl, rfl, hh⟩ := h
      have GG := Lib.hid (hG.of_size (w := w) (by simp [World.setCell]))
      have HR := Lib.hid (other_2 hq HC.out)
      have HH := Lib.hid hh
      clear hq hh ht hG
      go_wp2_with fail
      go_end0
      exact ends_ok HR.out GG.out TT.out rfl HH.out
  · have CN := Lib.hid (fun W => isSign_any x (str [44]) W)
    have c11 : (w.alloc (.cells #[.int .i64 x.k, .string x.t, .int .i64 x.p, .int .i64 x.q, .int .i64 x.a, .int .i64 x.c] 41)).cell? ⟨b, 11, none⟩ = some (.bool true) := by
      obtain ⟨y, Pt⟩ := HA.out.parts
      have := (ecells Pt.cells).c11
      rw [hs] at this; exact this
    have hlt : b < w.heap.size := hwlt b H.hb
    have HB : Hid (∀ W, Below (w.alloc (.cells #[.int .i64 x.k, .string x.t, .int .i64 x.p, .int .i64 x.q, .int .i64 x.a, .int .i64 x.c] 41)).heap.size (w.alloc (.cells #[.int .i64 x.k, .string x.t, .int .i64 x.p, .int .i64 x.q, .int .i64 x.a, .int .i64 x.c] 41)) W → (∃ y, W.heap[b]? = some (.cells (cellsE y s) 48 (0, 0))) ∧ W.heap[w.heap.size]? = some (.cells #[.int .i64 x.k, .string x.t, .int .i64 x.p, .int .i64 x.q, .int .i64 x.a, .int .i64 x.c] 41)) := fun W hb => ⟨(HA.out.below hb).cells, (hb.block w.heap.size (by simp)).trans (heap_alloc_new w _)⟩
    have HS := Lib.hid hs
    obtain ⟨bz, hbz⟩ : ∃ z, isSign x (str [44]) = z := ⟨_, rfl⟩
    have HZ := Lib.hid hbz
    rw [hbz] at CN
    unfold Tv.val at CN ⊢
    clear H hx hs hwlt hbz
    go_enter Tryz.func52, Tryz.ntmps52
    go_wp2_with fail
    refine (CN.out _).mono ?_; rintro e w1 ⟨rfl, hb⟩
    obtain ⟨⟨y, hy⟩, hz⟩ := HB.out _ hb
    have e11 := (ecells hy).c11
    have f11 := (ecells hy).fr 11
    have hl1 := (ecells hy).lt
    obtain ⟨⟨x0, x1, x2, x3, x4, x5⟩, -, xl⟩ := blk6 hz
    have hbx : ¬ w.heap.size = b := by omega
    have HF := Lib.hid ((HA.out.below hb).flag false)
    have TF := Lib.hid ((TA.out.then (Turns.of_below hb _)).then HF.out.2)
    have CP : Hid (Calls Tryz.prog 56 #[.pointer (some ⟨b, 0, none⟩), x.val, .int .i64 x.k, .string x.t] _ (Ends B b σ M P _ (put x x.k x.t (unsave s)) vUnit)) := Lib.hid (put_any (s := unsave s) x x.k x.t HX.out HF.out.1)
    unfold Tv.val at CP
    have sz1 : w.heap.size ≤ (w1.setCell ⟨b, 11, none⟩ (.bool false)).heap.size := by have := hb.size; simp [World.setCell] at this ⊢; omega
    clear hb hy hz
    go_wp2_with fail
    refine CP.out.mono ?_; rintro e w2 ⟨M1, hG, ht, h⟩
    have TT := Lib.hid (TF.out.then ht)
    cases hq : put x x.k x.t (unsave s) with
    | bad f =>
      rw [hq] at h
      obtain rfl := h
      exact ⟨rfl, ends_bad (other_1 hq) TT.out rfl⟩
    | ok u s1 =>
      rw [hq] at h
      obtain ⟨v, rfl, rfl, hh⟩ := h
      have GG := Lib.hid (hG.of_size (w := w) sz1)
      have HQ := Lib.hid hq
      have HH := Lib.hid hh
      clear hq hh ht hG
      cases bz
      · have HR := Lib.hid (other_2 HQ.out (by rw [HS.out, HZ.out]; rfl))
        go_wp2_with fail
        go_end0
        exact ends_ok HR.out GG.out TT.out rfl HH.out
      · have HR := Lib.hid (other_3 HQ.out (by rw [HS.out, HZ.out]; rfl))
        have CS := Lib.hid (save_any HH.out)
        go_wp2_with fail
        refine CS.out.mono ?_; rintro e w3 ⟨M2, hG, ht, h⟩
        cases hq : save s1 with
        | bad f =>
          rw [hq] at h
          obtain rfl := h
          exact ⟨rfl, ends_bad (HR.out.trans hq) (TT.out.trans GG.out ht) rfl⟩
        | ok u s2 =>
          rw [hq] at h
          obtain ⟨v, rfl, rfl, hh⟩ := h
          have G2 := Lib.hid (GG.out.trans hG TT.out.size)
          have T2 := Lib.hid (TT.out.trans GG.out ht)
          have HH2 := Lib.hid hh
          have HR2 := Lib.hid (HR.out.trans hq)
          clear hq hh ht hG
          go_wp2_with fail
          go_end0
          exact ends_ok HR2.out G2.out T2.out rfl HH2.out
end Mx
end Go.Proofs.YtnhcjgnohnedaaaGreatDoor

namespace Go.Proofs.YtnhcjgnohnedaaaGreatDoor
open Go.RowKit

namespace Mx
theorem Holds.begun {w W w1 : World} {B b σ : Nat} {M P : Nat → Prop} {s : St} {y : Lay} (H : Holds w B b (σ + 1) M P s) (Pt : Parts w B b (σ + 1) M (uni M P) y s) (hW : Below w.heap.size w W)
    {xs : List Value} {g1 cap1 n0 : Nat} (hn0 : n0 = s.groups.length) (hgs : Grps w B M (uni M P) xs (s.groups.reverse.map List.reverse)) (own1 : w1.ownsRow B 160 1 (.slice (some ⟨g1, 0, none⟩) (n0 + 1) cap1) (n0 + 1) (xs ++ [.slice none 0 0])) (gr1 : W.grownBy w1 y.vg.ownBlock) (loc1 : some g1 = y.vg.ownBlock ∨ some g1 = some W.heap.size) :
    ∃ M', Grows w M M' ∧ Turns M w (w1.setCell ⟨b, 10, none⟩ (.slice (some ⟨g1, 0, none⟩) (n0 + 1) cap1)) ∧ Holds (w1.setCell ⟨b, 10, none⟩ (.slice (some ⟨g1, 0, none⟩) (n0 + 1) cap1)) B b σ M' P { s with groups := [] :: s.groups } := by
  subst hn0
  obtain ⟨xs0, hx0, hx0M, -⟩ := Pt.groups
  let N : Nat → Prop := fun k => k = b ∨ y.vg.ownBlock = some k
  let M' : Nat → Prop := fun k => M k ∨ k = g1
  have hbM := H.hb
  have hN : ∀ k, N k → M k := fun k hk => by rcases hk with hk | hk; rw [hk]; exact hbM; exact hx0M k hk
  have t1 : Turns N w w1 := (Turns.of_below hW N).then ((Turns.of_grown gr1 ((notExp_row hx0 (by decide)).below hW (fun k hk => (World.ownsRow.lt hx0 k hk).2))).mono (fun k h => Or.inr h))
  have t2 : Turns N w (w1.setCell ⟨b, 10, none⟩ (.slice (some ⟨g1, 0, none⟩) (s.groups.length + 1) cap1)) := t1.then (Turns.setCell (M := N) w1 (p := ⟨b, 10, none⟩) (Or.inl rfl) _)
  have hsz : (w1.setCell ⟨b, 10, none⟩ (.slice (some ⟨g1, 0, none⟩) (s.groups.length + 1) cap1)).heap.size = w1.heap.size := by simp [World.setCell]
  have hg1 := World.ownsRow.lt own1 g1 rfl
  have hgM : M g1 ∨ w.heap.size ≤ g1 := by
    rcases loc1 with h | h
    · exact Or.inl (hx0M g1 h.symm)
    · injection h with h; exact Or.inr (by rw [h]; exact hW.size)
  have hG : Grows w M M' := fun k hk => by rcases hk with hk | hk; exact Or.inl hk; rw [hk]; exact hgM
  have hGX : Grows w (uni M P) (uni M' P) := fun k hk => by
    rcases hk with hk | hk
    · rcases hG k hk with h | h
      · exact Or.inl (Or.inl h)
      · exact Or.inr h
    · exact Or.inl (Or.inr hk)
  have hNX : ∀ k, N k → uni M P k := fun k hk => Or.inl (hN k hk)
  have hMM : ∀ k, M k → M' k := fun k hk => Or.inl hk
  have vg_ne : ∀ {g : Nat} {c : Array Value} {t : TypeId} {f : Nat × Nat}, w.heap[g]? = some (.cells c t f) → 160 ≠ t → y.vg.ownBlock ≠ some g := fun hg ht e => row_ne hx0 hg ht _ e rfl
  have hbw : w1.heap[b]? = w.heap[b]? := by
    have t0 : Turns (fun k => y.vg.ownBlock = some k) w w1 := (Turns.of_below hW _).then (Turns.of_grown gr1 ((notExp_row hx0 (by decide)).below hW (fun k hk => (World.ownsRow.lt hx0 k hk).2)))
    exact t0.block b (H.low b hbM).2 (vg_ne Pt.cells (by decide))
  have hgb : g1 ≠ b := fun e => by
    obtain ⟨cur, hcur⟩ := row_ty own1 (k := g1) rfl
    have := hbw.trans Pt.cells
    rw [← e, hcur] at this
    injection this with this
    injection this with _ h2
    exact absurd h2 (by decide)
  have nb : ∀ k, k ≠ b → y.vg.ownBlock ≠ some k → ¬ N k := fun k h1 h2 h => by rcases h with h | h; exact h1 h; exact h2 h
  have nbt : ∀ {k : Nat} {c : Array Value} {t : TypeId} {f : Nat × Nat}, w.heap[k]? = some (.cells c t f) → t ≠ 48 → 160 ≠ t → ¬ N k := fun hc h1 h2 => nb _ (fun e => by rw [e] at hc; exact h1 (heap_inj hc Pt.cells)) (vg_ne hc h2)
  have hbl := Pt.pmap
  have hsv : saved { s with groups := [] :: s.groups } = saved s := by unfold saved; simp
  refine ⟨M', hG, t2.mono hN, ?_⟩
  refine Holds.mk' (y := { y with vg := .slice (some ⟨g1, 0, none⟩) (s.groups.length + 1) cap1 }) (H.env.turn (t2.below (fun k hk => (H.low k (hN k hk)).1) H.Bs)) (fun k hk => ?_) (fun k hk => ⟨(H.lowP k hk).1, Nat.lt_of_lt_of_le (H.lowP k hk).2.1 t2.size, fun hm => ?_⟩) (hMM b hbM) (Nat.le_trans H.Bs t2.size)
    (heap_set w1 b 10 _ _ _ (hbw.trans Pt.cells)) (Parts.turn_rest Pt.rest (t2.mono hNX) hGX)
    (list_keep Pt.lists t2 hNX hGX hMM (fun k hk => by obtain ⟨cur, hc⟩ := row_ty Pt.lists.choose_spec.1 hk; exact nbt hc (by decide) (by decide)))
    (out_keep Pt.out t2 hMM (fun k hk => by obtain ⟨cur, hc⟩ := row_ty Pt.out.1 hk; exact nbt hc (by decide) (by decide))) ?_ ?_ ?_ H.lastf H.b1 H.b2 H.b3 ?_ H.b5
  · rcases hk with hk | hk
    · exact ⟨(H.low k hk).1, Nat.lt_of_lt_of_le (H.low k hk).2 t2.size⟩
    · rw [hk, hsz]; exact hg1
  · rcases hm with hm | hm
    · exact (H.lowP k hk).2.2 hm
    · rcases hgM with h | h
      · exact (H.lowP k hk).2.2 (hm ▸ h)
      · have := (H.lowP k hk).2.1; omega
  · obtain ⟨hm, n, hmap, hn⟩ := hbl.1
    obtain ⟨D, hD, hsp⟩ := hmap.ex
    obtain ⟨es, clock, hes, hrest⟩ := hD
    exact (map_keep ⟨hm, n, hmap, hn⟩ t2 hNX hGX hMM (nb _ (fun e => by rw [e, Pt.cells] at hes; cases hes) (fun e => by obtain ⟨cur, hc⟩ := row_ty hx0 e; rw [hc] at hes; cases hes))).mono (by show _ ≤ 1000 + 4 * s.steps - saved { s with groups := [] :: s.groups } - σ; rw [hsv]; omega)
  · show saved { s with groups := [] :: s.groups } + σ ≤ 1000 + 4 * s.steps; rw [hsv]; have := hbl.2; omega
  · refine ⟨xs ++ [.slice none 0 0], ?_, fun k hk => Or.inr (by simp [Value.ownBlock] at hk; exact hk.symm), ?_⟩
    · show (w1.setCell ⟨b, 10, none⟩ (.slice (some ⟨g1, 0, none⟩) (s.groups.length + 1) cap1)).ownsRow B 160 1 (.slice (some ⟨g1, 0, none⟩) (s.groups.length + 1) cap1) (s.groups.length + 1) (xs ++ [.slice none 0 0])
      exact row_keep own1 (fun k hk => by simp [Value.ownBlock] at hk; subst hk; exact Below.heap_setCell w1 ⟨b, 10, none⟩ _ g1 hgb)
    · show Grps _ B M' (uni M' P) (xs ++ [.slice none 0 0]) ((([] : List (ByteArray × Mean)) :: s.groups).reverse.map List.reverse)
      rw [List.reverse_cons, List.map_append]
      exact Grps.push (g := []) (cs := []) (World.ownsRow_nil _ _ _ _) (fun k hk => by simp [Value.ownBlock] at hk) trivial (hgs.keepRows (t2.mono hNX) hGX hMM (fun u hu k hk => by
        obtain ⟨cur, hc⟩ := hgs.rows u hu k hk
        exact t2.block k (Array.getElem?_eq_some_iff.1 hc).1 (nbt hc (by decide) (by decide)))) (fun u hu k hk e => by simp [Value.ownBlock] at e)
  · show ([] :: s.groups).length + σ ≤ 1000 + 4 * s.steps; have := H.b4; simp; omega
end Mx
end Go.Proofs.YtnhcjgnohnedaaaGreatDoor
