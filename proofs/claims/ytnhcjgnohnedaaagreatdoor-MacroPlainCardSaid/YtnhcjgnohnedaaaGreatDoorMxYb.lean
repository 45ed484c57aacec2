/-
  Contracts of package macro: a group of parameters, the walk.
-/
import Derived.Test.YtnhcjgnohnedaaaGreatDoorMxW
import Derived.Test.YtnhcjgnohnedaaaGreatDoorMxXb
namespace Go.Proofs.YtnhcjgnohnedaaaGreatDoor
open Go.RowKit

namespace Mx
theorem field_arg (a0 a1 a2 a3 a4 a5 i b : Value) (w : World) : (Instr.field 167 (.agg #[a0, a1, a2, a3, a4, a5, i, b]) 1).run Tryz.prog w = .ok i w := by kernel_rfl
theorem ln_step {pl : Pl} {x : ByteArray} {t : Bool} {a b c : Nat} (h : pl.length ≤ a) (h1 : b = a + 1) (h2 : c = b + 1) : (pl ++ [(x, t)]).length ≤ c := by rw [List.length_append]; simp; omega
theorem fu_step {f a b c : Nat} (h : 200001 ≤ f + 1 + a) (h1 : b = a + 1) (h2 : c = b + 1) : 200001 ≤ f + c := by omega
theorem N_facts {n : Nat} (h : n ≤ 400000) : IntKind.i64.wrap ((n : Int) + 1) = (n : Int) + 1 ∧ wrap64 ((n : Int) + 1) = (n : Int) + 1 := ⟨IntWalk.i64_in _ (by omega), IntWalk.wrap64_in _ (by omega)⟩
theorem piece_succ (N : Nat) (text : Bool) : (Value.agg #[.int .i64 0, .string ⟨#[]⟩, .int .i64 0, .int .i64 0, .int .i64 0, .int .i64 0, .int .i64 ((N : Int) + 1), .bool text]) = pieceV (N + 1) text := by unfold pieceV; rw [Int.natCast_succ]
theorem idx_yes {i : Nat} (h : 0 < i) : decide ((0 : Int) < (i : Int)) = true := decide_eq_true (by omega)
theorem cells2 {w : World} {b : Nat} {t : TypeId} {c0 c1 : Value} (h : w.heap[b]? = some (.cells #[c0, c1] t (0, 0))) : w.cell? ⟨b, 0, none⟩ = some c0 ∧ w.cell? ⟨b, 1, none⟩ = some c1 ∧ w.frozen? ⟨b, 0, none⟩ = false ∧ w.frozen? ⟨b, 1, none⟩ = false ∧ b < w.heap.size :=
  ⟨cell_of_row w b 0 _ _ _ h, cell_of_row w b 1 _ _ _ h, frz h 0, frz h 1, (Array.getElem?_eq_some_iff.1 h).1⟩
set_option maxRecDepth 100000 in
set_option maxHeartbeats 16000000 in
theorem readParameters_any {w : World} {B b σ : Nat} {M P : Nat → Prop} {s : St} (pl : Pl) (mb f : Nat) (hf : 200001 ≤ f + s.steps) (hP : P mb) (hpl : Places w mb pl) (hl : pl.length ≤ s.steps) (H : Holds w B b σ M P s) :
    Calls Tryz.prog 128 #[.pointer (some ⟨b, 0, none⟩), .map (some mb)] w (EndsG B b σ M P mb w (parGroup f pl s)) := by
  obtain ⟨R, hR⟩ : ∃ R, R = parGroup f pl s := ⟨_, rfl⟩
  rw [← hR]
  have HRE := Lib.hid hR
  have hfa := field_arg
  clear hR
  have HA := H.own (.cells #[.bool false, .int .i64 0] 131)
  have C1 := Lib.hid (readName_any HA)
  have HPM := Lib.hid hP
  have hlp := HA.lowP
  have P0 := hpl.keep (Below.heap_alloc w (.cells #[.bool false, .int .i64 0] 131) mb hpl.lt)
  have ZR0 := Lib.hid (heap_alloc_new w (.cells #[.bool false, .int .i64 0] 131))
  have hmlt := hpl.lt
  go_enter Tryz.func128, Tryz.ntmps128
  go_wp2_with fail
  refine C1.out.mono ?_; rintro e w1 ⟨M1, hG, ht, h⟩
  have TT := Lib.hid (((Turns.alloc M w (.cells #[.bool false, .int .i64 0] 131)).then ht).mono (N := M) (M := plus M mb) (fun k hk => Or.inl hk))
  cases hq : readName s with
  | bad g =>
    rw [hq] at h
    obtain rfl := h
    exact ⟨rfl, endsG_bad (HRE.out.trans (grp_bad hq)) TT.out rfl⟩
  | ok x s1 =>
    rw [hq] at h
    obtain ⟨v, rfl, ⟨⟨rfl, hx⟩, -⟩, hh⟩ := h
    have HH := Lib.hid (hh.slack (show σ ≤ σ + 4 by omega))
    have GG : Hid (Grows w M M1) := Lib.hid (hG.of_size (by simp))
    have ZR := Lib.hid ((ht.block w.heap.size (by simp) (hlp _ (Or.inr rfl)).2.2).trans ZR0.out)
    have PL := Lib.hid (P0.keep (ht.block mb P0.lt (hlp mb (Or.inl hP)).2.2))
    have hst := readName_steps hq
    have FU : Hid (200001 ≤ f + s1.steps) := Lib.hid (by omega)
    have LEN : Hid (pl.length ≤ s1.steps) := Lib.hid (by omega)
    have HX := Lib.hid hx
    have HQ := Lib.hid hq
    have HWM : Hid (mb < w.heap.size) := Lib.hid hmlt
    have HWW : Hid (w.heap.size < w1.heap.size) := Lib.hid (by have := ht.size; simp at this; omega)
    clear H HA hf hP hpl hl hlp P0 hG ht hh hq hst hx C1 hmlt ZR0
    unfold Tv.val
    by_cases hke : x.t = sExpr
    · have q1 := lit_tt (l := [101, 120, 112, 114]) hke
      have q2 : (x.t.toList == [116, 101, 120, 116]) = false := lit_ff (by rw [hke]; decide)
      have hg := grp_ok (f := f) (pl := pl) (text := false) HQ.out (Or.inl hke) (by rw [hke]; decide)
      have HRR := Lib.hid (HRE.out.trans hg)
      clear hke hg
      have R0 : Hid (PRnd w B b σ M P R false mb w.heap.size (w1.heap.size + 1) f 0 pl ((w1.alloc (.cells #[.int .i64 x.k, .string x.t, .int .i64 x.p, .int .i64 x.q, .int .i64 x.a, .int .i64 x.c] 41)).alloc (.cells #[.bool false, .int .i64 0] 131)) s1 M1) := Lib.hid ⟨HRR.out, FU.out, ((HH.out.alloc (.cells #[.int .i64 x.k, .string x.t, .int .i64 x.p, .int .i64 x.q, .int .i64 x.a, .int .i64 x.c] 41)).own (.cells #[.bool false, .int .i64 0] 131)).less (fun k hk => by rcases hk with hk | hk; exact Or.inl hk; exact Or.inr (by rw [hk]; simp)), GG.out, (TT.out.then (Turns.alloc _ _ _)).then (Turns.alloc _ _ _), blk_alloc (blk_alloc ZR.out _) _, blk_new2 w1 _ _, (PL.out.keep (Below.heap_alloc w1 (.cells #[.int .i64 x.k, .string x.t, .int .i64 x.p, .int .i64 x.q, .int .i64 x.a, .int .i64 x.c] 41) mb PL.out.lt)).keep (Below.heap_alloc (w1.alloc (.cells #[.int .i64 x.k, .string x.t, .int .i64 x.p, .int .i64 x.q, .int .i64 x.a, .int .i64 x.c] 41)) (.cells #[.bool false, .int .i64 0] 131) mb (Nat.lt_of_lt_of_le PL.out.lt (by simp))), LEN.out, Nat.zero_le _⟩
      have HGB : Hid (w.heap.size < w1.heap.size + 1) := Lib.hid (by have := HWW.out; omega)
      clear GG LEN FU PL ZR HH TT
      go_wp2_with fail
      generalize w1.heap.size + 1 = gb at *
      go_loopg [] f (fun k wr => ∃ (n : Nat) (pl' : Pl) (s' : St) (M' : Nat → Prop), Hid (PRnd w B b σ M P R false mb w.heap.size gb k n pl' wr s' M'))
      case atStart => exact ⟨0, pl, s1, M1, R0⟩
      case round =>
        clear R0
        obtain ⟨n, pl', s', M', hr⟩ := hrel
        cases gk with
        | zero => exact absurd hr.out.fuel (by have := hr.out.H.b1; omega)
        | succ f' =>
          have C2 := Lib.hid (readName_any hr.out.H)
          go_wp2_with fail
          refine C2.out.mono ?_; rintro e w2 ⟨M2, hG, ht, h⟩
          have T2 := Lib.hid (hr.out.T.trans (plus_grows hr.out.G) (ht.mono (M := plus M' mb) (fun k hk => Or.inl hk)))
          cases hq : readName s' with
          | bad g =>
            rw [hq] at h
            obtain rfl := h
            exact ⟨rfl, endsG_bad (hr.out.eq.trans (par_bad1 hq)) T2.out rfl⟩
          | ok y s2 =>
            rw [hq] at h
            obtain ⟨v, rfl, ⟨⟨rfl, hy⟩, -⟩, hh⟩ := h
            have hp := hr.out.H.lowP
            have HA := Lib.hid ((hh.slack (show σ ≤ σ + 4 by omega)).alloc (.cells #[.int .i64 y.k, .string y.t, .int .i64 y.p, .int .i64 y.q, .int .i64 y.a, .int .i64 y.c] 41))
            have KR := Lib.hid (blk_alloc ((ht.block w.heap.size (hp _ (Or.inl (Or.inr rfl))).2.1 (hp _ (Or.inl (Or.inr rfl))).2.2).trans hr.out.zr) (.cells #[.int .i64 y.k, .string y.t, .int .i64 y.p, .int .i64 y.q, .int .i64 y.a, .int .i64 y.c] 41))
            have KG := Lib.hid (blk_alloc ((ht.block gb (hp _ (Or.inr rfl)).2.1 (hp _ (Or.inr rfl)).2.2).trans hr.out.zg) (.cells #[.int .i64 y.k, .string y.t, .int .i64 y.p, .int .i64 y.q, .int .i64 y.a, .int .i64 y.c] 41))
            have pk := hr.out.pls.keep (ht.block mb (hp mb (Or.inl (Or.inl HPM.out))).2.1 (hp mb (Or.inl (Or.inl HPM.out))).2.2)
            have PK := Lib.hid (pk.keep (Below.heap_alloc w2 (.cells #[.int .i64 y.k, .string y.t, .int .i64 y.p, .int .i64 y.q, .int .i64 y.a, .int .i64 y.c] 41) mb pk.lt))
            have GK := Lib.hid (hr.out.G.trans hG hr.out.T.size)
            have HQ2 := Lib.hid hq
            have ST2 := Lib.hid (readName_steps hq)
            have HY := Lib.hid hy
            have TA := Lib.hid (T2.out.then (Turns.alloc (plus M mb) w2 (.cells #[.int .i64 y.k, .string y.t, .int .i64 y.p, .int .i64 y.q, .int .i64 y.a, .int .i64 y.c] 41)))
            obtain ⟨i, hi⟩ : ∃ i, i = plIdx pl' y.t := ⟨_, rfl⟩
            obtain ⟨bo, hbo⟩ : ∃ bo, bo = plText pl' y.t := ⟨_, rfl⟩
            have hlk := places_run PK.out y.t hy.ts i bo hi hbo
            have HI := Lib.hid hi
            clear hq hG ht hh hp pk hy C2 hbo
            unfold Tv.val
            by_cases h0 : 0 < i
            · have e0 := idx_yes h0
              have e1 : (0 : Int) < (i : Int) := Int.natCast_pos.2 h0
              have HE := Lib.hid (hr.out.eq.trans (par_twice HQ2.out (by rw [← HI.out]; exact h0)))
              have CF := Lib.hid (fail_any 14 y _ _ HA.out.env' HY.out rfl)
              unfold Tv.val at CF
              clear hi
              go_wp2_with fail
              refine CF.out.mono ?_; rintro e w3 ⟨rfl, hb⟩
              exact ⟨rfl, endsG_bad HE.out (TA.out.then (Turns.of_below hb _)) rfl⟩
            · obtain rfl : i = 0 := by omega
              have H0 : Hid (¬ 0 < plIdx pl' y.t) := Lib.hid (by rw [← HI.out]; omega)
              obtain ⟨D, hD, hms, hfp⟩ := PK.out.ex
              obtain ⟨N, hN⟩ : ∃ N, N = pl'.length := ⟨_, rfl⟩
              obtain ⟨Nf1, Nf2⟩ := N_facts (n := N) (by have := hr.out.len; have := hr.out.H.b1; omega)
              obtain ⟨nf1, nf2⟩ := N_facts (n := n) (by have := hr.out.len; have := hr.out.H.b1; have := hr.out.nn; omega)
              have hms2 : Maps.size D = N := hms.trans hN.symm
              have hlen := hD.len Tryz.underlying169 3
              obtain ⟨w3, hrun, own3, gr3⟩ := World.ownsMap.update hD str_key Tryz.underlying169 (Nat.lt_of_le_of_lt (Nat.le_trans hr.out.len hr.out.H.b1) (by unfold maxLen; omega)) (key := .string y.t) (val := .agg #[.int .i64 0, .string ⟨#[]⟩, .int .i64 0, .int .i64 0, .int .i64 0, .int .i64 0, .int .i64 ((N : Int) + 1), .bool false]) (d := .held (.agg #[.int .i64 0, .string ⟨#[]⟩, .int .i64 0, .int .i64 0, .int .i64 0, .int .i64 0, .int .i64 ((N : Int) + 1), .bool false])) (ps := []) (WideMaps.keyOf_string_mk Tryz.underlying9 HY.out.ts) rfl
              have PN : Hid (Places w3 mb (pl' ++ [(y.t, false)])) := Lib.hid (by
                rw [piece_succ, hN] at own3
                exact Places.put (by have := H0.out; omega) HY.out.ts hD hms hfp own3)
              have HB := Lib.hid (HA.out.placed (Or.inl (Or.inl HPM.out)) gr3 (notExp_map hD))
              have hmg : some gb ≠ some mb := fun e => by injection e with e; have h1 := HGB.out; have h2 := HWM.out; omega
              have hmr : some w.heap.size ≠ some mb := fun e => by injection e with e; have h2 := HWM.out; omega
              have KG3 := Lib.hid ((gr3.block gb (Array.getElem?_eq_some_iff.1 KG.out).1 hmg).trans KG.out)
              have KR3 := Lib.hid ((gr3.block w.heap.size (Array.getElem?_eq_some_iff.1 KR.out).1 hmr).trans KR.out)
              have T3 := Lib.hid (TA.out.then ((Turns.of_grown gr3 (notExp_map hD)).mono (M := plus M mb) (fun k hk => by injection hk with hk; exact Or.inr hk.symm)))
              obtain ⟨g0, g1, g2, g3, gl⟩ := cells2 KG3.out
              obtain ⟨a0, a1, a2, a3, al⟩ := cells2 KG.out
              have H4 := Lib.hid (HB.out.wrote (p := ⟨gb, 1, none⟩) (Or.inr rfl) (.int .i64 ((n : Int) + 1)))
              have T4 := Lib.hid (T3.out.new1 (g := gb) (Nat.le_of_lt HGB.out) 1 (.int .i64 ((n : Int) + 1)))
              have KG4 := Lib.hid (heap_set w3 gb 1 (.int .i64 ((n : Int) + 1)) _ _ KG3.out)
              have hgr : ¬ w.heap.size = gb := Nat.ne_of_lt HGB.out
              have KR4 := Lib.hid ((Below.heap_setCell w3 ⟨gb, 1, none⟩ (.int .i64 ((n : Int) + 1)) w.heap.size hgr).trans KR3.out)
              have hgm : ¬ mb = gb := fun e => hmg (by rw [e])
              have PN4 := Lib.hid (PN.out.keep (Below.heap_setCell w3 ⟨gb, 1, none⟩ (.int .i64 ((n : Int) + 1)) mb hgm))
              have C4 := Lib.hid (read_any H4.out)
              have HN := Lib.hid hN
              clear hD hms hfp own3 gr3 hN hmg hmr hgm hi
              go_wp2_with fail
              refine C4.out.mono ?_; rintro e w5 ⟨M5, hG, ht, h⟩
              have T5 := Lib.hid (T4.out.trans (plus_grows GK.out) (ht.mono (M := plus M2 mb) (fun k hk => Or.inl hk)))
              cases hq : read s2 with
              | bad g =>
                rw [hq] at h
                obtain rfl := h
                exact ⟨rfl, endsG_bad (hr.out.eq.trans (par_bad2 HQ2.out H0.out hq)) T5.out rfl⟩
              | ok z s3 =>
                rw [hq] at h
                obtain ⟨v, rfl, ⟨rfl, hz⟩, hh⟩ := h
                have hp := H4.out.lowP
                have G5 := Lib.hid (GK.out.trans hG T4.out.size)
                have KR5 := Lib.hid ((ht.block w.heap.size (hp _ (Or.inl (Or.inr rfl))).2.1 (hp _ (Or.inl (Or.inr rfl))).2.2).trans KR4.out)
                have KG5 := Lib.hid ((ht.block gb (hp _ (Or.inr rfl)).2.1 (hp _ (Or.inr rfl)).2.2).trans KG4.out)
                have PN5 := Lib.hid (PN4.out.keep (ht.block mb (hp mb (Or.inl (Or.inl HPM.out))).2.1 (hp mb (Or.inl (Or.inl HPM.out))).2.2))
                have HQ5 := Lib.hid hq
                have ST5 := Lib.hid (read_steps hq)
                have HZ := Lib.hid hz
                have H6 := Lib.hid ((hh.slack (show σ ≤ σ + 4 by omega)).alloc (.cells #[.int .i64 z.k, .string z.t, .int .i64 z.p, .int .i64 z.q, .int .i64 z.a, .int .i64 z.c] 41))
                have T6 := Lib.hid (T5.out.then (Turns.alloc (plus M mb) w5 (.cells #[.int .i64 z.k, .string z.t, .int .i64 z.p, .int .i64 z.q, .int .i64 z.a, .int .i64 z.c] 41)))
                have KR6 := Lib.hid (blk_alloc KR5.out (.cells #[.int .i64 z.k, .string z.t, .int .i64 z.p, .int .i64 z.q, .int .i64 z.a, .int .i64 z.c] 41))
                have KG6 := Lib.hid (blk_alloc KG5.out (.cells #[.int .i64 z.k, .string z.t, .int .i64 z.p, .int .i64 z.q, .int .i64 z.a, .int .i64 z.c] 41))
                have PN6 := Lib.hid (PN5.out.keep (Below.heap_alloc w5 (.cells #[.int .i64 z.k, .string z.t, .int .i64 z.p, .int .i64 z.q, .int .i64 z.a, .int .i64 z.c] 41) mb PN5.out.lt))
                have LN : Hid ((pl' ++ [(y.t, false)]).length ≤ s3.steps) := Lib.hid (ln_step hr.out.len ST2.out ST5.out)
                have NN : Hid (n + 1 ≤ (pl' ++ [(y.t, false)]).length) := Lib.hid (by rw [List.length_append]; exact Nat.succ_le_succ hr.out.nn)
                have FU : Hid (200001 ≤ f' + s3.steps) := Lib.hid (fu_step hr.out.fuel ST2.out ST5.out)
                obtain ⟨g0, g1, g2, g3, gl⟩ := cells2 KG5.out
                have KZ := Lib.hid (heap_alloc_new w5 (.cells #[.int .i64 z.k, .string z.t, .int .i64 z.p, .int .i64 z.q, .int .i64 z.a, .int .i64 z.c] 41))
                clear hq hG ht hh hp hz
                unfold Tv.val
                have CN := Lib.hid (fun W => isSign_any z (str [44]) W)
                obtain ⟨bz, hbz⟩ : ∃ q, isSign z (str [44]) = q := ⟨_, rfl⟩
                rw [hbz] at CN
                have HBZ := Lib.hid hbz
                unfold Tv.val at CN
                clear hbz
                go_wp2_with fail
                refine (CN.out _).mono ?_; rintro e w6 ⟨rfl, hb⟩
                obtain ⟨⟨z0, z1, z2, z3, z4, z5⟩, -, zl⟩ := blk6 ((hb.block w5.heap.size (by simp)).trans KZ.out)
                have H7 := Lib.hid (H6.out.below hb)
                have T7 := Lib.hid (T6.out.then (Turns.of_below hb _))
                have KG7 := Lib.hid ((hb.block gb (Array.getElem?_eq_some_iff.1 KG6.out).1).trans KG6.out)
                have KR7 := Lib.hid ((hb.block w.heap.size (Array.getElem?_eq_some_iff.1 KR6.out).1).trans KR6.out)
                have PN7 := Lib.hid (PN6.out.keep (hb.block mb PN6.out.lt))
                clear hb
                cases bz
                · have C3 : Hid ((false || !isSign z (str [44])) = true) := Lib.hid (by rw [HBZ.out]; rfl)
                  cases hd : isSign z (str [41])
                  · have HE := Lib.hid (hr.out.eq.trans (par_no HQ2.out H0.out HQ5.out C3.out hd))
                    have CD := Lib.hid (demand_bad z (str [41]) _ _ H7.out.env' HZ.out hd rfl)
                    unfold Tv.val at CD
                    clear hd
                    go_wp2_with fail
                    refine CD.out.mono ?_; rintro e w7 ⟨rfl, hb⟩
                    exact ⟨rfl, endsG_bad HE.out (T7.out.then (Turns.of_below hb _)) rfl⟩
                  · have HE := Lib.hid (hr.out.eq.trans (par_end HQ2.out H0.out HQ5.out C3.out hd))
                    have CD := Lib.hid (demand_ok z (str [41]) _ H7.out.env' hd)
                    unfold Tv.val at CD
                    clear hd
                    go_wp2_with fail
                    refine CD.out.mono ?_; rintro e w7 ⟨rfl, hb⟩
                    have KG8 := Lib.hid ((hb.block gb (Array.getElem?_eq_some_iff.1 KG7.out).1).trans KG7.out)
                    have KR8 := Lib.hid ((hb.block w.heap.size (Array.getElem?_eq_some_iff.1 KR7.out).1).trans KR7.out)
                    have H8 := Lib.hid (H7.out.below hb)
                    have T8 := Lib.hid (T7.out.then (Turns.of_below hb _))
                    have P8 := Lib.hid (PN7.out.keep (hb.block mb PN7.out.lt))
                    obtain ⟨g0, g1, g2, g3, gl⟩ := cells2 KG8.out
                    obtain ⟨r0, r1, r2, r3, rl⟩ := cells2 KR8.out
                    have K9 := Lib.hid (heap_set _ w.heap.size 1 (.int .i64 ((n : Int) + 1)) _ _ (heap_set w7 w.heap.size 0 (.bool false) _ _ KR8.out))
                    clear hb
                    go_wp2_with fail
                    obtain ⟨k0, k1, -, -, -⟩ := cells2 K9.out
                    refine bodyPost_ret (v := .agg #[.bool false, .int .i64 ((n : Int) + 1)]) (by simp [results, Tryz.results128, go_sem, k0, k1]) rfl ?_
                    refine ⟨M5, G5.out, (T8.out.new1 (g := w.heap.size) (Nat.le_refl _) 0 _).new1 (g := w.heap.size) (Nat.le_refl _) 1 _, ?_⟩
                    rw [HE.out]
                    have hmr : ¬ mb = w.heap.size := Nat.ne_of_lt HWM.out
                    exact ⟨by show Ending.returned (.agg #[.bool false, .int .i64 ((n : Int) + 1)]) = .returned (.agg #[.bool false, .int .i64 ((n + 1 : Nat) : Int)]); rw [Int.natCast_succ], P8.out.keep ((Below.heap_setCell _ ⟨w.heap.size, 1, none⟩ _ mb hmr).trans (Below.heap_setCell _ ⟨w.heap.size, 0, none⟩ _ mb hmr)), LN.out, NN.out, ((H8.out.wrote (p := ⟨w.heap.size, 0, none⟩) (Or.inl (Or.inr rfl)) _).wrote (p := ⟨w.heap.size, 1, none⟩) (Or.inl (Or.inr rfl)) _).less (fun k hk => Or.inl (Or.inl hk))⟩
                · have HE := Lib.hid (hr.out.eq.trans (par_more HQ2.out H0.out HQ5.out (by rw [HBZ.out]; rfl)))
                  go_wp2_with fail
                  go_roundg f'
                  case measure => exact Nat.lt_succ_self _
                  case rel => exact ⟨n + 1, _, s3, M5, ⟨HE.out, FU.out, H7.out, G5.out, T7.out, KR7.out, by rw [Int.natCast_succ]; exact KG7.out, PN7.out, LN.out, NN.out⟩⟩
    · by_cases hkt : x.t = sText
      · have q1 := lit_ff (l := [101, 120, 112, 114]) hke
        have q2 := lit_tt (l := [116, 101, 120, 116]) hkt
        have hg := grp_ok (f := f) (pl := pl) (text := true) HQ.out (Or.inr hkt) (by rw [hkt]; decide)
        have HRR := Lib.hid (HRE.out.trans hg)
        clear hke hkt hg
        have R0 : Hid (PRnd w B b σ M P R true mb w.heap.size (w1.heap.size + 1) f 0 pl ((w1.alloc (.cells #[.int .i64 x.k, .string x.t, .int .i64 x.p, .int .i64 x.q, .int .i64 x.a, .int .i64 x.c] 41)).alloc (.cells #[.bool true, .int .i64 0] 131)) s1 M1) := Lib.hid ⟨HRR.out, FU.out, ((HH.out.alloc (.cells #[.int .i64 x.k, .string x.t, .int .i64 x.p, .int .i64 x.q, .int .i64 x.a, .int .i64 x.c] 41)).own (.cells #[.bool true, .int .i64 0] 131)).less (fun k hk => by rcases hk with hk | hk; exact Or.inl hk; exact Or.inr (by rw [hk]; simp)), GG.out, (TT.out.then (Turns.alloc _ _ _)).then (Turns.alloc _ _ _), blk_alloc (blk_alloc ZR.out _) _, blk_new2 w1 _ _, (PL.out.keep (Below.heap_alloc w1 (.cells #[.int .i64 x.k, .string x.t, .int .i64 x.p, .int .i64 x.q, .int .i64 x.a, .int .i64 x.c] 41) mb PL.out.lt)).keep (Below.heap_alloc (w1.alloc (.cells #[.int .i64 x.k, .string x.t, .int .i64 x.p, .int .i64 x.q, .int .i64 x.a, .int .i64 x.c] 41)) (.cells #[.bool true, .int .i64 0] 131) mb (Nat.lt_of_lt_of_le PL.out.lt (by simp))), LEN.out, Nat.zero_le _⟩
        have HGB : Hid (w.heap.size < w1.heap.size + 1) := Lib.hid (by have := HWW.out; omega)
        clear GG LEN FU PL ZR HH TT
        go_wp2_with fail
        generalize w1.heap.size + 1 = gb at *
        go_loopg [] f (fun k wr => ∃ (n : Nat) (pl' : Pl) (s' : St) (M' : Nat → Prop), Hid (PRnd w B b σ M P R true mb w.heap.size gb k n pl' wr s' M'))
        case atStart => exact ⟨0, pl, s1, M1, R0⟩
        case round =>
          clear R0
          obtain ⟨n, pl', s', M', hr⟩ := hrel
          cases gk with
          | zero => exact absurd hr.out.fuel (by have := hr.out.H.b1; omega)
          | succ f' =>
            have C2 := Lib.hid (readName_any hr.out.H)
            go_wp2_with fail
            refine C2.out.mono ?_; rintro e w2 ⟨M2, hG, ht, h⟩
            have T2 := Lib.hid (hr.out.T.trans (plus_grows hr.out.G) (ht.mono (M := plus M' mb) (fun k hk => Or.inl hk)))
            cases hq : readName s' with
            | bad g =>
              rw [hq] at h
              obtain rfl := h
              exact ⟨rfl, endsG_bad (hr.out.eq.trans (par_bad1 hq)) T2.out rfl⟩
            | ok y s2 =>
              rw [hq] at h
              obtain ⟨v, rfl, ⟨⟨rfl, hy⟩, -⟩, hh⟩ := h
              have hp := hr.out.H.lowP
              have HA := Lib.hid ((hh.slack (show σ ≤ σ + 4 by omega)).alloc (.cells #[.int .i64 y.k, .string y.t, .int .i64 y.p, .int .i64 y.q, .int .i64 y.a, .int .i64 y.c] 41))
              have KR := Lib.hid (blk_alloc ((ht.block w.heap.size (hp _ (Or.inl (Or.inr rfl))).2.1 (hp _ (Or.inl (Or.inr rfl))).2.2).trans hr.out.zr) (.cells #[.int .i64 y.k, .string y.t, .int .i64 y.p, .int .i64 y.q, .int .i64 y.a, .int .i64 y.c] 41))
              have KG := Lib.hid (blk_alloc ((ht.block gb (hp _ (Or.inr rfl)).2.1 (hp _ (Or.inr rfl)).2.2).trans hr.out.zg) (.cells #[.int .i64 y.k, .string y.t, .int .i64 y.p, .int .i64 y.q, .int .i64 y.a, .int .i64 y.c] 41))
              have pk := hr.out.pls.keep (ht.block mb (hp mb (Or.inl (Or.inl HPM.out))).2.1 (hp mb (Or.inl (Or.inl HPM.out))).2.2)
              have PK := Lib.hid (pk.keep (Below.heap_alloc w2 (.cells #[.int .i64 y.k, .string y.t, .int .i64 y.p, .int .i64 y.q, .int .i64 y.a, .int .i64 y.c] 41) mb pk.lt))
              have GK := Lib.hid (hr.out.G.trans hG hr.out.T.size)
              have HQ2 := Lib.hid hq
              have ST2 := Lib.hid (readName_steps hq)
              have HY := Lib.hid hy
              have TA := Lib.hid (T2.out.then (Turns.alloc (plus M mb) w2 (.cells #[.int .i64 y.k, .string y.t, .int .i64 y.p, .int .i64 y.q, .int .i64 y.a, .int .i64 y.c] 41)))
              obtain ⟨i, hi⟩ : ∃ i, i = plIdx pl' y.t := ⟨_, rfl⟩
              obtain ⟨bo, hbo⟩ : ∃ bo, bo = plText pl' y.t := ⟨_, rfl⟩
              have hlk := places_run PK.out y.t hy.ts i bo hi hbo
              have HI := Lib.hid hi
              clear hq hG ht hh hp pk hy C2 hbo
              unfold Tv.val
              by_cases h0 : 0 < i
              · have e0 := idx_yes h0
                have e1 : (0 : Int) < (i : Int) := Int.natCast_pos.2 h0
                have HE := Lib.hid (hr.out.eq.trans (par_twice HQ2.out (by rw [← HI.out]; exact h0)))
                have CF := Lib.hid (fail_any 14 y _ _ HA.out.env' HY.out rfl)
                unfold Tv.val at CF
                clear hi
                go_wp2_with fail
                refine CF.out.mono ?_; rintro e w3 ⟨rfl, hb⟩
                exact ⟨rfl, endsG_bad HE.out (TA.out.then (Turns.of_below hb _)) rfl⟩
              · obtain rfl : i = 0 := by omega
                have H0 : Hid (¬ 0 < plIdx pl' y.t) := Lib.hid (by rw [← HI.out]; omega)
                obtain ⟨D, hD, hms, hfp⟩ := PK.out.ex
                obtain ⟨N, hN⟩ : ∃ N, N = pl'.length := ⟨_, rfl⟩
                obtain ⟨Nf1, Nf2⟩ := N_facts (n := N) (by have := hr.out.len; have := hr.out.H.b1; omega)
                obtain ⟨nf1, nf2⟩ := N_facts (n := n) (by have := hr.out.len; have := hr.out.H.b1; have := hr.out.nn; omega)
                have hms2 : Maps.size D = N := hms.trans hN.symm
                have hlen := hD.len Tryz.underlying169 3
                obtain ⟨w3, hrun, own3, gr3⟩ := World.ownsMap.update hD str_key Tryz.underlying169 (Nat.lt_of_le_of_lt (Nat.le_trans hr.out.len hr.out.H.b1) (by unfold maxLen; omega)) (key := .string y.t) (val := .agg #[.int .i64 0, .string ⟨#[]⟩, .int .i64 0, .int .i64 0, .int .i64 0, .int .i64 0, .int .i64 ((N : Int) + 1), .bool true]) (d := .held (.agg #[.int .i64 0, .string ⟨#[]⟩, .int .i64 0, .int .i64 0, .int .i64 0, .int .i64 0, .int .i64 ((N : Int) + 1), .bool true])) (ps := []) (WideMaps.keyOf_string_mk Tryz.underlying9 HY.out.ts) rfl
                have PN : Hid (Places w3 mb (pl' ++ [(y.t, true)])) := Lib.hid (by
                  rw [piece_succ, hN] at own3
                  exact Places.put (by have := H0.out; omega) HY.out.ts hD hms hfp own3)
                have HB := Lib.hid (HA.out.placed (Or.inl (Or.inl HPM.out)) gr3 (notExp_map hD))
                have hmg : some gb ≠ some mb := fun e => by injection e with e; have h1 := HGB.out; have h2 := HWM.out; omega
                have hmr : some w.heap.size ≠ some mb := fun e => by injection e with e; have h2 := HWM.out; omega
                have KG3 := Lib.hid ((gr3.block gb (Array.getElem?_eq_some_iff.1 KG.out).1 hmg).trans KG.out)
                have KR3 := Lib.hid ((gr3.block w.heap.size (Array.getElem?_eq_some_iff.1 KR.out).1 hmr).trans KR.out)
                have T3 := Lib.hid (TA.out.then ((Turns.of_grown gr3 (notExp_map hD)).mono (M := plus M mb) (fun k hk => by injection hk with hk; exact Or.inr hk.symm)))
                obtain ⟨g0, g1, g2, g3, gl⟩ := cells2 KG3.out
                obtain ⟨a0, a1, a2, a3, al⟩ := cells2 KG.out
                have H4 := Lib.hid (HB.out.wrote (p := ⟨gb, 1, none⟩) (Or.inr rfl) (.int .i64 ((n : Int) + 1)))
                have T4 := Lib.hid (T3.out.new1 (g := gb) (Nat.le_of_lt HGB.out) 1 (.int .i64 ((n : Int) + 1)))
                have KG4 := Lib.hid (heap_set w3 gb 1 (.int .i64 ((n : Int) + 1)) _ _ KG3.out)
                have hgr : ¬ w.heap.size = gb := Nat.ne_of_lt HGB.out
                have KR4 := Lib.hid ((Below.heap_setCell w3 ⟨gb, 1, none⟩ (.int .i64 ((n : Int) + 1)) w.heap.size hgr).trans KR3.out)
                have hgm : ¬ mb = gb := fun e => hmg (by rw [e])
                have PN4 := Lib.hid (PN.out.keep (Below.heap_setCell w3 ⟨gb, 1, none⟩ (.int .i64 ((n : Int) + 1)) mb hgm))
                have C4 := Lib.hid (read_any H4.out)
                have HN := Lib.hid hN
                clear hD hms hfp own3 gr3 hN hmg hmr hgm hi
                go_wp2_with fail
                refine C4.out.mono ?_; rintro e w5 ⟨M5, hG, ht, h⟩
                have T5 := Lib.hid (T4.out.trans (plus_grows GK.out) (ht.mono (M := plus M2 mb) (fun k hk => Or.inl hk)))
                cases hq : read s2 with
                | bad g =>
                  rw [hq] at h
                  obtain rfl := h
                  exact ⟨rfl, endsG_bad (hr.out.eq.trans (par_bad2 HQ2.out H0.out hq)) T5.out rfl⟩
                | ok z s3 =>
                  rw [hq] at h
                  obtain ⟨v, rfl, ⟨rfl, hz⟩, hh⟩ := h
                  have hp := H4.out.lowP
                  have G5 := Lib.hid (GK.out.trans hG T4.out.size)
                  have KR5 := Lib.hid ((ht.block w.heap.size (hp _ (Or.inl (Or.inr rfl))).2.1 (hp _ (Or.inl (Or.inr rfl))).2.2).trans KR4.out)
                  have KG5 := Lib.hid ((ht.block gb (hp _ (Or.inr rfl)).2.1 (hp _ (Or.inr rfl)).2.2).trans KG4.out)
                  have PN5 := Lib.hid (PN4.out.keep (ht.block mb (hp mb (Or.inl (Or.inl HPM.out))).2.1 (hp mb (Or.inl (Or.inl HPM.out))).2.2))
                  have HQ5 := Lib.hid hq
                  have ST5 := Lib.hid (read_steps hq)
                  have HZ := Lib.hid hz
                  have H6 := Lib.hid ((hh.slack (show σ ≤ σ + 4 by omega)).alloc (.cells #[.int .i64 z.k, .string z.t, .int .i64 z.p, .int .i64 z.q, .int .i64 z.a, .int .i64 z.c] 41))
                  have T6 := Lib.hid (T5.out.then (Turns.alloc (plus M mb) w5 (.cells #[.int .i64 z.k, .string z.t, .int .i64 z.p, .int .i64 z.q, .int .i64 z.a, .int .i64 z.c] 41)))
                  have KR6 := Lib.hid (blk_alloc KR5.out (.cells #[.int .i64 z.k, .string z.t, .int .i64 z.p, .int .i64 z.q, .int .i64 z.a, .int .i64 z.c] 41))
                  have KG6 := Lib.hid (blk_alloc KG5.out (.cells #[.int .i64 z.k, .string z.t, .int .i64 z.p, .int .i64 z.q, .int .i64 z.a, .int .i64 z.c] 41))
                  have PN6 := Lib.hid (PN5.out.keep (Below.heap_alloc w5 (.cells #[.int .i64 z.k, .string z.t, .int .i64 z.p, .int .i64 z.q, .int .i64 z.a, .int .i64 z.c] 41) mb PN5.out.lt))
                  have LN : Hid ((pl' ++ [(y.t, true)]).length ≤ s3.steps) := Lib.hid (ln_step hr.out.len ST2.out ST5.out)
                  have NN : Hid (n + 1 ≤ (pl' ++ [(y.t, true)]).length) := Lib.hid (by rw [List.length_append]; exact Nat.succ_le_succ hr.out.nn)
                  have FU : Hid (200001 ≤ f' + s3.steps) := Lib.hid (fu_step hr.out.fuel ST2.out ST5.out)
                  obtain ⟨g0, g1, g2, g3, gl⟩ := cells2 KG5.out
                  have KZ := Lib.hid (heap_alloc_new w5 (.cells #[.int .i64 z.k, .string z.t, .int .i64 z.p, .int .i64 z.q, .int .i64 z.a, .int .i64 z.c] 41))
                  clear hq hG ht hh hp hz
                  unfold Tv.val
                  have H7 := H6
                  have T7 := T6
                  have KR7 := KR6
                  have KG7 := KG6
                  have PN7 := PN6
                  cases hd : isSign z (str [41])
                  · have HE := Lib.hid (hr.out.eq.trans (par_no HQ2.out H0.out HQ5.out rfl hd))
                    have CD := Lib.hid (demand_bad z (str [41]) _ _ H7.out.env' HZ.out hd rfl)
                    unfold Tv.val at CD
                    clear hd
                    go_wp2_with fail
                    refine CD.out.mono ?_; rintro e w7 ⟨rfl, hb⟩
                    exact ⟨rfl, endsG_bad HE.out (T7.out.then (Turns.of_below hb _)) rfl⟩
                  · have HE := Lib.hid (hr.out.eq.trans (par_end HQ2.out H0.out HQ5.out rfl hd))
                    have CD := Lib.hid (demand_ok z (str [41]) _ H7.out.env' hd)
                    unfold Tv.val at CD
                    clear hd
                    go_wp2_with fail
                    refine CD.out.mono ?_; rintro e w7 ⟨rfl, hb⟩
                    have KG8 := Lib.hid ((hb.block gb (Array.getElem?_eq_some_iff.1 KG7.out).1).trans KG7.out)
                    have KR8 := Lib.hid ((hb.block w.heap.size (Array.getElem?_eq_some_iff.1 KR7.out).1).trans KR7.out)
                    have H8 := Lib.hid (H7.out.below hb)
                    have T8 := Lib.hid (T7.out.then (Turns.of_below hb _))
                    have P8 := Lib.hid (PN7.out.keep (hb.block mb PN7.out.lt))
                    obtain ⟨g0, g1, g2, g3, gl⟩ := cells2 KG8.out
                    obtain ⟨r0, r1, r2, r3, rl⟩ := cells2 KR8.out
                    have K9 := Lib.hid (heap_set _ w.heap.size 1 (.int .i64 ((n : Int) + 1)) _ _ (heap_set w7 w.heap.size 0 (.bool true) _ _ KR8.out))
                    clear hb
                    go_wp2_with fail
                    obtain ⟨k0, k1, -, -, -⟩ := cells2 K9.out
                    refine bodyPost_ret (v := .agg #[.bool true, .int .i64 ((n : Int) + 1)]) (by simp [results, Tryz.results128, go_sem, k0, k1]) rfl ?_
                    refine ⟨M5, G5.out, (T8.out.new1 (g := w.heap.size) (Nat.le_refl _) 0 _).new1 (g := w.heap.size) (Nat.le_refl _) 1 _, ?_⟩
                    rw [HE.out]
                    have hmr : ¬ mb = w.heap.size := Nat.ne_of_lt HWM.out
                    exact ⟨by show Ending.returned (.agg #[.bool true, .int .i64 ((n : Int) + 1)]) = .returned (.agg #[.bool true, .int .i64 ((n + 1 : Nat) : Int)]); rw [Int.natCast_succ], P8.out.keep ((Below.heap_setCell _ ⟨w.heap.size, 1, none⟩ _ mb hmr).trans (Below.heap_setCell _ ⟨w.heap.size, 0, none⟩ _ mb hmr)), LN.out, NN.out, ((H8.out.wrote (p := ⟨w.heap.size, 0, none⟩) (Or.inl (Or.inr rfl)) _).wrote (p := ⟨w.heap.size, 1, none⟩) (Or.inl (Or.inr rfl)) _).less (fun k hk => Or.inl (Or.inl hk))⟩
      · have q1 := lit_ff (l := [101, 120, 112, 114]) hke
        have q2 := lit_ff (l := [116, 101, 120, 116]) hkt
        have HE := Lib.hid (HRE.out.trans (grp_no (f := f) (pl := pl) HQ.out (fun h => h.elim hke hkt)))
        have CF := Lib.hid (fail_any 11 x _ _ (HH.out.alloc (.cells #[.int .i64 x.k, .string x.t, .int .i64 x.p, .int .i64 x.q, .int .i64 x.a, .int .i64 x.c] 41)).env' HX.out rfl)
        unfold Tv.val at CF
        clear hke hkt
        go_wp2_with fail
        refine CF.out.mono ?_; rintro e w2 ⟨rfl, hb⟩
        exact ⟨rfl, endsG_bad HE.out ((TT.out.then (Turns.alloc _ _ _)).then (Turns.of_below hb _)) rfl⟩
end Mx
end Go.Proofs.YtnhcjgnohnedaaaGreatDoor
