/-
  Contracts of package macro: a macro is replaced.
-/
import Derived.Test.YtnhcjgnohnedaaaGreatDoorMxXa
import Derived.Deep.DeepCutAuto
import Derived.Deep.CutBlock
namespace Go.Proofs.YtnhcjgnohnedaaaGreatDoor
open Go.RowKit

namespace Mx
theorem Holds.lowP_ne {w : World} {B b σ : Nat} {M P : Nat → Prop} {s : St} {y : Lay} (_ : Holds w B b σ M P s) (Pt : Parts w B b σ M (uni M P) y s) {g : Nat} {c : Array Value} (h : w.heap[g]? = some (.cells c 41 (0, 0))) : ¬ b = g := fun e => by
  subst e; exact absurd (heap_inj h Pt.cells) (by decide)
theorem rep_bad {f : Nat} {t : Tv} {m : Mac} {s : St} {e : Flt} (h : args f m.groups [] s = .bad e) : replace f t m s = .bad e := by simp [replace, bind, M.bind, h]
theorem ite_app {α : Type} {c : Prop} [Decidable c] (a b : M α) (s : St) : (ite c a b : M α) s = ite c (a s) (b s) := by by_cases h : c <;> simp [h]
theorem rep_ok {f : Nat} {t : Tv} {m : Mac} {s s1 : St} {ar : List (List Tv)} (h : args f m.groups [] s = .ok ar s1) : replace f t m s = (if 20000 < (listOf m ar).length then .bad (failAt 3 t) else if 200 < (if (listOf m ar).isEmpty then s1.lists else listOf m ar :: s1.lists).length then .bad (failAt 20 t) else .ok () { s1 with lists := if (listOf m ar).isEmpty then s1.lists else listOf m ar :: s1.lists }) := by
  simp only [replace, bind, M.bind, h]
  exact ite_app (α := Unit) (bad (failAt 3 t)) _ s1
theorem sum_take {gs : List Par} {i : Nat} {g : Par} (h : gs[i]? = some g) : ((gs.take (i + 1)).map Par.count).sum = ((gs.take i).map Par.count).sum + g.count := by
  rw [List.take_add_one, h]; simp
theorem drop_at {gs : List Par} {i : Nat} {g : Par} (h : gs[i]? = some g) : gs.drop i = g :: gs.drop (i + 1) := by
  have hl := (List.getElem?_eq_some_iff.1 h).1
  rw [List.drop_eq_getElem_cons hl, (List.getElem?_eq_some_iff.1 h).2]
theorem ParFix.at_ {w wr : World} {X : Nat → Prop} {A : Option Addr} {l : List Par} (h : ParFix w X A l) (ht : Turns X w wr) (hl : 0 < l.length) : ∃ ad, A = some ad ∧ ad.block < wr.heap.size ∧ ∀ j g, l[j]? = some g → wr.cell? (ad.add (j * 2)) = some (.bool g.text) ∧ wr.cell? ⟨(ad.add (j * 2)).block, (ad.add (j * 2)).off + 1, none⟩ = some (.int .i64 g.count) := by
  obtain ⟨ad, e, hs, hc⟩ := h hl
  have hk : ∀ j (p : Addr), p.block = (ad.add (j * 2)).block → wr.cell? p = w.cell? p := fun j p hp => by rw [block_of_add] at hp; exact Stay.cell (by rw [hp]; exact hs) ht
  exact ⟨ad, e, Nat.lt_of_lt_of_le hs.1 ht.size, fun j g hj => ⟨(hk j _ rfl).trans (hc j g hj).1, (hk j ⟨_, _, none⟩ rfl).trans (hc j g hj).2⟩⟩
theorem z_no {j gc q : Nat} (h : gc = j + (q + 1)) (hz : q = 0) : decide ((j : Int) + 1 < (gc : Int)) = false := decide_eq_false (by omega)
theorem z_yes {j gc q : Nat} (h : gc = j + (q + 1)) (hz : ¬ q = 0) : decide ((j : Int) + 1 < (gc : Int)) = true := decide_eq_true (by omega)
theorem c_facts {n k : Nat} (h1 : n ≤ k) (h2 : k ≤ 200000) : n + 1 ≤ maxLen ∧ (n + 1) * 24 ≤ 140737488355328 := ⟨by unfold maxLen; omega, by omega⟩
theorem le_step {a b c : Nat} (h1 : a ≤ b) (h2 : b + 1 ≤ c) : a + 1 ≤ c := by omega
theorem le_step' {a b c : Nat} (h1 : a ≤ b) (h2 : b + 1 ≤ c) : a ≤ c := by omega
theorem sub_q {j gc q : Nat} (h : gc = j + (q + 1)) : gc - (j + 1) = q := by omega
theorem m_lt {j gc : Nat} (h : j < gc) : gc - (intOf (.int .i64 ((j : Int) + 1))).toNat < gc - (intOf (.int .i64 (j : Int))).toNat := by simp [intOf]; omega
theorem v_succ (j : Nat) : Value.int .i64 ((j : Int) + 1) = .int .i64 ((j + 1 : Nat) : Int) := by rw [Int.natCast_succ]
theorem rep_none {s' : St} {x : Tv} {L : List Tv} {R : Res Unit} (h : R = (if 200 < (if L.isEmpty then s'.lists else L :: s'.lists).length then .bad (failAt 20 x) else .ok () { s' with lists := if L.isEmpty then s'.lists else L :: s'.lists })) (h0 : L.length = 0) (h2 : s'.lists.length ≤ 200) : R = .ok () s' := by
  have h1 : L = [] := List.eq_nil_of_length_eq_zero h0
  subst h1
  rw [h]
  show (if 200 < s'.lists.length then _ else _) = _
  rw [if_neg (by omega)]
  rfl
theorem rep_full {s' : St} {x : Tv} {L : List Tv} {R : Res Unit} (h : R = (if 200 < (if L.isEmpty then s'.lists else L :: s'.lists).length then .bad (failAt 20 x) else .ok () { s' with lists := if L.isEmpty then s'.lists else L :: s'.lists })) (h0 : ¬ L.length = 0) (h2 : s'.lists.length = 200) : R = .bad (failAt 20 x) := by
  cases L with
  | nil => exact absurd rfl h0
  | cons a L => rw [h]; show (if 200 < ((a :: L) :: s'.lists).length then _ else _) = _; rw [if_pos (by simp; omega)]
theorem rep_more {s' : St} {x : Tv} {L : List Tv} {R : Res Unit} (h : R = (if 200 < (if L.isEmpty then s'.lists else L :: s'.lists).length then .bad (failAt 20 x) else .ok () { s' with lists := if L.isEmpty then s'.lists else L :: s'.lists })) (h0 : ¬ L.length = 0) (h2 : s'.lists.length < 200) : R = .ok () { s' with lists := L :: s'.lists } := by
  cases L with
  | nil => exact absurd rfl h0
  | cons a L => rw [h]; show (if 200 < ((a :: L) :: s'.lists).length then _ else _) = _; rw [if_neg (by simp; omega)]; rfl
theorem l_yes {n : Nat} (h : n = 200) : decide (200 < (n : Int) + 1) = true := decide_eq_true (by omega)
theorem l_more {n : Nat} (h : n < 200) : decide (200 < (n : Int) + 1) = false := decide_eq_false (by omega)
theorem l_pos {n : Nat} (h : ¬ n = 0) : decide ((0 : Int) < (n : Int)) = true := decide_eq_true (by omega)
theorem l_facts {n : Nat} (h : n ≤ 200) : n + 1 ≤ maxLen ∧ (n + 1) * 24 ≤ 140737488355328 := ⟨by unfold maxLen; omega, by omega⟩
theorem l_no {n : Nat} (h : n ≤ 200) : decide (200 < (n : Int)) = false := decide_eq_false (by omega)
theorem j_facts {j gc : Nat} (h : j ≤ 400000) : IntKind.i64.wrap ((j : Int) + 1) = (j : Int) + 1 ∧ wrap64 ((j : Int) + 1) = (j : Int) + 1 ∧ IntKind.i64.wrap (j : Int) = j ∧ wrap64 (j : Int) = j ∧ (0 : Int) ≤ (j : Int) :=
  ⟨IntWalk.i64_in _ (by omega), IntWalk.wrap64_in _ (by omega), IntWalk.i64_in _ (by omega), IntWalk.wrap64_in _ (by omega), by omega⟩
set_option maxRecDepth 100000 in
set_option maxHeartbeats 16000000 in
theorem replace_any {w : World} {B b σ : Nat} {M P : Nat → Prop} {s : St} (x : Tv) (hx : x.fit) (f : Nat) (hf : 200001 ≤ f + s.steps) (m : Mac) (k : Nat) (hm : IsMac w (uni M P) k m) (H : Holds w B b σ M P s) :
    Calls Tryz.prog 54 #[.pointer (some ⟨b, 0, none⟩), x.val, .pointer (some ⟨k, 0, none⟩)] w (Ends B b σ M P w (replace f x m s) vUnit) := by
  obtain ⟨A1, c1, A2, c2, hk, hpf, -⟩ := hm.ex
  have hklt : k < w.heap.size := (Array.getElem?_eq_some_iff.1 hk).1
  have k0 : w.cell? ⟨k, 0, none⟩ = some (.slice A1 m.groups.length c1) := cell_of_row w k 0 _ _ _ hk
  have hBs := H.Bs
  have R0 : Hid (RSt w B b σ M P x (.slice none 0 0) (w.alloc (.cells #[.int .i64 x.k, .string x.t, .int .i64 x.p, .int .i64 x.q, .int .i64 x.a, .int .i64 x.c] 41)) [] s M) :=
    Lib.hid ⟨(H.own (.cells #[.int .i64 x.k, .string x.t, .int .i64 x.p, .int .i64 x.q, .int .i64 x.a, .int .i64 x.c] 41)).noRow (v := .slice none 0 0) rfl, Grows.refl _ _, Turns.alloc _ _ _, heap_alloc_new w _, ⟨[], World.ownsRow_nil _ _ _ _, trivial⟩, fun k hk => by simp [Value.ownBlock] at hk, Nat.zero_le _, fun k hk => by simp [Value.ownBlock] at hk⟩
  have HM := Lib.hid hm
  have HPF := Lib.hid hpf
  have HX := Lib.hid hx
  have HF := Lib.hid hf
  have HP0 := Lib.hid (fun k (hk : P k) => (H.lowP k hk).2.1)
  have hf1 := hm.few1
  have HF3 := Lib.hid hm.few3
  obtain ⟨n, hn⟩ : ∃ n, n = m.groups.length := ⟨_, rfl⟩
  rw [← hn] at k0 hf1
  have HN := Lib.hid hn
  have HST0 := Lib.hid (Nat.le_refl s.steps)
  unfold Tv.val
  clear H hm hk hpf hx hf hn
  go_enter Tryz.func54, Tryz.ntmps54
  go_wp2_with fail
  go_loopw [6, 18] (fun va vi wr => ∃ (i : Nat) (acc : List (List Tv)) (s' : St) (M' : Nat → Prop), vi = .int .i64 i ∧ i ≤ n ∧ Hid (RSt w B b σ M P x va wr acc s' M') ∧ Hid (args f m.groups [] s = args f (m.groups.drop i) acc s') ∧ Hid (acc.length = ((m.groups.take i).map Par.count).sum) ∧ Hid (s.steps ≤ s'.steps)) (fun _ vi _ => n - (intOf vi).toNat)
  case atStart => exact ⟨0, [], s, M, rfl, Nat.zero_le _, R0, Lib.hid rfl, Lib.hid rfl, HST0⟩
  case round =>
    clear R0 HST0
    obtain ⟨i, acc, s', M', rfl, hi, hr, heq, hsum, hst⟩ := hrel
    by_cases hlt : i < n
    · obtain ⟨⟨gt, gc⟩, hgi⟩ : ∃ g, m.groups[i]? = some g := ⟨_, List.getElem?_eq_getElem (by rw [← HN.out]; exact hlt)⟩
      obtain ⟨ad, rfl, hab, hat⟩ := HPF.out.at_ (hr.out.T.mono (fun _ h => Or.inl h)) (by rw [← HN.out]; omega)
      have hE : (ad.add (i * 2)).block = ad.block := block_of_add _ _
      obtain ⟨y0, y1⟩ := hat i _ hgi
      obtain ⟨⟨xb, xo, xs⟩, hE1⟩ : ∃ E, ad.add (i * 2) = E := ⟨_, rfl⟩
      rw [hE1] at y0 y1 hE
      simp only at y0 y1 hE
      have hxb : xb < wr.heap.size := by rw [hE]; exact hab
      have hk0 : (0 : Int) ≤ (i : Int) := by omega
      have hk1 : (i : Int) < (n : Int) := by omega
      have HD := Lib.hid (drop_at hgi)
      have HSU := Lib.hid (sum_take hgi)
      have HGC : Hid (gc ≤ 200001) := Lib.hid (HF3.out ⟨gt, gc⟩ (List.mem_of_getElem? hgi))
      have RO := Lib.hid (hr.out.own' (.cells #[.bool gt, .int .i64 gc] 131))
      have KG := Lib.hid (heap_alloc_new wr (.cells #[.bool gt, .int .i64 gc] 131))
      have CS := Lib.hid (readSign_any (str [40]) RO.out.H)
      clear hgi hat hab hE
      go_wp2_with fail
      refine CS.out.mono ?_; rintro e w1 ⟨M1, hG, ht, h⟩
      cases hq : readSign (str [40]) s' with
      | bad g =>
        rw [hq] at h
        obtain rfl := h
        exact ⟨rfl, ends_bad (rep_bad (heq.out.trans (by rw [HD.out]; exact args_bad hq))) (RO.out.T.trans RO.out.G ht) rfl⟩
      | ok u s1 =>
        rw [hq] at h
        obtain ⟨v, rfl, rfl, hh⟩ := h
        have hs1 := readSign_steps hq
        have hp := RO.out.H.lowP
        have KG1 := Lib.hid ((ht.block wr.heap.size (hp _ (Or.inl (Or.inl (Or.inr rfl)))).2.1 (hp _ (Or.inl (Or.inl (Or.inr rfl)))).2.2).trans KG.out)
        have R1 := Lib.hid (RO.out.turn hG ht (hh.slack (show σ ≤ σ + 4 by omega)) (by omega))
        have E1 : Hid (args f m.groups [] s = rest2 f gt gc acc (m.groups.drop (i + 1)) s1) := Lib.hid (heq.out.trans (by rw [HD.out]; exact args_ok hq))
        have hs2 : Hid (s.steps ≤ s1.steps) := Lib.hid (by have := hst.out; omega)
        have kc1 : w1.cell? ⟨wr.heap.size, 1, none⟩ = some (.int .i64 gc) := cell_of_row w1 _ 1 _ _ _ KG1.out
        have hgl : wr.heap.size < w1.heap.size := (Array.getElem?_eq_some_iff.1 KG1.out).1
        clear hq hG ht hh hp hs1 KG CS
        go_wp2_with fail
        generalize wr.heap.size = gb at *
        clear hxb y0 y1 hE1 HD
        go_loopw [6, 26] (fun va vj wr2 => ∃ (j : Nat) (acc2 : List (List Tv)) (s2 : St) (M2 : Nat → Prop), vj = .int .i64 j ∧ j ≤ gc ∧ Hid (RSt w B b σ M (also P gb) x va wr2 acc2 s2 M2) ∧ Hid (args f m.groups [] s = rest2 f gt (gc - j) acc2 (m.groups.drop (i + 1)) s2) ∧ Hid (acc2.length = acc.length + j) ∧ Hid (s.steps ≤ s2.steps) ∧ Hid (wr2.heap[gb]? = some (.cells #[.bool gt, .int .i64 gc] 131))) (fun _ vj _ => gc - (intOf vj).toNat)
        case atStart => exact ⟨0, acc, s1, M1, rfl, Nat.zero_le _, R1, E1, Lib.hid rfl, hs2, KG1⟩
        case round =>
          clear R1 E1 hs2 KG1 kc1 hgl
          obtain ⟨j, acc2, s2, M2, rfl, hj, r2, eq2, sum2, st2, kg2⟩ := hrel
          have kc1 : wr.cell? ⟨gb, 1, none⟩ = some (.int .i64 gc) := cell_of_row wr _ 1 _ _ _ kg2.out
          have kc0 : wr.cell? ⟨gb, 0, none⟩ = some (.bool gt) := cell_of_row wr _ 0 _ _ _ kg2.out
          have hgl : gb < wr.heap.size := (Array.getElem?_eq_some_iff.1 kg2.out).1
          by_cases hjl : j < gc
          · obtain ⟨q, hq0⟩ : ∃ q, gc = j + (q + 1) := ⟨gc - j - 1, by omega⟩
            have EQ : Hid (args f m.groups [] s = rest2 f gt (q + 1) acc2 (m.groups.drop (i + 1)) s2) := Lib.hid (by rw [eq2.out, show gc - j = q + 1 by omega])
            have hj0 : (0 : Int) ≤ (j : Int) := by omega
            have hj1 : (j : Int) < (gc : Int) := by omega
            have CA := Lib.hid (readArgument_any gt f (by have h1 := HF.out; have h2 := st2.out; omega) r2.out.H)
            have HQ0 := Lib.hid hq0
            clear eq2 hq0
            go_wp2_with fail
            refine CA.out.mono ?_; rintro e w3 ⟨M3, hG, ht, h⟩
            cases hq : argument f gt [] [] s2 with
            | bad g =>
              rw [hq] at h
              obtain rfl := h
              exact ⟨rfl, ends_bad (rep_bad (EQ.out.trans (rest2_bad hq))) (r2.out.T.trans r2.out.G ht) rfl⟩
            | ok r s3 =>
              obtain ⟨l, y⟩ := r
              rw [hq] at h
              obtain ⟨v, rfl, hy, hls, how, hnw, hll, hh⟩ := h
              have hst := argument_steps f hq
              have hp := r2.out.H.lowP
              have hv2 : ∀ k, v.ownBlock = some k → ¬ uni M3 (row (also (also P gb) w.heap.size) u6) k := fun k hk hx => by
                rcases hx with hx | hx
                · exact (hh.lowP k (Or.inr hk)).2.2 hx
                · have h1 := hnw k hk; have h2 := (hp k hx).2.1; omega
              obtain ⟨A, c, rfl, hnil, -, hfix⟩ := TokOwn.fix (X := uni M3 (row (also (also P gb) w.heap.size) u6)) how hv2 hls
              have R3 := Lib.hid (r2.out.turn hG ht (hh.less (fun k hk => Or.inl hk)) (by omega))
              have KG3 := Lib.hid ((ht.block gb hgl (hp gb (Or.inl (Or.inl (Or.inr rfl)))).2.2).trans kg2.out)
              have R4 := Lib.hid (R3.out.below (Below.alloc (Below.refl _ _) (Nat.le_refl _) (.cells #[.int .i64 y.k, .string y.t, .int .i64 y.p, .int .i64 y.q, .int .i64 y.a, .int .i64 y.c] 41)))
              have KG4 := Lib.hid (blk_alloc KG3.out (.cells #[.int .i64 y.k, .string y.t, .int .i64 y.p, .int .i64 y.q, .int .i64 y.a, .int .i64 y.c] 41))
              have kc3 : w3.cell? ⟨gb, 1, none⟩ = some (.int .i64 gc) := cell_of_row w3 _ 1 _ _ _ KG3.out
              have hg3 : gb < w3.heap.size := (Array.getElem?_eq_some_iff.1 KG3.out).1
              have FX := Lib.hid (hfix.turn (Turns.of_below (Below.alloc (Below.refl w3.heap.size w3) (Nat.le_refl _) (.cells #[.int .i64 y.k, .string y.t, .int .i64 y.p, .int .i64 y.q, .int .i64 y.a, .int .i64 y.c] 41)) _) (Grows.refl _ _))
              have HNIL := Lib.hid hnil
              have HLL := Lib.hid hll
              have HY := Lib.hid hy
              have HQ := Lib.hid hq
              have HS3 : Hid (s2.steps + 1 ≤ s3.steps) := Lib.hid hst
              obtain ⟨nl, hnl⟩ : ∃ n, n = l.length := ⟨_, rfl⟩
              rw [← hnl]
              have HNL := Lib.hid hnl
              obtain ⟨jf1, jf2, jf3, jf4, jf5⟩ := j_facts (j := j) (gc := gc) (by have := HGC.out; omega)
              clear hq hG ht hh hls how hnw hll hst hp hv2 hnil hfix hy hnl kc0 kc1 hgl
              unfold Tv.val
              by_cases hz : q = 0
              · have hzz : decide ((j : Int) + 1 < (gc : Int)) = false := z_no HQ0.out hz
                cases hd : isSign y (str [41])
                · have HE := Lib.hid (EQ.out.trans (rest2_no HQ.out (by rw [if_pos hz]; exact hd)))
                  have CD := Lib.hid (demand_bad y (str [41]) _ _ R4.out.H.env' HY.out hd rfl)
                  unfold Tv.val at CD
                  clear hd hz
                  go_wp2_with fail
                  refine CD.out.mono ?_; rintro e w4 ⟨rfl, hb⟩
                  exact ⟨rfl, ends_bad (rep_bad HE.out) (R4.out.T.then (Turns.of_below hb _)) rfl⟩
                · have HE := Lib.hid (EQ.out.trans (rest2_ok HQ.out (by rw [if_pos hz]; exact hd)))
                  have CD := Lib.hid (demand_ok y (str [41]) _ R4.out.H.env' hd)
                  unfold Tv.val at CD
                  clear hd hz
                  go_wp2_with fail
                  refine CD.out.mono ?_; rintro e w4 ⟨rfl, hb⟩; have R5 := Lib.hid ((R4.out.below hb).below (Below.alloc (Below.refl _ _) (Nat.le_refl _) (.cells #[.slice A nl c] 22))); have KG5 := Lib.hid (blk_alloc ((hb.block gb (Nat.lt_of_lt_of_le hg3 (by simp))).trans KG4.out) (.cells #[.slice A nl c] 22)); have FX5 := Lib.hid ((FX.out.turn (Turns.of_below hb _) (Grows.refl _ _)).turn (Turns.of_below (Below.alloc (Below.refl w4.heap.size w4) (Nat.le_refl _) (.cells #[.slice A nl c] 22)) _) (Grows.refl _ _)); obtain ⟨xs, hox, hav⟩ := R5.out.own; have HOX := Lib.hid hox; have HAV := Lib.hid hav; (have KC : Hid (∀ i' u, ([.slice A nl c] : List Value)[i']? = some u → (w4.alloc (.cells #[.slice A nl c] 22)).cell? ((⟨w4.heap.size, 0, none⟩ : Addr).add i') = some u) := Lib.hid (new_cells (heap_alloc_new w4 _))); (have ONE : Hid (∀ u ∈ ([.slice A nl c] : List Value), u.oneCell' = true) := Lib.hid (fun u hu => by rw [List.mem_singleton] at hu; subst hu; rfl)); (have c3 : Hid (acc2.length + 1 ≤ maxLen) := Lib.hid (c_facts r2.out.len r2.out.H.b1).1); (have c4 : Hid ((acc2.length + 1) * 24 ≤ 140737488355328) := Lib.hid (c_facts r2.out.len r2.out.H.b1).2); have c5 := Lib.hid R5.out.H.Bs; obtain ⟨i0, hi0, hz0, hz1, hz2⟩ := info_parts info_row; clear hb hox hav; (go_wp2_with (at_builtin; refine wpList_append_own_at _ rfl _ _ 44 rfl B 22 i0 (.slice none 0 0) 1 24 Tryz.underlying44 hi0 hz0 hz1 hz2 rfl (by decide) _ _ _ rfl HOX.out ⟨w4.heap.size, 0, none⟩ 1 1 [.slice A nl c] rfl rfl KC.out ONE.out c3.out c4.out c5.out ?_; intro v1 w9 own9 gr9 _ loc9)); go_roundw; (case rel => exact ⟨j + 1, acc2 ++ [l], s3, M3, v_succ j, Nat.succ_le_of_lt hjl, RSt.push R5.out HAV.out ⟨A, c, by rw [← HNL.out], HNIL.out, FX5.out, HLL.out⟩ own9 gr9 (loc9.imp id (fun h => ⟨_, h, Nat.le_refl _⟩)) (le_step r2.out.len HS3.out), HE.out.trans (by rw [sub_q HQ0.out]), by rw [List.length_append, sum2.out]; rfl, le_step' st2.out HS3.out, (gr9.block gb (Array.getElem?_eq_some_iff.1 KG5.out).1 (fun e => R5.out.dis gb e.symm (Or.inr rfl))).trans KG5.out⟩); (case measure => exact m_lt hjl)
              · have hzz : decide ((j : Int) + 1 < (gc : Int)) = true := z_yes HQ0.out hz
                cases hd : isSign y (str [44])
                · have HE := Lib.hid (EQ.out.trans (rest2_no HQ.out (by rw [if_neg hz]; exact hd)))
                  have CD := Lib.hid (demand_bad y (str [44]) _ _ R4.out.H.env' HY.out hd rfl)
                  unfold Tv.val at CD
                  clear hd hz
                  go_wp2_with fail
                  refine CD.out.mono ?_; rintro e w4 ⟨rfl, hb⟩
                  exact ⟨rfl, ends_bad (rep_bad HE.out) (R4.out.T.then (Turns.of_below hb _)) rfl⟩
                · have HE := Lib.hid (EQ.out.trans (rest2_ok HQ.out (by rw [if_neg hz]; exact hd)))
                  have CD := Lib.hid (demand_ok y (str [44]) _ R4.out.H.env' hd)
                  unfold Tv.val at CD
                  clear hd hz
                  go_wp2_with fail
                  refine CD.out.mono ?_; rintro e w4 ⟨rfl, hb⟩; have R5 := Lib.hid ((R4.out.below hb).below (Below.alloc (Below.refl _ _) (Nat.le_refl _) (.cells #[.slice A nl c] 22))); have KG5 := Lib.hid (blk_alloc ((hb.block gb (Nat.lt_of_lt_of_le hg3 (by simp))).trans KG4.out) (.cells #[.slice A nl c] 22)); have FX5 := Lib.hid ((FX.out.turn (Turns.of_below hb _) (Grows.refl _ _)).turn (Turns.of_below (Below.alloc (Below.refl w4.heap.size w4) (Nat.le_refl _) (.cells #[.slice A nl c] 22)) _) (Grows.refl _ _)); obtain ⟨xs, hox, hav⟩ := R5.out.own; have HOX := Lib.hid hox; have HAV := Lib.hid hav; (have KC : Hid (∀ i' u, ([.slice A nl c] : List Value)[i']? = some u → (w4.alloc (.cells #[.slice A nl c] 22)).cell? ((⟨w4.heap.size, 0, none⟩ : Addr).add i') = some u) := Lib.hid (new_cells (heap_alloc_new w4 _))); (have ONE : Hid (∀ u ∈ ([.slice A nl c] : List Value), u.oneCell' = true) := Lib.hid (fun u hu => by rw [List.mem_singleton] at hu; subst hu; rfl)); (have c3 : Hid (acc2.length + 1 ≤ maxLen) := Lib.hid (c_facts r2.out.len r2.out.H.b1).1); (have c4 : Hid ((acc2.length + 1) * 24 ≤ 140737488355328) := Lib.hid (c_facts r2.out.len r2.out.H.b1).2); have c5 := Lib.hid R5.out.H.Bs; obtain ⟨i0, hi0, hz0, hz1, hz2⟩ := info_parts info_row; clear hb hox hav; (go_wp2_with (at_builtin; refine wpList_append_own_at _ rfl _ _ 44 rfl B 22 i0 (.slice none 0 0) 1 24 Tryz.underlying44 hi0 hz0 hz1 hz2 rfl (by decide) _ _ _ rfl HOX.out ⟨w4.heap.size, 0, none⟩ 1 1 [.slice A nl c] rfl rfl KC.out ONE.out c3.out c4.out c5.out ?_; intro v1 w9 own9 gr9 _ loc9)); go_roundw; (case rel => exact ⟨j + 1, acc2 ++ [l], s3, M3, v_succ j, Nat.succ_le_of_lt hjl, RSt.push R5.out HAV.out ⟨A, c, by rw [← HNL.out], HNIL.out, FX5.out, HLL.out⟩ own9 gr9 (loc9.imp id (fun h => ⟨_, h, Nat.le_refl _⟩)) (le_step r2.out.len HS3.out), HE.out.trans (by rw [sub_q HQ0.out]), by rw [List.length_append, sum2.out]; rfl, le_step' st2.out HS3.out, (gr9.block gb (Array.getElem?_eq_some_iff.1 KG5.out).1 (fun e => R5.out.dis gb e.symm (Or.inr rfl))).trans KG5.out⟩); (case measure => exact m_lt hjl)
          · obtain rfl : j = gc := by omega
            have EQ : Hid (args f m.groups [] s = args f (m.groups.drop (i + 1)) acc2 s2) := Lib.hid (by rw [eq2.out, Nat.sub_self]; exact rest2_zero)
            have SM : Hid (acc2.length = ((m.groups.take (i + 1)).map Par.count).sum) := Lib.hid (by rw [sum2.out, HSU.out, hsum.out])
            clear eq2 sum2 kc0 kc1
            go_wp2_with fail
            go_roundw
            case rel => exact ⟨i + 1, acc2, s2, M2, by go_num, by omega, r2.out.back, EQ, SM, st2⟩
            case measure => simp [intOf]; omega
    · obtain rfl : i = n := by omega
      have EA : Hid (args f m.groups [] s = .ok acc s') := Lib.hid (by rw [heq.out, HN.out, List.drop_length]; rfl)
      have SM : Hid ((m.groups.map Par.count).sum ≤ acc.length) := Lib.hid (by rw [hsum.out, HN.out, List.take_length]; exact Nat.le_refl _)
      obtain ⟨A, c, hva, haf⟩ := hr.out.args
      have hGX : Grows w (uni M P) (uni M' (also P w.heap.size)) := fun k hk => by
        rcases hk with hk | hk | hk
        · rcases hr.out.G k hk with h1 | h1
          · exact Or.inl (Or.inl h1)
          · exact Or.inr h1
        · exact Or.inl (Or.inr hk)
        · exact Or.inr (by omega)
      have CL := Lib.hid (list_any (HM.out.turn (hr.out.T.mono (fun _ h => Or.inl h)) hGX) x HX.out acc A c haf SM.out (by have h1 := hr.out.len; have h2 := hr.out.H.b1; omega) hr.out.H.env')
      obtain ⟨⟨x0, x1, x2, x3, x4, x5⟩, -, xl⟩ := blk6 hr.out.tb
      have HVA := Lib.hid hva
      have RO := rep_ok (t := x) EA.out
      obtain ⟨L, hL⟩ : ∃ L, L = listOf m acc := ⟨_, rfl⟩
      rw [← hL] at RO
      have HRO := Lib.hid RO
      have HLL := Lib.hid hL
      clear heq hsum RO hL haf hGX EA SM
      subst hva
      unfold Tv.val at CL
      go_wp2_with fail
      refine CL.out.mono ?_; rintro e w1 ⟨hb, hbad, hok⟩
      rw [← HLL.out] at hbad hok
      by_cases hbig : 20000 < L.length
      · obtain rfl := hbad hbig
        exact ⟨rfl, ends_bad (HRO.out.trans (if_pos hbig)) (hr.out.T.then (Turns.of_below hb _)) rfl⟩
      · obtain ⟨v, rfl, how, hfit⟩ := hok hbig
        have hb1 := hr.out.H.b3
        have H1 := Lib.hid ((hr.out.H.below hb).less (P' := P) (fun k hk => Or.inl (Or.inl hk)))
        have hvX : ∀ k, v.ownBlock = some k → ¬ uni M' P k := fun k hk hx => by
          have h1 := (World.ownsRow.lt how k hk).1
          rcases hx with hx | hx
          · have := (hr.out.H.low k hx).2; omega
          · have := (hr.out.H.lowP k (Or.inl (Or.inl hx))).2.1; omega
        obtain ⟨A3, c3, rfl, -, hcap, hfix⟩ := TokOwn.fix (X := uni M' P) how hvX hfit
        have HFX := Lib.hid hfix
        have TX := Lib.hid ((hb.block w.heap.size xl).trans hr.out.tb)
        obtain ⟨y, Pt⟩ := H1.out.parts
        obtain ⟨xs, hx, hxM, hls⟩ := Pt.lists
        have c1' := (ecells Pt.cells).c1
        have f1' := (ecells Pt.cells).fr 1
        have hlt := (ecells Pt.cells).lt
        obtain ⟨A4, c4, hvl⟩ : ∃ A c, y.vl = .slice A s'.lists.length c := by
          rcases hx.2 with ⟨e, h0⟩ | ⟨g, c, cur, e, -⟩
          · exact ⟨none, 0, by rw [e, h0]⟩
          · exact ⟨_, _, e⟩
        have T1 := Lib.hid (hr.out.T.then (Turns.of_below hb M))
        have HRO2 := Lib.hid (HRO.out.trans (if_neg hbig))
        have HPT := Lib.hid Pt
        have HXX := Lib.hid hx
        have HLS := Lib.hid hls
        have HVL := Lib.hid hvl
        have GG := Lib.hid hr.out.G
        have HCAP := Lib.hid hcap
        have HBIG : Hid (L.length ≤ 20000) := Lib.hid (by omega)
        obtain ⟨nl, hnl⟩ : ∃ n, n = s'.lists.length := ⟨_, rfl⟩
        obtain ⟨nL, hnL⟩ : ∃ n, n = L.length := ⟨_, rfl⟩
        rw [hvl, ← hnl] at c1'
        rw [← hnl] at hb1
        rw [← hnL]
        have HNL := Lib.hid hnl
        have HNLL := Lib.hid hnL
        clear hb hbad hok how hfit hvX hfix Pt hx hls hvl hxM x0 x1 x2 x3 x4 x5 hcap hnl hnL hbig CL hr
        by_cases hemp : nL = 0
        · have HE := Lib.hid (rep_none HRO2.out (HNLL.out.symm.trans hemp) (HNL.out ▸ hb1))
          subst hemp
          have e200 := l_no hb1
          go_wp2_with fail
          go_end0
          exact ends_ok HE.out GG.out T1.out rfl H1.out
        · have e0 := l_pos hemp
          have e1 : 0 < nL := Nat.pos_of_ne_zero hemp
          have e2 : (0 : Int) < (nL : Int) := Int.natCast_pos.2 e1
          have HEMP := Lib.hid hemp
          obtain ⟨q3, q4⟩ := l_facts hb1
          have Q3 := Lib.hid q3
          have Q4 := Lib.hid q4
          have HOW : Hid ((w1.alloc (.cells #[.slice A3 nL c3] 22)).ownsRow B 22 1 (.slice A4 nl c4) nl xs) := Lib.hid (by
            have h := HXX.out
            rw [HVL.out, ← HNL.out] at h
            exact World.ownsRow.alloc h _)
          have KC : Hid (∀ i' u, ([.slice A3 nL c3] : List Value)[i']? = some u → (w1.alloc (.cells #[.slice A3 nL c3] 22)).cell? ((⟨w1.heap.size, 0, none⟩ : Addr).add i') = some u) := Lib.hid (new_cells (heap_alloc_new w1 _))
          have ONE : Hid (∀ u ∈ ([.slice A3 nL c3] : List Value), u.oneCell' = true) := Lib.hid (fun u hu => by rw [List.mem_singleton] at hu; subst hu; rfl)
          have C5 : Hid (B ≤ (w1.alloc (.cells #[.slice A3 nL c3] 22)).heap.size) := Lib.hid (by have := H1.out.Bs; simp; omega)
          have HSUM : Hid (∀ {w9 : World} {g1 cap1 : Nat}, w9.ownsRow B 22 1 (.slice (some ⟨g1, 0, none⟩) (nl + 1) cap1) (nl + 1) (xs ++ [.slice A3 nL c3]) → (w1.alloc (.cells #[.slice A3 nL c3] 22)).grownBy w9 (Value.slice A4 nl c4).ownBlock → (some g1 = (Value.slice A4 nl c4).ownBlock ∨ some g1 = some (w1.alloc (.cells #[.slice A3 nL c3] 22)).heap.size) →
              Turns M' w1 (w9.setCell ⟨b, 1, none⟩ (.slice (some ⟨g1, 0, none⟩) (nl + 1) cap1)) ∧ (s'.lists.length < 200 → ∃ M'', Grows w1 M' M'' ∧ Holds (w9.setCell ⟨b, 1, none⟩ (.slice (some ⟨g1, 0, none⟩) (nl + 1) cap1)) B b σ M'' P { s' with lists := L :: s'.lists })) := Lib.hid (fun o1 g1 l1 => by
            have hvo : (Value.slice A4 nl c4).ownBlock = y.vl.ownBlock := by rw [HVL.out, HNL.out]
            rw [hvo] at g1 l1
            exact H1.out.listed HPT.out ⟨A3, c3, by rw [HNLL.out], HCAP.out, HFX.out, by have h1 := HEMP.out; rw [HNLL.out] at h1; omega, HBIG.out⟩ ((Below.refl w1.heap.size w1).alloc (Nat.le_refl _) _) HNL.out HLS.out o1 g1 l1)
          have HKB : Hid (∀ {w9 : World}, (w1.alloc (.cells #[.slice A3 nL c3] 22)).grownBy w9 (Value.slice A4 nl c4).ownBlock → w9.heap[b]? = w1.heap[b]? ∧ w9.heap[w.heap.size]? = some (.cells #[.int .i64 x.k, .string x.t, .int .i64 x.p, .int .i64 x.q, .int .i64 x.a, .int .i64 x.c] 41)) := Lib.hid (fun g => by
            have hvo : (Value.slice A4 nl c4).ownBlock = y.vl.ownBlock := by rw [HVL.out, HNL.out]
            rw [hvo] at g
            have e1 := HXX.out
            refine ⟨(g.block b (by simp; omega) (fun e => row_ne e1 HPT.out.cells (by decide) b e.symm rfl)).trans (Below.heap_alloc w1 _ b hlt), (g.block w.heap.size ?_ (fun e => row_ne e1 TX.out (by decide) _ e.symm rfl)).trans (blk_alloc TX.out _)⟩
            have := (Array.getElem?_eq_some_iff.1 TX.out).1
            simp; omega)
          obtain ⟨i0, hi0, hz0, hz1, hz2⟩ := info_parts info_row
          have HCB := Lib.hid (fun (w9 : World) (h : w9.heap[b]? = w1.heap[b]?) => And.intro ((World.cell?_of_block (a := ⟨b, 1, none⟩) h).trans c1') ((World.frozen?_of_block (a := ⟨b, 1, none⟩) h).trans f1'))
          have hbt : ¬ b = w.heap.size := fun e => (H1.out.lowP_ne HPT.out TX.out) e
          clear q3 q4 hemp
          (go_upto_region 19 with (at_builtin; refine wpList_append_own_at _ rfl _ _ 44 rfl B 22 i0 (.slice none 0 0) 1 24 Tryz.underlying44 hi0 hz0 hz1 hz2 rfl (by decide) _ _ _ rfl HOW.out ⟨w1.heap.size, 0, none⟩ 1 1 [.slice A3 nL c3] rfl rfl KC.out ONE.out Q3.out Q4.out C5.out ?_; intro v1 w9 own9 gr9 _ loc9; obtain ⟨g1, cap1, rfl, -, -, -⟩ := row_some own9; obtain ⟨ts, hs9⟩ := HSUM.out own9 gr9 loc9; obtain ⟨kb1, kb2⟩ := HCB.out w9 (HKB.out gr9).1; clear own9 loc9))
          have T9 := Lib.hid (T1.out.trans GG.out ts)
          by_cases h2 : nl = 200
          · have HE := Lib.hid (rep_full HRO2.out (fun e => HEMP.out (HNLL.out.trans e)) (HNL.out.symm.trans h2))
            have e200 := l_yes h2
            have ENV := Lib.hid ((H1.out.env.turn (ts.below (fun k hk => (H1.out.low k hk).1) H1.out.Bs)).env)
            have CF := Lib.hid (fail_any 20 x _ _ ENV.out HX.out rfl)
            unfold Tv.val at CF
            obtain ⟨⟨x0, x1, x2, x3, x4, x5⟩, -, xl9⟩ := blk6 (HKB.out gr9).2
            clear gr9 hs9 ts h2
            go_wp2_with fail
            refine CF.out.mono ?_; rintro e w10 ⟨rfl, hb⟩
            exact ⟨rfl, ends_bad HE.out (T9.out.then (Turns.of_below hb _)) rfl⟩
          · have h3 : s'.lists.length < 200 := by have := HNL.out; omega
            have HE := Lib.hid (rep_more HRO2.out (fun e => HEMP.out (HNLL.out.trans e)) h3)
            have e200 := l_more (HNL.out ▸ h3)
            obtain ⟨M9, G9, H9⟩ := hs9 h3
            have HH9 := Lib.hid H9
            have GG9 := Lib.hid (GG.out.trans G9 T1.out.size)
            clear gr9 hs9 ts h2 h3 H9 G9
            go_wp2_with fail
            go_end0
            exact ends_ok HE.out GG9.out T9.out rfl HH9.out
end Mx
end Go.Proofs.YtnhcjgnohnedaaaGreatDoor
