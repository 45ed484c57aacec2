/-
  Contracts of the reference of layer 3: the words, rising, walked.
-/
-- LAW 03
import Derived.Test.YtcgiibjkonleeaaDoorLxZ2
namespace Go.Proofs.YtcgiibjkonleeaaDoor
open Go.RowKit

theorem StrOwn.at2 {w : World} {B : Nat} {v : Value} {l : List (List UInt8)} (h : StrOwn w B v l) : ∃ A c, v = .slice A l.length c ∧ l.length ≤ c ∧ c ≤ maxLen ∧ (A = none → c = 0 ∧ l = []) ∧ ∀ ad, A = some ad → ∃ g, ad = ⟨g, 0, none⟩ ∧ B ≤ g ∧ g < w.heap.size ∧ ∀ k, k < l.length → w.cell? ⟨g, k, none⟩ = some (.string ⟨(l.getD k []).toArray⟩) := by
  rcases h.2 with ⟨rfl, h0⟩ | ⟨g, cap, cur, rfl, hB, hg, hn, hc, hs, ht⟩
  · rw [h0]; exact ⟨none, 0, rfl, Nat.le_refl _, by decide, fun _ => ⟨rfl, List.eq_nil_of_length_eq_zero h0⟩, fun ad e => by cases e⟩
  · refine ⟨some ⟨g, 0, none⟩, cap, rfl, hn, hc, (fun e => by cases e), fun ad e => ⟨g, by injection e with e; exact e.symm, hB, (Array.getElem?_eq_some_iff.1 hg).1, fun k hk => ?_⟩⟩
    have := World.ownsRow.cells h (g := g) rfl k (.string ⟨(l.getD k []).toArray⟩) (by simp [List.getD, List.getElem?_eq_getElem hk])
    rwa [addr_row'] at this
theorem StrOwn.mono {w : World} {B B' : Nat} {v : Value} {l : List (List UInt8)} (h : StrOwn w B v l) (hB : B' ≤ B) : StrOwn w B' v l := by
  refine ⟨h.1, ?_⟩
  rcases h.2 with h0 | ⟨g, cap, cur, h1, h2, h3⟩
  · exact .inl h0
  · exact .inr ⟨g, cap, cur, h1, Nat.le_trans hB h2, h3⟩
theorem strL_drop (l : List (List UInt8)) (n j : Nat) (u : Value) (h : (strL (l.drop n))[j]? = some u) : n + j < l.length ∧ u = .string ⟨(l.getD (n + j) []).toArray⟩ := by
  have hj := (List.getElem?_eq_some_iff.1 h).1
  simp [strL] at hj
  refine ⟨by omega, ?_⟩
  simp [strL] at h
  obtain ⟨z, hz, rfl⟩ := h
  simp [List.getD, hz]
theorem strL_take (l : List (List UInt8)) (n j : Nat) (u : Value) (h : (strL (l.take n))[j]? = some u) : j < n ∧ j < l.length ∧ u = .string ⟨(l.getD j []).toArray⟩ := by
  have hj := (List.getElem?_eq_some_iff.1 h).1
  simp [strL] at hj
  refine ⟨by omega, by omega, ?_⟩
  simp [strL, show j < n by omega] at h
  obtain ⟨z, hz, rfl⟩ := h
  simp [List.getD, hz]
/-- What holds at each round of Words' loop. -/
structure WRnd (w : World) (P : List (List UInt8)) (g c k : Nat) (v : Value) (wr : World) (i : Nat) : Prop where
  own : StrOwn wr w.heap.size v ((P.take i).foldl Lx.ins1 [])
  pown : StrOwn wr w.heap.size (.slice (some ⟨g, 0, none⟩) P.length c) P
  bel : Below w.heap.size w wr
  il : i ≤ P.length
  fin : P.length - i < k
set_option maxRecDepth 100000 in
set_option maxHeartbeats 8000000 in
theorem rwords_any (w : World) : Calls Tryd.prog 7 #[] w fun e w' => Below w.heap.size w w' ∧ ∃ v, e = .returned v ∧ StrOwn w' w.heap.size v Lx.wds := by
  have HP := Lib.hid (rparts_any Lx.wdT w (by rw [Lx.wdT_len]; decide))
  unfold PartsOf at HP
  obtain ⟨P, hP⟩ : ∃ P, P = Lx.pg [] Lx.wdT := ⟨_, rfl⟩
  have HPL : Hid (P.length = 87) := by rw [hP]; exact Lx.wdT_parts
  have HPW : Hid (P.foldl Lx.ins1 [] = Lx.wds) := by rw [hP]; exact Lx.wds_ins
  rw [← hP] at HP
  generalize Lx.wds = WDS at HPW ⊢
  clear hP
  go_enter Tryd.func7, Tryd.ntmps7
  go_wp2_with fail
  refine HP.out.mono ?_; rintro e w1 ⟨hb, v, rfl, own⟩
  obtain ⟨A, c, rfl, hc⟩ := own.at
  obtain ⟨g, rfl, -, -, -⟩ := hc 0 (by rw [HPL.out]; decide)
  have R0 : Hid (WRnd w P g c (P.length + 1) (.slice none 0 0) w1 0) := ⟨World.ownsRow_nil _ _ _ _, own, hb, by omega, by omega⟩
  have hpl : P.length ≤ 87 := by rw [HPL.out]; decide
  clear own hb hc
  go_wp2_with fail
  go_loopg [1, 7] (P.length + 1) (fun k v vi wr => ∃ i, vi = .int .i64 (i : Nat) ∧ Hid (WRnd w P g c k v wr i))
  case atStart => exact ⟨0, rfl, R0.out⟩
  case round =>
    clear R0
    obtain ⟨i, rfl, hrd⟩ := hrel
    have H := hrd
    have hil := H.out.il
    clear hrd
    by_cases hi : i < P.length
    · obtain ⟨A', c', e1, hc⟩ := H.out.pown.at
      obtain ⟨g', e2, hgB, hgl, hcell⟩ := hc i hi
      injection e1 with e1 _ ec
      subst ec
      rw [e2] at e1; injection e1 with e1; injection e1 with e1; subst e1
      have hadd := addr_row' g i
      obtain ⟨acc, hacc⟩ : ∃ acc, acc = (P.take i).foldl Lx.ins1 [] := ⟨_, rfl⟩
      have haccl : acc.length = i := by rw [hacc, Lx.ins_len, List.length_take]; simp; omega
      have OW := Lib.hid H.out.own
      rw [← hacc] at OW
      have HACC := Lib.hid hacc
      clear hacc
      obtain ⟨y, hy⟩ : ∃ y, y = P.getD i [] := ⟨_, rfl⟩
      rw [← hy] at hcell
      have HY := Lib.hid hy
      clear hy hc e2
      subst haccl
      have hwl := H.out.bel.size
      obtain ⟨A2, c2, rfl, hc2, hc3, hno, hoc⟩ := OW.out.at2
      unfold maxLen at hc3
      have HOC := Lib.hid hoc
      have HNO := Lib.hid hno
      clear hoc hno
      go_wp2_with fail
      go_loop [4] (fun vj => ∃ j : Nat, vj = .int .i64 j ∧ j ≤ acc.length ∧ Hid (Lx.posN acc y acc.length = Lx.posN acc y j)) (fun vj => (intOf vj).toNat)
      case atStart => exact ⟨acc.length, rfl, Nat.le_refl _, rfl⟩
      case round =>
        obtain ⟨j, rfl, hj, hpos⟩ := hrel
        cases j with
        | zero =>
          have HPOS := Lib.hid (hpos.out.trans (show Lx.posN acc y 0 = 0 from rfl))
          have hac : acc.length ≤ 87 := by omega
          clear hpos
          cases A2 with
          | none =>
            obtain ⟨rfl, he⟩ := HNO.out rfl
            have hl0 : acc.length = 0 := by rw [he]; rfl
            have HE0 := Lib.hid he
            clear he
            go_wp2_with fail
            go_region_law (first | (refine step_str1 rfl (.tmp 31) (.tmp 34) rfl w.heap.size wr.heap.size y (by simp [Act.eval]) (heap_alloc_new _ _) hwl [] 0 0 none (by simp [Act.eval]) rfl (fun e => ⟨rfl, rfl⟩) (fun ad e => by cases e) (by simp) ?_; intro v1 w1 own1 gr1; have hB1 : Below wr.heap.size wr w1 := Below.grown (by repeat (first | exact Below.refl _ _ | refine Below.drew ?_ | refine Below.alloc ?_ (by simp) _)) gr1 (by simp) (fun k hk => by injection hk with e; omega)) | (refine step_str2 rfl (.tmp 29) (.tmp 35) rfl [] 0 none (by simp [Act.eval]) rfl (fun e => rfl) (fun ad e => by cases e) w.heap.size v1 [y] (by simp [Act.eval]) own1 (by simp) (by simp) ?_; intro v2 w2 own2 gr2))
            have hB2 : Below wr.heap.size wr w2 := hB1.grown gr2 hB1.size (fun k hk => by cases hk)
            have NW : Hid (WRnd w P g c (P.length - acc.length) v2 w2 (acc.length + 1)) := by
              have hfin := H.out.fin
              refine ⟨?_, H.out.pown.below hB2, H.out.bel.trans (hB2.mono hwl), by omega, by omega⟩
              have e1 : (P.take (acc.length + 1)).foldl Lx.ins1 [] = Lx.ins1 acc y := by
                rw [List.take_succ_eq_append_getElem hi, List.foldl_append, ← HACC.out, HY.out]
                simp [List.getD, List.getElem?_eq_getElem hi]
              rw [e1, Lx.ins1, HPOS.out, HE0.out]
              exact own2.mono (by have := hB1.size; omega)
            have HF := Lib.hid H.out.fin
            clear own2 gr2 own1 gr1 hB1 hB2
            go_wp2_with fail
            go_roundg (P.length - acc.length)
            case measure => exact HF.out
            case rel => exact ⟨_, by go_num, NW.out⟩
          | some x =>
            obtain ⟨g2, rfl, hg2B, hg2l, hcs⟩ := HOC.out x rfl
            have HCS := Lib.hid hcs
            clear hcs
            have hADc : Hid (∀ W : World, Below wr.heap.size wr W → ∀ k u, (strL (acc.drop 0))[k]? = some u → W.cell? ((⟨g2, 0, none⟩ : Addr).add k) = some u) := fun W hW k u hu => by
              obtain ⟨h1, rfl⟩ := strL_drop acc 0 k u hu
              rw [addr_row', hW.cell (by simpa using hg2l), Nat.zero_add]
              exact HCS.out _ (by omega)
            have hlc : ((acc.length : Int) ≤ c2) := by omega
            go_wp2_with fail
            go_region_law (first | (refine step_str1 rfl (.tmp 31) (.tmp 34) rfl w.heap.size wr.heap.size y (by simp [Act.eval]) (heap_alloc_new _ _) hwl (acc.drop (0)) (acc.length - (0)) (c2 - (0)) (some ⟨g2, 0, none⟩) (by simp [Act.eval]) List.length_drop (fun e => by cases e) (fun ad e k u hu => by injection e with e; subst e; exact hADc.out _ (by repeat (first | exact Below.refl _ _ | refine Below.drew ?_ | refine Below.alloc ?_ (by simp) _)) k u hu) (by rw [List.length_drop]; omega) ?_; intro v1 w1 own1 gr1; have hB1 : Below wr.heap.size wr w1 := Below.grown (by repeat (first | exact Below.refl _ _ | refine Below.drew ?_ | refine Below.alloc ?_ (by simp) _)) gr1 (by simp) (fun k hk => by injection hk with e; omega)) | (refine step_str2 rfl (.tmp 29) (.tmp 35) rfl (acc.take (0)) (0) (some ⟨g2, 0, none⟩) (by simp [Act.eval]) (by rw [List.length_take]; omega) (fun e => by cases e) (fun ad e k u hu => by injection e with e; subst e; obtain ⟨h1, h2, h3⟩ := strL_take acc (0) k u hu; rw [addr_row', hB1.cell (by simpa using hg2l), h3]; exact HCS.out k h2) w.heap.size v1 (y :: acc.drop (0)) (by simp [Act.eval]) own1 (by simp) (by simp only [List.length_cons, List.length_take, List.length_drop]; omega) ?_; intro v2 w2 own2 gr2))
            have hB2 : Below wr.heap.size wr w2 := hB1.grown gr2 hB1.size (fun k hk => by cases hk)
            have NW : Hid (WRnd w P g c (P.length - acc.length) v2 w2 (acc.length + 1)) := by
              have hfin := H.out.fin
              refine ⟨?_, H.out.pown.below hB2, H.out.bel.trans (hB2.mono hwl), by omega, by omega⟩
              have e1 : (P.take (acc.length + 1)).foldl Lx.ins1 [] = Lx.ins1 acc y := by
                rw [List.take_succ_eq_append_getElem hi, List.foldl_append, ← HACC.out, HY.out]
                simp [List.getD, List.getElem?_eq_getElem hi]
              rw [e1, Lx.ins1, HPOS.out]
              exact own2.mono (by have := hB1.size; omega)
            have HF := Lib.hid H.out.fin
            clear own2 gr2 own1 gr1 hB1 hB2 hADc
            go_wp2_with fail
            go_roundg (P.length - acc.length)
            case measure => exact HF.out
            case rel => exact ⟨_, by go_num, NW.out⟩
        | succ j =>
          obtain ⟨ad2, rfl⟩ : ∃ ad2, A2 = some ad2 := by
            cases A2 with
            | none => have := (HNO.out rfl).2; rw [this] at hj; simp at hj
            | some x => exact ⟨x, rfl⟩
          obtain ⟨g2, rfl, hg2B, hg2l, hcs⟩ := HOC.out ad2 rfl
          have hcell2 := hcs j (by omega)
          have HCS := Lib.hid hcs
          clear hcs
          have hadd2 := addr_row' g2 j
          have HP1 : Hid ((!Op.bytesLess (acc.getD j []) y) = true ∧ (!acc.getD j [] == y) = true → Lx.posN acc y acc.length = Lx.posN acc y j) := fun h => by rw [hpos.out, Lx.posN, if_pos h]
          have HP2 : Hid (¬ ((!Op.bytesLess (acc.getD j []) y) = true ∧ (!acc.getD j [] == y) = true) → Lx.posN acc y acc.length = j + 1) := fun h => by rw [hpos.out, Lx.posN, if_neg h]
          generalize acc.getD j [] = z at hcell2 HP1 HP2
          go_wp2_with fail
          · rename_i hlt
            exact ⟨⟨j, rfl, by omega, HP1.out hlt⟩, by simp [intOf]⟩
          · have HPOS := Lib.hid (HP2.out (by rename_i h _; rcases h with h | h <;> simp [h]))
            obtain ⟨AD, hAD, hADc⟩ : ∃ AD, (if c2 = j + 1 then (some ⟨g2, 0, none⟩ : Option Addr) else some ⟨g2, j + 1, none⟩) = some AD ∧ Hid (∀ W : World, Below wr.heap.size wr W → ∀ k u, (strL (acc.drop (j + 1)))[k]? = some u → W.cell? (AD.add k) = some u) := by
              by_cases e : c2 = j + 1
              · refine ⟨_, if_pos e, fun W hW k u hu => ?_⟩
                have := strL_drop acc (j + 1) k u hu
                omega
              · refine ⟨_, if_neg e, fun W hW k u hu => ?_⟩
                obtain ⟨h1, rfl⟩ := strL_drop acc (j + 1) k u hu
                rw [show (⟨g2, j + 1, none⟩ : Addr).add k = ⟨g2, j + 1 + k, none⟩ by unfold Addr.add; split <;> simp_all, hW.cell (by simpa using hg2l)]
                exact HCS.out _ h1
            have h0j : ((0 : Int) ≤ j + 1) := by omega
            have hjc : ((j : Int) + 1 ≤ c2) := by omega
            have hjl : ((j : Int) + 1 ≤ acc.length) := by omega
            have hlc : ((acc.length : Int) ≤ c2) := by omega
            have hac : acc.length ≤ 87 := by omega
            go_region_law (first | (refine step_str1 rfl (.tmp 31) (.tmp 34) rfl w.heap.size wr.heap.size y (by simp [Act.eval]) (heap_alloc_new _ _) hwl (acc.drop (j + 1)) (acc.length - (j + 1)) (c2 - (j + 1)) (some AD) (by simp [Act.eval]) List.length_drop (fun e => by cases e) (fun ad e k u hu => by injection e with e; subst e; exact hADc.out _ (by repeat (first | exact Below.refl _ _ | refine Below.drew ?_ | refine Below.alloc ?_ (by simp) _)) k u hu) (by rw [List.length_drop]; omega) ?_; intro v1 w1 own1 gr1; have hB1 : Below wr.heap.size wr w1 := Below.grown (by repeat (first | exact Below.refl _ _ | refine Below.drew ?_ | refine Below.alloc ?_ (by simp) _)) gr1 (by simp) (fun k hk => by injection hk with e; omega)) | (refine step_str2 rfl (.tmp 29) (.tmp 35) rfl (acc.take (j + 1)) (j + 1) (some ⟨g2, 0, none⟩) (by simp [Act.eval]) (by rw [List.length_take]; omega) (fun e => by cases e) (fun ad e k u hu => by injection e with e; subst e; obtain ⟨h1, h2, h3⟩ := strL_take acc (j + 1) k u hu; rw [addr_row', hB1.cell (by simpa using hg2l), h3]; exact HCS.out k h2) w.heap.size v1 (y :: acc.drop (j + 1)) (by simp [Act.eval]) own1 (by simp) (by simp only [List.length_cons, List.length_take, List.length_drop]; omega) ?_; intro v2 w2 own2 gr2))
            have hB2 : Below wr.heap.size wr w2 := hB1.grown gr2 hB1.size (fun k hk => by cases hk)
            have NW : Hid (WRnd w P g c (P.length - acc.length) v2 w2 (acc.length + 1)) := by
              have hfin := H.out.fin
              refine ⟨?_, H.out.pown.below hB2, H.out.bel.trans (hB2.mono hwl), by omega, by omega⟩
              have e1 : (P.take (acc.length + 1)).foldl Lx.ins1 [] = Lx.ins1 acc y := by
                rw [List.take_succ_eq_append_getElem hi, List.foldl_append, ← HACC.out, HY.out]
                simp [List.getD, List.getElem?_eq_getElem hi]
              rw [e1, Lx.ins1, HPOS.out]
              exact own2.mono (by have := hB1.size; omega)
            have HF := Lib.hid H.out.fin
            clear own2 gr2 own1 gr1 hB1 hB2 hAD hADc
            go_wp2_with fail
            go_roundg (P.length - acc.length)
            case measure => exact HF.out
            case rel => exact ⟨_, by go_num, NW.out⟩
    · have e1 : i = P.length := by omega
      have OW := Lib.hid H.out.own
      have hW := HPW.out
      rw [e1, List.take_length, hW] at OW
      go_wp2_with fail
      go_ret
      exact ⟨H.out.bel, u1, rfl, OW.out⟩
end Go.Proofs.YtcgiibjkonleeaaDoor
