/-
  Contracts of package macro: expanded, of valid tokens.
-/
import Derived.Test.YtnhcjgnohnedaaaGreatDoorMxXf
import Derived.Deep.DeepCutAuto
import Derived.Deep.CutBlock
namespace Go.Proofs.YtnhcjgnohnedaaaGreatDoor
open Go.RowKit

namespace Mx
/-- An expander as it begins, the first k words among its meanings. -/
structure WordsIn (w : World) (b c mb gw k : Nat) (vr : Value) (wr : World) : Prop where
  below : Below w.heap.size w wr
  kb : wr.heap[b]? = some (.cells #[vr, .slice none 0 0, .int .i64 0, .string ⟨#[]⟩, .int .i64 0, .int .i64 0, .int .i64 0, .int .i64 0, .int .i64 0, .map (some mb), .slice none 0 0, .bool false, .slice none 0 0] 48 (0, 0))
  kc : wr.heap[c]? = some (.cells #[.int .i64 0, .string ⟨#[]⟩, .int .i64 0, .int .i64 0] 27 (0, 0))
  kw : wr.heap[gw]? = some (.cells (strsV Lx.wds) 88 (0, 0))
  lt : k ≤ 87
  mbl : w.heap.size ≤ mb
  map : ∃ D, wr.ownsMap Tryz.prog 9 rawElem mb k D ∧ ∀ s : ByteArray, (Maps.has D (.string s.data.toList) = false ∧ s.data.toList ∉ Lx.wds.take k) ∨ (Maps.has D (.string s.data.toList) = true ∧ s.data.toList ∈ Lx.wds.take k ∧ ∀ z, D.atKey (.string s.data.toList) z = .held (.iface 73 (.string s)))
theorem WordsIn.put {w wr w3 : World} {b c mb gw k : Nat} {vr : Value} {D : DataW Value} (h : WordsIn w b c mb gw k vr wr) (hk : k < 87) (hD : wr.ownsMap Tryz.prog 9 rawElem mb k D)
    (hsp : ∀ s : ByteArray, (Maps.has D (.string s.data.toList) = false ∧ s.data.toList ∉ Lx.wds.take k) ∨ (Maps.has D (.string s.data.toList) = true ∧ s.data.toList ∈ Lx.wds.take k ∧ ∀ z, D.atKey (.string s.data.toList) z = .held (.iface 73 (.string s))))
    {u : List UInt8} (hu : Lx.wds[k]? = some u) (own3 : w3.ownsMap Tryz.prog 9 rawElem mb (k + 1) (D.put (.string u) (.held (.iface 73 (.string ⟨u.toArray⟩))))) (gr : wr.grownBy w3 (some mb)) : WordsIn w b c mb gw (k + 1) vr w3 := by
  obtain ⟨es, clock, hes, -⟩ := id hD
  have nm : ∀ {k : Nat} {c : Array Value} {t : TypeId} {f : Nat × Nat}, wr.heap[k]? = some (.cells c t f) → some k ≠ some mb := fun hc e => by injection e with e; rw [e, hes] at hc; cases hc
  have kp : ∀ {k : Nat} {c : Array Value} {t : TypeId} {f : Nat × Nat}, wr.heap[k]? = some (.cells c t f) → w3.heap[k]? = some (.cells c t f) := fun hc => (gr.block _ (Array.getElem?_eq_some_iff.1 hc).1 (nm hc)).trans hc
  have htk : Lx.wds.take (k + 1) = Lx.wds.take k ++ [u] := by
    obtain ⟨hl, hx⟩ := List.getElem?_eq_some_iff.1 hu
    rw [List.take_succ_eq_append_getElem hl, hx]
  have hIs : Maps.IsMap D := hD.isMap
  have hkl : WideAt.IsKeyLit (Lit.string u) := trivial
  refine ⟨⟨gr.os.trans h.below.os, gr.tape.trans h.below.tape, gr.output.trans h.below.output, Nat.le_trans h.below.size gr.size, fun j hj => (gr.block j (Nat.lt_of_lt_of_le hj h.below.size) (fun e => by injection e with e; have := h.mbl; omega)).trans (h.below.block j hj)⟩, kp h.kb, kp h.kc, kp h.kw, by omega, h.mbl, _, own3, fun s => ?_⟩
  rw [htk]
  by_cases e : s.data.toList = u
  · refine Or.inr ⟨?_, by simp [e], fun z => ?_⟩
    · rw [e]; exact Maps.has_put_same hIs hkl _
    · have hs : s = ⟨u.toArray⟩ := by rw [← e]
      rw [e, hs]; exact Maps.atKey_put_same hIs hkl _ z
  · have hne : (Lit.string s.data.toList) ≠ (Lit.string u) := fun h => by injection h with h; exact e h
    rcases hsp s with ⟨h1, h2⟩ | ⟨h1, h2, h3⟩
    · exact Or.inl ⟨by rw [Maps.has_put_other hne]; exact h1, by simp [h2, e]⟩
    · exact Or.inr ⟨by rw [Maps.has_put_other hne]; exact h1, by simp [h2], fun z => by rw [Maps.atKey_put_other hne]; exact h3 z⟩
theorem last_fit {l : List Tv} (hf : ∀ x ∈ l, x.fit) : (start l).last.fit := by
  show (l.getLast?.getD ⟨0, str [], 0, 0, 0, 0⟩).fit
  cases h : l.getLast? with
  | none => exact ⟨by decide, by decide, by decide, by decide, by show (0 : Nat) ≤ maxLen; unfold maxLen; omega⟩
  | some x => exact hf x (List.mem_of_getLast? h)
theorem start_holds {w W : World} {A : Option Addr} {c mb : Nat} {l : List Tv} (he : EnvL w) (h1 : TokSl w w.heap.size A l) (hc : l.length ≤ c) (hl : l.length ≤ 9223372036854775807) (hf : ∀ x ∈ l, x.fit) (hB : Below w.heap.size w W)
    (kb : W.heap[w.heap.size]? = some (.cells (cellsE ⟨.slice A l.length c, .slice none 0 0, mb, .slice none 0 0, .slice none 0 0⟩ (start l)) 48 (0, 0))) (hm : w.heap.size ≤ mb)
    (map : ∃ D, W.ownsMap Tryz.prog 9 rawElem mb 87 D ∧ ∀ s : ByteArray, (Maps.has D (.string s.data.toList) = false ∧ s.data.toList ∉ Lx.wds.take 87) ∨ (Maps.has D (.string s.data.toList) = true ∧ s.data.toList ∈ Lx.wds.take 87 ∧ ∀ z, D.atKey (.string s.data.toList) z = .held (.iface 73 (.string s))))
    (kc : W.heap[w.heap.size + 1]? = some (.cells #[.int .i64 0, .string ⟨#[]⟩, .int .i64 0, .int .i64 0] 27 (0, 0))) : Holds W w.heap.size w.heap.size 1 (fun k => k = w.heap.size ∨ k = mb) (fun k => k = w.heap.size + 1) (start l) := by
  obtain ⟨D, hD, hsp⟩ := map
  obtain ⟨es, clock, hes, -⟩ := id hD
  have hml : mb < W.heap.size := (Array.getElem?_eq_some_iff.1 hes).1
  have hbl : w.heap.size < W.heap.size := (Array.getElem?_eq_some_iff.1 kb).1
  have hcl : w.heap.size + 1 < W.heap.size := (Array.getElem?_eq_some_iff.1 kc).1
  refine Holds.mk' (y := ⟨.slice A l.length c, .slice none 0 0, mb, .slice none 0 0, .slice none 0 0⟩) ⟨w, Nat.le_refl _, he, hB⟩ (fun k hk => ?_) (fun k hk => ?_) (Or.inl rfl) hB.size kb ⟨A, c, rfl, hc, fun hn => ?_, hf⟩ ⟨[], World.ownsRow_nil _ _ _ _, (fun k h => by cases h), trivial⟩ ⟨World.ownsRow_nil _ _ _ _, (fun k h => by cases h)⟩ ⟨Or.inr rfl, 87, ⟨D, hD, fun s hs => ?_⟩, ?_⟩ ?_ ⟨[], World.ownsRow_nil _ _ _ _, (fun k h => by cases h), trivial⟩ (last_fit hf) (by show (0 : Nat) ≤ _; omega) (by show (0 : Nat) ≤ _; omega) (by show (0 : Nat) ≤ _; omega) (by show 0 + 1 ≤ 1000 + 4 * 0; omega) hl
  · rcases hk with rfl | rfl
    · exact ⟨Nat.le_refl _, hbl⟩
    · exact ⟨hm, hml⟩
  · have hk' : k = w.heap.size + 1 := hk
    subst hk'
    refine ⟨by omega, hcl, ?_⟩
    rintro (h | h)
    · omega
    · rw [h, hes] at kc; cases kc
  · obtain ⟨ad, e, hlt, hx⟩ := h1 hn
    refine ⟨ad, e, ⟨by omega, ?_⟩, fun j x hj => (hx j x hj).below hB (by rw [block_of_add]; exact hlt)⟩
    rintro ((h | h) | h) <;> omega
  · have hw : Lx.wds.take 87 = Lx.wds := List.take_of_length_le (by decide)
    rw [hw] at hsp
    rcases hsp s with ⟨h1, h2⟩ | ⟨h1, h2, h3⟩
    · exact Or.inl ⟨h1, by show (if s.data.toList ∈ Lx.wds then Mean.word s else .var) = _; rw [if_neg h2]⟩
    · refine Or.inr ⟨h1, _, h3, ?_⟩
      show IsMean W _ _ (if s.data.toList ∈ Lx.wds then Mean.word s else .var)
      rw [if_pos h2]
      exact ⟨rfl, hs⟩
  · show 87 ≤ 1000 + 4 * 0 - 0 - 1; omega
  · show 0 + 1 ≤ 1000 + 4 * 0; omega
theorem set6at2 {w : World} {b : Nat} {t : TypeId} {v0 v1 v2 v3 v4 v5 v6 v7 v8 v9 v10 v11 v12 : Value} (h : w.heap[b]? = some (.cells #[v0, v1, v2, v3, v4, v5, v6, v7, v8, v9, v10, v11, v12] t (0, 0))) (u2 u3 u4 u5 u6 u7 : Value) : ((((((w.setCell ⟨b, 2, none⟩ u2).setCell ⟨b, 3, none⟩ u3).setCell ⟨b, 4, none⟩ u4).setCell ⟨b, 5, none⟩ u5).setCell ⟨b, 6, none⟩ u6).setCell ⟨b, 7, none⟩ u7).heap[b]? = some (.cells #[v0, v1, u2, u3, u4, u5, u6, u7, v8, v9, v10, v11, v12] t (0, 0)) := by
  have k := heap_set _ b 7 u7 _ _ (heap_set _ b 6 u6 _ _ (heap_set _ b 5 u5 _ _ (heap_set _ b 4 u4 _ _ (heap_set _ b 3 u3 _ _ (heap_set _ b 2 u2 _ _ h)))))
  simpa only [List.setIfInBounds_toArray, List.set_cons_zero, List.set_cons_succ] using k
theorem far27 {w : World} {b k : Nat} (hne : k ≠ b) (u2 u3 u4 u5 u6 u7 : Value) : ((((((w.setCell ⟨b, 2, none⟩ u2).setCell ⟨b, 3, none⟩ u3).setCell ⟨b, 4, none⟩ u4).setCell ⟨b, 5, none⟩ u5).setCell ⟨b, 6, none⟩ u6).setCell ⟨b, 7, none⟩ u7).heap[k]? = w.heap[k]? := ((((((far1 _ hne 7 u7).trans (far1 _ hne 6 u6)).trans (far1 _ hne 5 u5)).trans (far1 _ hne 4 u4)).trans (far1 _ hne 3 u3)).trans (far1 _ hne 2 u2))
theorem below27 {B b : Nat} {a w : World} (h : Below B a w) (hb : B ≤ b) (u2 u3 u4 u5 u6 u7 : Value) : Below B a ((((((w.setCell ⟨b, 2, none⟩ u2).setCell ⟨b, 3, none⟩ u3).setCell ⟨b, 4, none⟩ u4).setCell ⟨b, 5, none⟩ u5).setCell ⟨b, 6, none⟩ u6).setCell ⟨b, 7, none⟩ u7) := ((((((h.setCell (p := ⟨b, 2, none⟩) hb u2).setCell (p := ⟨b, 3, none⟩) hb u3).setCell (p := ⟨b, 4, none⟩) hb u4).setCell (p := ⟨b, 5, none⟩) hb u5).setCell (p := ⟨b, 6, none⟩) hb u6).setCell (p := ⟨b, 7, none⟩) hb u7)
/-- Between two tokens: the one that has been read lies at g. -/
structure XLp (w0 : World) (RR : Res Unit) (g : Nat) (ok : Bool) (f : Nat) (wr : World) : Prop where
  ex : ∃ M s, Holds wr w0.heap.size w0.heap.size (cond ok 1 0) M (fun k => k = w0.heap.size + 1 ∨ k = g) s ∧
    (ok = true → ∃ x : Tv, wr.heap[g]? = some (.cells #[.int .i64 x.k, .string x.t, .int .i64 x.p, .int .i64 x.q, .int .i64 x.a, .int .i64 x.c] 41 (0, 0)) ∧ x.fit ∧ RR = (take steps x >>= fun _ => run steps f) s ∧ 200001 ≤ f + s.steps) ∧ (ok = false → RR = .ok () s)
  below : Below w0.heap.size w0 wr
  kc : wr.heap[w0.heap.size + 1]? = some (.cells #[.int .i64 0, .string ⟨#[]⟩, .int .i64 0, .int .i64 0] 27 (0, 0))
def fin (RR : Res Unit) : Res Unit := match RR with
  | .ok _ s => if s.groups.isEmpty then .ok () s else early s
  | .bad f => .bad f
theorem expanded_fin (l : List Tv) : expanded l = fin (run steps steps (start l)) := rfl
theorem turns_kc {M P : Nat → Prop} {w w' : World} {B b σ : Nat} {s : St} {k : Nat} {o : Obj} (H : Holds w B b σ M P s) (ht : Turns M w w') (hP : P k) (h : w.heap[k]? = some o) : w'.heap[k]? = some o := (ht.block k (H.lowP k hP).2.1 (H.lowP k hP).2.2).trans h
theorem turns_below {M P : Nat → Prop} {w0 w w' : World} {b σ : Nat} {s : St} (H : Holds w w0.heap.size b σ M P s) (ht : Turns M w w') (hB : Below w0.heap.size w0 w) : Below w0.heap.size w0 w' := hB.trans (ht.below (fun k hk => (H.low k hk).1) hB.size)
end Mx
set_option maxRecDepth 100000 in
set_option maxHeartbeats 8000000 in
theorem expanded_any (A : Option Addr) (c : Nat) (l : List Tv) (w : World) (he : EnvL w) (h1 : TokSl w w.heap.size A l) (hc : l.length ≤ c) (hl : l.length ≤ 9223372036854775807) (hf : ∀ x ∈ l, x.fit) (hok : l.all Tv.ok = true) :
    Calls Tryz.prog 23 #[.slice A l.length c] w (Mx.XRes w (Mx.expanded l)) := by
  have HV := Lib.hid (fun W (hW : EnvL W) (h : TokSl W W.heap.size A l) => cvalid_any A c l W hW h hl hf)
  rw [hok] at HV
  have HE := Lib.hid he
  have H1 := Lib.hid h1
  have HFT := Lib.hid hf
  obtain ⟨R, hR⟩ : ∃ R, R = Mx.expanded l := ⟨_, rfl⟩
  rw [← hR]
  have HR := Lib.hid hR
  obtain ⟨n, hn⟩ : ∃ n, n = l.length := ⟨_, rfl⟩
  rw [← hn] at HV hc hl ⊢
  have HN := Lib.hid hn
  clear he h1 hf hok hR hn
  have hmf : ∀ (fn : Fn) (first cap : Array Value) (w : World), (Instr.makeFunc fn first cap).run Tryz.prog w = .ok (.func fn first cap) w := fun _ _ _ _ => rfl
  have hmm := @run_makeMap Tryz.prog
  go_enter_defers Tryz.func23, Tryz.ntmps23
  go_wp2_with fail
  refine (HV.out _ (HE.out.below (((Below.refl _ _).alloc (Nat.le_refl _) _).alloc (by simp) _)) ((H1.out.below ((((Below.refl _ _).alloc (Nat.le_refl _) _).alloc (by simp) _))).more (by simp; omega))).mono ?_; rintro e w1 ⟨rfl, hb⟩
  have B1 := Lib.hid ((((Below.refl w.heap.size w).alloc (Nat.le_refl _) (.cells #[.slice none 0 0, .slice none 0 0, .int .i64 0, .string ⟨#[]⟩, .int .i64 0, .int .i64 0, .int .i64 0, .int .i64 0, .int .i64 0, .map none, .slice none 0 0, .bool false, .slice none 0 0] 48)).alloc (by simp) (.cells #[.int .i64 0, .string ⟨#[]⟩, .int .i64 0, .int .i64 0] 27)).trans (hb.mono (by simp; omega)))
  have KB := Lib.hid ((hb.block w.heap.size (by simp; omega)).trans (blk_alloc (heap_alloc_new w (.cells #[.slice none 0 0, .slice none 0 0, .int .i64 0, .string ⟨#[]⟩, .int .i64 0, .int .i64 0, .int .i64 0, .int .i64 0, .int .i64 0, .map none, .slice none 0 0, .bool false, .slice none 0 0] 48)) (.cells #[.int .i64 0, .string ⟨#[]⟩, .int .i64 0, .int .i64 0] 27)))
  have KC := Lib.hid ((hb.block (w.heap.size + 1) (by simp)).trans (blk_new2 w (.cells #[.slice none 0 0, .slice none 0 0, .int .i64 0, .string ⟨#[]⟩, .int .i64 0, .int .i64 0, .int .i64 0, .int .i64 0, .int .i64 0, .map none, .slice none 0 0, .bool false, .slice none 0 0] 48) (.cells #[.int .i64 0, .string ⟨#[]⟩, .int .i64 0, .int .i64 0] 27)))
  obtain ⟨⟨b0, b1, b2, b3, b4, b5, b6, b7, b8, b9, b10, b11, b12⟩, ⟨g0, g1, g2, g3, g4, g5, g6, g7, g8, g9, g10, g11, g12⟩, bl⟩ := blk13 KB.out
  obtain ⟨⟨d0, d1, d2, d3⟩, ⟨f0, f1, f2, f3⟩, cl⟩ := blk4 KC.out
  clear hb
  go_wp2_with fail
  have hne : w.heap.size ≠ w.heap.size + 1 := by omega
  obtain ⟨W2, hW2⟩ : ∃ W2, (((((((((((((w1.setCell ⟨w.heap.size, 0, none⟩ (.slice A n c)).setCell ⟨w.heap.size, 1, none⟩ (.slice none 0 0)).setCell ⟨w.heap.size, 2, none⟩ (.int .i64 0)).setCell ⟨w.heap.size, 3, none⟩ (.string ⟨#[]⟩)).setCell ⟨w.heap.size, 4, none⟩ (.int .i64 0)).setCell ⟨w.heap.size, 5, none⟩ (.int .i64 0)).setCell ⟨w.heap.size, 6, none⟩ (.int .i64 0)).setCell ⟨w.heap.size, 7, none⟩ (.int .i64 0)).setCell ⟨w.heap.size, 8, none⟩ (.int .i64 0)).setCell ⟨w.heap.size, 9, none⟩ (.map (some w1.heap.size))).setCell ⟨w.heap.size, 10, none⟩ (.slice none 0 0)).setCell ⟨w.heap.size, 11, none⟩ (.bool false)).setCell ⟨w.heap.size, 12, none⟩ (.slice none 0 0)).alloc (.map #[] 0) = W2 := ⟨_, rfl⟩
  have hz2 : W2.heap.size = w1.heap.size + 1 := by rw [← hW2]; simp [World.setCell]
  have I2 : Hid (Below w.heap.size w W2) := by
    refine Lib.hid ?_
    rw [← hW2]
    exact B1.out.trans ((((turns13 (fun k => k = w.heap.size) w1 rfl (.slice A n c) (.slice none 0 0) (.int .i64 0) (.string ⟨#[]⟩) (.int .i64 0) (.int .i64 0) (.int .i64 0) (.int .i64 0) (.int .i64 0) (.map (some w1.heap.size)) (.slice none 0 0) (.bool false) (.slice none 0 0)).then (Mx.Turns.alloc _ _ _)).below (fun k hk => by omega) B1.out.size))
  have K2 : Hid (W2.heap[w.heap.size]? = some (.cells #[.slice A n c, .slice none 0 0, .int .i64 0, .string ⟨#[]⟩, .int .i64 0, .int .i64 0, .int .i64 0, .int .i64 0, .int .i64 0, .map (some w1.heap.size), .slice none 0 0, .bool false, .slice none 0 0] 48 (0, 0))) := by
    refine Lib.hid ?_
    rw [← hW2]
    exact blk_alloc (set13 KB.out (.slice A n c) (.slice none 0 0) (.int .i64 0) (.string ⟨#[]⟩) (.int .i64 0) (.int .i64 0) (.int .i64 0) (.int .i64 0) (.int .i64 0) (.map (some w1.heap.size)) (.slice none 0 0) (.bool false) (.slice none 0 0)) _
  have C2 : Hid (W2.heap[w.heap.size + 1]? = some (.cells #[.int .i64 0, .string ⟨#[]⟩, .int .i64 0, .int .i64 0] 27 (0, 0))) := by
    refine Lib.hid ?_
    rw [← hW2]
    exact blk_alloc ((far13 hne.symm (.slice A n c) (.slice none 0 0) (.int .i64 0) (.string ⟨#[]⟩) (.int .i64 0) (.int .i64 0) (.int .i64 0) (.int .i64 0) (.int .i64 0) (.map (some w1.heap.size)) (.slice none 0 0) (.bool false) (.slice none 0 0)).trans KC.out) _
  have M2 : Hid (W2.ownsMap Tryz.prog 9 Mx.rawElem w1.heap.size 0 (.map [])) := by
    refine Lib.hid ?_
    rw [← hW2]
    have := World.ownsMap_made (H := Value) (((((((((((((w1.setCell ⟨w.heap.size, 0, none⟩ (.slice A n c)).setCell ⟨w.heap.size, 1, none⟩ (.slice none 0 0)).setCell ⟨w.heap.size, 2, none⟩ (.int .i64 0)).setCell ⟨w.heap.size, 3, none⟩ (.string ⟨#[]⟩)).setCell ⟨w.heap.size, 4, none⟩ (.int .i64 0)).setCell ⟨w.heap.size, 5, none⟩ (.int .i64 0)).setCell ⟨w.heap.size, 6, none⟩ (.int .i64 0)).setCell ⟨w.heap.size, 7, none⟩ (.int .i64 0)).setCell ⟨w.heap.size, 8, none⟩ (.int .i64 0)).setCell ⟨w.heap.size, 9, none⟩ (.map (some w1.heap.size))).setCell ⟨w.heap.size, 10, none⟩ (.slice none 0 0)).setCell ⟨w.heap.size, 11, none⟩ (.bool false)).setCell ⟨w.heap.size, 12, none⟩ (.slice none 0 0)) Tryz.prog 9 Mx.rawElem
    rwa [show (((((((((((((w1.setCell ⟨w.heap.size, 0, none⟩ (.slice A n c)).setCell ⟨w.heap.size, 1, none⟩ (.slice none 0 0)).setCell ⟨w.heap.size, 2, none⟩ (.int .i64 0)).setCell ⟨w.heap.size, 3, none⟩ (.string ⟨#[]⟩)).setCell ⟨w.heap.size, 4, none⟩ (.int .i64 0)).setCell ⟨w.heap.size, 5, none⟩ (.int .i64 0)).setCell ⟨w.heap.size, 6, none⟩ (.int .i64 0)).setCell ⟨w.heap.size, 7, none⟩ (.int .i64 0)).setCell ⟨w.heap.size, 8, none⟩ (.int .i64 0)).setCell ⟨w.heap.size, 9, none⟩ (.map (some w1.heap.size))).setCell ⟨w.heap.size, 10, none⟩ (.slice none 0 0)).setCell ⟨w.heap.size, 11, none⟩ (.bool false)).setCell ⟨w.heap.size, 12, none⟩ (.slice none 0 0)).heap.size = w1.heap.size by simp [World.setCell]] at this
  rw [hW2]
  have hw1 := B1.out.size
  obtain ⟨mb, hmb⟩ : ∃ mb, mb = w1.heap.size := ⟨_, rfl⟩
  rw [← hmb] at hz2 K2 M2 ⊢
  have hmw : w.heap.size ≤ mb := by rw [hmb]; exact hw1
  clear hW2 hmb bl cl b0 b1 b2 b3 b4 b5 b6 b7 b8 b9 b10 b11 b12 g0 g1 g2 g3 g4 g5 g6 g7 g8 g9 g10 g11 g12 d0 d1 d2 d3 f0 f1 f2 f3 KB KC B1 hw1
  refine (words_any W2 (HE.out.below I2.out)).mono ?_; rintro e w3 ⟨rfl, hw3, hb3⟩
  have I3 : Hid (Mx.WordsIn w w.heap.size (w.heap.size + 1) mb W2.heap.size 0 (.slice A n c) w3) := by
    refine Lib.hid ⟨I2.out.trans (hb3.mono I2.out.size), (hb3.block _ (Array.getElem?_eq_some_iff.1 K2.out).1).trans K2.out, (hb3.block _ (Array.getElem?_eq_some_iff.1 C2.out).1).trans C2.out, hw3, by omega, hmw, .map [], ?_, fun s => Or.inl ⟨rfl, by simp⟩⟩
    obtain ⟨es, clock, hh, r⟩ := M2.out
    exact ⟨es, clock, (hb3.block _ (Array.getElem?_eq_some_iff.1 hh).1).trans hh, r⟩
  clear hw3 hb3 K2 C2 M2 I2
  obtain ⟨gw, hgw⟩ : ∃ gw, gw = W2.heap.size := ⟨_, rfl⟩
  rw [← hgw] at I3 ⊢
  clear hgw hz2
  go_wp2_with fail
  go_loopw [19] (fun v wr => ∃ k : Nat, v = .int .i64 k ∧ Hid (Mx.WordsIn w w.heap.size (w.heap.size + 1) mb gw k (.slice A n c) wr)) (fun v _ => 87 - (intOf v).toNat)
  case atStart => exact ⟨0, rfl, I3⟩
  case round =>
    obtain ⟨k, rfl, hk⟩ := hrel
    have hkl := hk.out.lt
    by_cases hlt : k < 87
    · obtain ⟨u, hu⟩ : ∃ u, Lx.wds[k]? = some u := ⟨Lx.wds[k]'(by rw [show Lx.wds.length = 87 from rfl]; exact hlt), List.getElem?_eq_getElem _⟩
      have hus : u.length ≤ 20 := by
        have := List.all_eq_true.1 wds_short u (List.mem_of_getElem? hu)
        simpa using this
      obtain ⟨D, hD, hsp⟩ := hk.out.map
      obtain ⟨U, hU⟩ : ∃ U : ByteArray, U = ⟨u.toArray⟩ := ⟨_, rfl⟩
      have hUs : U.size ≤ maxLen := by rw [hU]; show u.length ≤ maxLen; unfold maxLen; omega
      obtain ⟨w5, hrun, own5, gr5⟩ := World.ownsMap.update hD str_key Tryz.underlying45 (by unfold maxLen; omega) (key := .string U) (val := .iface 73 (.string U)) (d := .held (.iface 73 (.string U))) (ps := []) (WideMaps.keyOf_string_mk Tryz.underlying9 hUs) rfl
      have x0 : wr.cell? ⟨gw, k, none⟩ = some (.string U) := by
        rw [cell_of_row wr gw k _ _ _ hk.out.kw, strsV_get Lx.wds k (by rw [show Lx.wds.length = 87 from rfl]; exact hlt), List.getD_eq_getElem?_getD, hu, hU]; rfl
      obtain ⟨⟨-, -, -, -, -, -, -, -, -, b9, -, -, -⟩, -, bl⟩ := blk13 hk.out.kb
      have I5 : Hid (Mx.WordsIn w w.heap.size (w.heap.size + 1) mb gw (k + 1) (.slice A n c) w5) := by
        rw [hU] at own5
        exact Lib.hid (hk.out.put hlt hD hsp hu own5 gr5)
      have hk0 : (0 : Int) ≤ (k : Int) := by omega
      have hk1 : (k : Int) < 87 := by omega
      have gl : gw < wr.heap.size := (Array.getElem?_eq_some_iff.1 hk.out.kw).1
      clear hD hsp own5 gr5 hU hu hus hk
      go_wp2_with fail
      go_roundw
      case rel => exact ⟨k + 1, by go_num, I5⟩
      case measure => simp [intOf]; omega
    · have hk87 : k = 87 := by omega
      subst hk87
      go_upto_if 31 with fail
      go_cut [] from 8 (fun wx => Mx.Holds wx w.heap.size w.heap.size 1 (fun k => k = w.heap.size ∨ k = mb) (fun k => k = w.heap.size + 1) (Mx.start l) ∧ wx.heap[w.heap.size + 1]? = some (.cells #[.int .i64 0, .string ⟨#[]⟩, .int .i64 0, .int .i64 0] 27 (0, 0)) ∧ Below w.heap.size w wx)
      case first =>
        by_cases hn0 : n = 0
        · go_wp2_with fail
          go_meet
          case rel =>
            have hnl := HN.out
            have hl0 : l = [] := List.eq_nil_of_length_eq_zero (by omega)
            refine ⟨Mx.start_holds (c := c) HE.out H1.out (by omega) (by omega) HFT.out hk.out.below ?_ hmw hk.out.map hk.out.kc, hk.out.kc, hk.out.below⟩
            have hkb := hk.out.kb
            rw [hnl] at hkb
            subst hl0
            exact hkb
        · obtain ⟨m, hm⟩ : ∃ m, n = m + 1 := ⟨n - 1, by omega⟩
          have hlt : m < l.length := by have := HN.out; omega
          obtain ⟨ad1, rfl, hb1, at1⟩ := H1.out (by omega)
          have hx : l[m]? = some (l[m]'hlt) := List.getElem?_eq_getElem _
          have hlast : l.getLast? = some (l[m]'hlt) := by rw [List.getLast?_eq_getElem?, ← hx]; congr 1; have := HN.out; omega
          generalize l[m]'hlt = x at hx hlast
          have tx := (at1 m x hx).below hk.out.below (by rw [block_of_add]; exact hb1)
          have hq0 := block_of_add ad1 (m * 6)
          obtain ⟨⟨xb, xo, xs⟩, hE1⟩ : ∃ E, ad1.add (m * 6) = E := ⟨_, rfl⟩
          rw [hE1] at tx hq0
          obtain ⟨x0, x1, x2, x3, x4, x5⟩ := tx
          simp only at x0 x1 x2 x3 x4 x5 hq0
          have hsz := hk.out.below.size
          have hxb : xb < wr.heap.size := by omega
          have hq1 : (n : Int) - 1 = (m : Int) := by omega
          have hq2 : IntKind.i64.wrap ((n : Int) - 1) = (m : Int) := by rw [hq1]; exact IntWalk.i64_in _ (by omega)
          have hm0 : (0 : Int) ≤ (m : Int) := by omega
          have hm1 : (m : Int) < (n : Int) := by omega
          have hn1 : (0 : Int) < (n : Int) := by omega
          obtain ⟨⟨b0, b1, b2, b3, b4, b5, b6, b7, b8, b9, b10, b11, b12⟩, ⟨g0, g1, g2, g3, g4, g5, g6, g7, g8, g9, g10, g11, g12⟩, bl⟩ := blk13 hk.out.kb
          have HLS := Lib.hid hlast
          have HM := Lib.hid hm
          clear hx hlast at1 hb1 hm hlt hq0
          go_wp2_with fail
          go_meet
          case rel =>
            have hnl := HN.out
            have hmbb : mb ≠ w.heap.size := fun e => by
              obtain ⟨D, ⟨es, clock, hh, -⟩, -⟩ := hk.out.map
              have := hk.out.kb
              rw [← e, hh] at this
              cases this
            have hK := Mx.set6at2 hk.out.kb (.int .i64 x.k) (.string x.t) (.int .i64 x.p) (.int .i64 x.q) (.int .i64 x.a) (.int .i64 x.c)
            have hC := (Mx.far27 (w := wr) hne.symm (.int .i64 x.k) (.string x.t) (.int .i64 x.p) (.int .i64 x.q) (.int .i64 x.a) (.int .i64 x.c)).trans hk.out.kc
            have hM := Mx.far27 (w := wr) hmbb (.int .i64 x.k) (.string x.t) (.int .i64 x.p) (.int .i64 x.q) (.int .i64 x.a) (.int .i64 x.c)
            have hBB := Mx.below27 hk.out.below (Nat.le_refl w.heap.size) (.int .i64 x.k) (.string x.t) (.int .i64 x.p) (.int .i64 x.q) (.int .i64 x.a) (.int .i64 x.c)
            have hmp := hk.out.map
            refine ⟨Mx.start_holds (c := c) HE.out H1.out (by omega) (by omega) HFT.out hBB ?_ hmw ?_ hC, hC, hBB⟩
            · have hst : (Mx.start l).last = x := by show l.getLast?.getD _ = x; rw [HLS.out]; rfl
              rw [hnl] at hK
              unfold Mx.cellsE
              rw [hst]
              exact hK
            · obtain ⟨D, ⟨es, clock, hh, r⟩, hsp⟩ := hmp
              exact ⟨D, ⟨es, clock, hM.trans hh, r⟩, hsp⟩
      case rest =>
        obtain ⟨H0, KC0, B0⟩ := hcut
        have HH0 := Lib.hid H0
        have KK0 := Lib.hid KC0
        have BB0 := Lib.hid B0
        obtain ⟨RR, hRR⟩ : ∃ RR, RR = Mx.run Mx.steps Mx.steps (Mx.start l) := ⟨_, rfl⟩
        have HRR := Lib.hid hRR
        have HRF : Hid (R = Mx.fin RR) := Lib.hid (by rw [HR.out, Mx.expanded_fin, ← hRR])
        obtain ⟨fz, hfz⟩ : ∃ fz, fz + 1 = Mx.steps := ⟨200000, rfl⟩
        have HFZ := Lib.hid hfz
        have hbl := (HH0.out.low _ HH0.out.hb).2
        have hcl := (Array.getElem?_eq_some_iff.1 KK0.out).1
        clear H0 KC0 B0 hRR hfz hk hkl hlt I3 hc hl HV H1 HFT
        go_upto_region 12 with fail
        go_cut [6, 7] from 8 (fun v6 v7 wx => ∃ (g : Nat) (ok : Bool), v6 = .pointer (some ⟨g, 0, none⟩) ∧ v7 = .bool ok ∧ Hid (Mx.XLp w RR g ok fz wx))
        case first =>
          cases hp : Mx.pop (Mx.start l) with
          | none =>
            have C := Lib.hid (Mx.next_end HH0.out hp)
            have HP := Lib.hid hp
            clear hp
            go_wp2_with fail
            refine C.out.mono ?_; rintro e w4 ⟨rfl, hb⟩
            have H4 := Lib.hid (HH0.out.below hb)
            have B4 := Lib.hid (BB0.out.trans (hb.mono BB0.out.size))
            have K4 := Lib.hid ((hb.block _ hcl).trans KK0.out)
            clear hb
            go_wp2_with fail
            go_meet
            case rel =>
              refine ⟨_, _, rfl, rfl, Lib.hid ⟨⟨_, _, ((H4.out.slack (show 0 ≤ 1 by omega)).own (.cells #[.int .i64 0, .string ⟨#[]⟩, .int .i64 0, .int .i64 0, .int .i64 0, .int .i64 0] 41)).less (fun k hk => hk), (fun h => by cases h), fun _ => ?_⟩, B4.out.alloc B4.out.size _, blk_alloc K4.out _⟩⟩
              exact HRR.out.trans ((congrArg (fun q => Mx.run Mx.steps q (Mx.start l)) HFZ.out.symm).trans (Mx.Z.run_none HP.out))
          | some q =>
            obtain ⟨x, s'⟩ := q
            have C := Lib.hid (Mx.next_tok HH0.out hp)
            have HP := Lib.hid hp
            clear hp
            go_wp2_with fail
            refine C.out.mono ?_; rintro e w4 ⟨ht, hok, -⟩
            obtain ⟨rfl, hfit, hh⟩ := hok (by show (0 : Nat) < 200000; omega)
            have H4 := Lib.hid hh
            have B4 := Lib.hid (Mx.turns_below HH0.out ht BB0.out)
            have K4 := Lib.hid (Mx.turns_kc HH0.out ht rfl KK0.out)
            have HF := Lib.hid hfit
            clear ht hok hh hfit
            unfold Tv.val
            go_wp2_with fail
            go_meet
            case rel =>
              refine ⟨_, _, rfl, rfl, Lib.hid ⟨⟨_, _, ((H4.out.slack (show 1 ≤ 1 + 4 by omega)).own (.cells #[.int .i64 x.k, .string x.t, .int .i64 x.p, .int .i64 x.q, .int .i64 x.a, .int .i64 x.c] 41)).less (fun k hk => hk), (fun _ => ⟨x, heap_alloc_new _ _, HF.out, ?_, ?_⟩), (fun h => by cases h)⟩, B4.out.alloc B4.out.size _, blk_alloc K4.out _⟩⟩
              · exact HRR.out.trans ((congrArg (fun q => Mx.run Mx.steps q (Mx.start l)) HFZ.out.symm).trans (Mx.Z.run_some HP.out (by show (0 : Nat) < 200000; omega)))
              · have := HFZ.out
                unfold Mx.steps at this
                show 200001 ≤ fz + (0 + 1)
                omega
        case rest =>
          obtain ⟨g0, ok0, rfl, rfl, hlp⟩ := hcut
          go_wp2_with fail
          go_loopg [6, 7] fz (fun k v6 v7 wr => ∃ (g : Nat) (ok : Bool), v6 = .pointer (some ⟨g, 0, none⟩) ∧ v7 = .bool ok ∧ Hid (Mx.XLp w RR g ok k wr))
          case atStart => exact ⟨g0, ok0, rfl, rfl, hlp⟩
          case round =>
            obtain ⟨g, ok, rfl, rfl, hr⟩ := hrel
            cases ok with
            | true =>
              obtain ⟨M, s, hH, hT, -⟩ := hr.out.ex
              obtain ⟨x, kg, hx, hRR, hfu⟩ := hT rfl
              have hH : Mx.Holds wr w.heap.size w.heap.size (0 + 1) M (fun k => k = w.heap.size + 1 ∨ k = g) s := hH
              have HH := Lib.hid hH
              have KG := Lib.hid kg
              have HX := Lib.hid hx
              have HQR := Lib.hid hRR
              have HFU := Lib.hid hfu
              have CT := Lib.hid (Mx.take_any x Mx.steps hx (by unfold Mx.steps; omega) hH)
              obtain ⟨⟨x0, x1, x2, x3, x4, x5⟩, -, xl⟩ := blk6 kg
              clear hH hT kg hx hRR hfu
              unfold Tv.val at CT
              go_wp2_with fail
              refine CT.out.mono ?_; rintro e w5 ⟨M5, hG, ht, h⟩
              have T5 := Lib.hid ht
              cases hq : Mx.take Mx.steps x s with
              | bad f =>
                rw [hq] at h
                obtain rfl := h
                obtain ⟨y, hy⟩ := HH.out.cells
                obtain ⟨c', hE5, hs5⟩ := ht.exp _ _ hy
                exact exp_fault (by rw [HRF.out, HQR.out, Mx.Z.bind_bad hq]; rfl) rfl rfl hE5 (by rw [hs5]; rfl) (Mx.turns_kc HH.out ht (Or.inl rfl) hr.out.kc) hne (Nat.le_refl _) (Nat.le_succ _) (Mx.turns_below HH.out ht hr.out.below)
              | ok u s2 =>
                rw [hq] at h
                obtain ⟨v, rfl, rfl, hh⟩ := h
                have kg5 := Mx.turns_kc HH.out ht (Or.inr rfl) KG.out
                have HS5 := Lib.hid (Mx.Z.take_steps hq)
                have HQ5 : Hid (RR = Mx.run Mx.steps gk s2) := Lib.hid (HQR.out.trans (Mx.Z.bind_ok hq))
                have B5 := Lib.hid (Mx.turns_below HH.out ht hr.out.below)
                have K5 := Lib.hid (Mx.turns_kc HH.out ht (Or.inl rfl) hr.out.kc)
                have H6 : Hid (Mx.Holds (w5.alloc (.cells #[.int .i64 x.k, .string x.t, .int .i64 x.p, .int .i64 x.q, .int .i64 x.a, .int .i64 x.c] 41)) w.heap.size w.heap.size 0 M5 (fun k => k = w.heap.size + 1 ∨ k = w5.heap.size) s2) := Lib.hid ((hh.own (.cells #[.int .i64 x.k, .string x.t, .int .i64 x.p, .int .i64 x.q, .int .i64 x.a, .int .i64 x.c] 41)).less (fun k hk => by rcases hk with hk | hk; exact Or.inl (Or.inl hk); exact Or.inr hk))
                have B6 := Lib.hid (B5.out.alloc B5.out.size (.cells #[.int .i64 x.k, .string x.t, .int .i64 x.p, .int .i64 x.q, .int .i64 x.a, .int .i64 x.c] 41))
                have K6 := Lib.hid (blk_alloc K5.out (.cells #[.int .i64 x.k, .string x.t, .int .i64 x.p, .int .i64 x.q, .int .i64 x.a, .int .i64 x.c] 41))
                obtain ⟨⟨x0, x1, x2, x3, x4, x5⟩, -, xl⟩ := blk6 kg5
                have kn := heap_alloc_new w5 (.cells #[.int .i64 x.k, .string x.t, .int .i64 x.p, .int .i64 x.q, .int .i64 x.a, .int .i64 x.c] 41)
                have KN := Lib.hid kn
                have hcl6 := (Array.getElem?_eq_some_iff.1 K6.out).1
                have hpos : 1 ≤ gk := by have h1 := HFU.out; have h2 := HS5.out; have h3 := hh.b1; omega
                clear ht hG hh kg5 kn
                obtain ⟨k1, rfl⟩ : ∃ k1, gk = k1 + 1 := ⟨gk - 1, by omega⟩
                cases hp2 : Mx.pop s2 with
                | none =>
                  have C := Lib.hid (Mx.next_end H6.out hp2)
                  have HP := Lib.hid hp2
                  clear hp2
                  go_wp2_with fail
                  refine C.out.mono ?_; rintro e w7 ⟨rfl, hb⟩
                  have kn7 := (hb.block _ (Array.getElem?_eq_some_iff.1 KN.out).1).trans KN.out
                  have KN7 := Lib.hid kn7
                  have H7 := Lib.hid (H6.out.below hb)
                  have B7 := Lib.hid (B6.out.trans (hb.mono B6.out.size))
                  have K7 := Lib.hid ((hb.block _ hcl6).trans K6.out)
                  obtain ⟨⟨y0, y1, y2, y3, y4, y5⟩, ⟨z0, z1, z2, z3, z4, z5⟩, zl⟩ := blk6 kn7
                  have hgb := B5.out.size
                  clear hb kn7
                  go_wp2_with fail
                  go_roundg k1
                  case measure => omega
                  case rel =>
                    refine ⟨_, _, rfl, rfl, Lib.hid ⟨⟨_, _, H7.out.wrote6 (Or.inr rfl) _ _ _ _ _ _, (fun h => by cases h), fun _ => HQ5.out.trans (Mx.Z.run_none HP.out)⟩, below6 B7.out hgb _ _ _ _ _ _, (far6 (fun e => ?_) _ _ _ _ _ _).trans K7.out⟩⟩
                    have h1 := K5.out
                    rw [e] at h1
                    have h2 := (Array.getElem?_eq_some_iff.1 h1).1
                    omega
                | some q =>
                  obtain ⟨x', s3⟩ := q
                  have C := Lib.hid (Mx.next_tok H6.out hp2)
                  have HP := Lib.hid hp2
                  clear hp2
                  by_cases hst : s2.steps < 200000
                  · have HST := Lib.hid hst
                    clear hst
                    go_wp2_with fail
                    refine C.out.mono ?_; rintro e w7 ⟨ht, hok, -⟩
                    obtain ⟨rfl, hfit, hh⟩ := hok HST.out
                    have kn7 := Mx.turns_kc H6.out ht (Or.inr rfl) KN.out
                    have KN7 := Lib.hid kn7
                    have H7 := Lib.hid hh
                    have HF7 := Lib.hid hfit
                    have B7 := Lib.hid (Mx.turns_below H6.out ht B6.out)
                    have K7 := Lib.hid (Mx.turns_kc H6.out ht (Or.inl rfl) K6.out)
                    obtain ⟨⟨y0, y1, y2, y3, y4, y5⟩, ⟨z0, z1, z2, z3, z4, z5⟩, zl⟩ := blk6 kn7
                    have hgb := B5.out.size
                    clear ht hok hfit hh kn7
                    unfold Tv.val
                    go_wp2_with fail
                    go_roundg k1
                    case measure => omega
                    case rel =>
                      refine ⟨_, _, rfl, rfl, Lib.hid ⟨⟨_, _, (H7.out.slack (show 1 ≤ 0 + 4 by omega)).wrote6 (Or.inr rfl) _ _ _ _ _ _, (fun _ => ⟨x', set6 KN7.out _ _ _ _ _ _, HF7.out, HQ5.out.trans (Mx.Z.run_some HP.out HST.out), ?_⟩), (fun h => by cases h)⟩, below6 B7.out hgb _ _ _ _ _ _, (far6 (fun e => ?_) _ _ _ _ _ _).trans K7.out⟩⟩
                      · have h1 := HFU.out
                        have h2 := HS5.out
                        show 200001 ≤ k1 + (s2.steps + 1)
                        omega
                      · have h1 := K5.out
                        rw [e] at h1
                        have h2 := (Array.getElem?_eq_some_iff.1 h1).1
                        omega
                  · have HST := Lib.hid hst
                    clear hst
                    go_wp2_with fail
                    refine C.out.mono ?_; rintro e w7 ⟨ht, -, hbad⟩
                    obtain rfl := hbad HST.out
                    obtain ⟨y, hy⟩ := H6.out.cells
                    obtain ⟨c', hE5, hs5⟩ := ht.exp _ _ hy
                    exact exp_fault (by rw [HRF.out, HQ5.out, Mx.Z.run_over HP.out HST.out]; rfl) rfl rfl hE5 (by rw [hs5]; rfl) (Mx.turns_kc H6.out ht (Or.inl rfl) K6.out) hne (Nat.le_refl _) (Nat.le_succ _) (Mx.turns_below H6.out ht B6.out)
            | false =>
              obtain ⟨M, s, hH, -, hF⟩ := hr.out.ex
              have hH : Mx.Holds wr w.heap.size w.heap.size 0 M (fun k => k = w.heap.size + 1 ∨ k = g) s := hH
              have HH := Lib.hid hH
              have HRS : Hid (R = Mx.fin (.ok () s)) := Lib.hid (by rw [HRF.out, hF rfl])
              clear hF hH
              obtain ⟨y, Pt⟩ := HH.out.parts
              obtain ⟨A1, e1, hvg⟩ := Mx.vg_sl Pt
              have PT := Lib.hid Pt
              have HVG := Lib.hid hvg
              have KE := Lib.hid Pt.cells
              have ec := ecells Pt.cells
              obtain ⟨c0, c1, c2, c3, c4, c5, c6, c7, c8, c9, c10, c11, c12, fr, hlt⟩ := ec
              rw [hvg] at c10
              obtain ⟨A2, e2, hvr, -, -⟩ := Pt.rest
              obtain ⟨A3, e3, hvl⟩ : ∃ A c, y.vl = .slice A s.lists.length c := by
                obtain ⟨xs, h1, -, -⟩ := Pt.lists
                rcases h1.2 with ⟨e, h0⟩ | ⟨g, cap, cur, e, -⟩
                · exact ⟨none, 0, by rw [e, h0]⟩
                · exact ⟨_, _, e⟩
              obtain ⟨A4, e4, hvo, -⟩ := TokOwn.sl Pt.out.1
              rw [hvr] at c0
              rw [hvl] at c1
              rw [hvo] at c12
              have HVR := Lib.hid hvr
              have HVL := Lib.hid hvl
              have HVO := Lib.hid hvo
              clear hvr hvl hvo
              cases hgs : s.groups with
              | nil =>
                rw [hgs] at c10
                have g0 := fr 0
                have g1 := fr 1
                have g2 := fr 2
                have g3 := fr 3
                have g4 := fr 4
                have g5 := fr 5
                have g6 := fr 6
                have g7 := fr 7
                have g8 := fr 8
                have g9 := fr 9
                have g10 := fr 10
                have g11 := fr 11
                have g12 := fr 12
                obtain ⟨⟨d0, d1, d2, d3⟩, ⟨f0, f1, f2, f3⟩, cl⟩ := blk4 hr.out.kc
                have HGS := Lib.hid hgs
                clear Pt hvg fr hgs
                go_wp2_with fail
                have hBH := HH.out.hb
                have hlc := HH.out.lowP _ (Or.inl rfl)
                have T := (turns13 (fun k => k = w.heap.size ∨ k = w.heap.size + 1) wr (Or.inl rfl) (.slice A2 s.rest.length e2) (.slice A3 s.lists.length e3) (.int .i64 s.last.k) (.string s.last.t) (.int .i64 s.last.p) (.int .i64 s.last.q) (.int .i64 s.last.a) (.int .i64 s.last.c) (.int .i64 s.steps) (.map (some y.mb)) (.slice A1 0 e1) (.bool s.saving) (.slice A4 s.out.length e4)).then (turns4 _ _ (Or.inr rfl) (.int .i64 0) (.string ⟨#[]⟩) (.int .i64 0) (.int .i64 0))
                have hE := (far4e hne (.int .i64 0) (.string ⟨#[]⟩) (.int .i64 0) (.int .i64 0)).trans (set13 KE.out (.slice A2 s.rest.length e2) (.slice A3 s.lists.length e3) (.int .i64 s.last.k) (.string s.last.t) (.int .i64 s.last.p) (.int .i64 s.last.q) (.int .i64 s.last.a) (.int .i64 s.last.c) (.int .i64 s.steps) (.map (some y.mb)) (.slice A1 0 e1) (.bool s.saving) (.slice A4 s.out.length e4))
                have hC := set4 ((far13 hne.symm (.slice A2 s.rest.length e2) (.slice A3 s.lists.length e3) (.int .i64 s.last.k) (.string s.last.t) (.int .i64 s.last.p) (.int .i64 s.last.q) (.int .i64 s.last.a) (.int .i64 s.last.c) (.int .i64 s.steps) (.map (some y.mb)) (.slice A1 0 e1) (.bool s.saving) (.slice A4 s.out.length e4)).trans hr.out.kc) (.int .i64 0) (.string ⟨#[]⟩) (.int .i64 0) (.int .i64 0)
                refine exp_done (y := y) (s := s) (Or.inl rfl) rfl rfl (by unfold Mx.cellsE; rw [HVR.out, HVL.out, HVG.out, HVO.out, HGS.out]; exact hE) hC ?_
                have hfs : Mx.fin (.ok () s) = .ok () s := by unfold Mx.fin; simp [HGS.out]
                rw [HRS.out, hfs]
                have hout := Mx.out_keep PT.out.out T (fun _ h => h) (fun k hk e => by
                  rcases e with e | e
                  · exact Mx.vo_ne PT.out.out.1 KE.out (by decide) (e ▸ hk)
                  · exact (HH.out.lowP _ (Or.inl rfl)).2.2 (e ▸ PT.out.out.2 k hk))
                obtain ⟨D, hD, -⟩ := PT.out.pmap.1.2.choose_spec.1.ex
                obtain ⟨hmM, nn, hmap, hnn⟩ := Mx.map_keep PT.out.pmap.1 T (fun k hk => by
                  rcases hk with hk | hk
                  · exact Or.inl (hk ▸ hBH)
                  · exact Or.inr (Or.inl hk)) (Mx.Grows.refl _ _) (fun _ h => h) (fun e => by
                  rcases e with e | e
                  · exact Mx.map_ne hD KE.out e
                  · exact (HH.out.lowP _ (Or.inl rfl)).2.2 (e ▸ PT.out.pmap.1.1))
                have hs1 := HH.out.b1
                exact ⟨hr.out.below.trans (T.below (fun k hk => by rcases hk with hk | hk <;> omega) hr.out.below.size), y, nn, _, rfl, hout.1, hmap, by omega, (HH.out.low _ hmM).1, ⟨_, _, _, HVR.out⟩, ⟨_, _, _, HVL.out⟩, ⟨_, _, _, HVG.out⟩⟩
              | cons gg gs =>
                rw [hgs] at c10
                have CE := Lib.hid (early_any y s w.heap.size wr KE.out _ rfl)
                have HGS := Lib.hid hgs
                have hgl : (0 : Int) < ((gg :: gs).length : Int) := by simp
                clear Pt hvg fr hgs
                go_wp2_with fail
                refine CE.out.mono ?_; rintro e w7 ⟨rfl, hb⟩
                exact exp_fault (r := R) (f := ⟨12, Mx.str [], s.last.a, s.last.c⟩) (by rw [HRS.out]; unfold Mx.fin; simp [HGS.out]; rfl) rfl rfl ((hb.block _ (Array.getElem?_eq_some_iff.1 KE.out).1).trans KE.out) rfl ((hb.block _ (Array.getElem?_eq_some_iff.1 hr.out.kc).1).trans hr.out.kc) hne (Nat.le_refl _) (Nat.le_succ _) (hr.out.below.trans (hb.mono hr.out.below.size))
end Go.Proofs.YtnhcjgnohnedaaaGreatDoor
