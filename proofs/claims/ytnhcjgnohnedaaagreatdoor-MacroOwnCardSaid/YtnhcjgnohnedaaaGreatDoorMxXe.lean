/-
  Contracts of package macro: a token is taken.
  Contracts of package macro: the closure that recovers a fault.
  Contract of cursor.Valid: whether all tokens are valid.
  Contracts of package macro: expanded, its ways out.
-/
import Derived.Test.YtnhcjgnohnedaaaGreatDoorMxTw
import Derived.Test.YtnhcjgnohnedaaaGreatDoorMxXb
import Derived.Recover
import Derived.Defers
import Derived.StillTailTactics
namespace Go.Proofs.YtnhcjgnohnedaaaGreatDoor
open Go.RowKit

namespace Mx
theorem take_other {f : Nat} {t : Tv} {s : St} (h : isName t = false) : take f t s = takeOther t s := by unfold take; rw [h]; rfl
theorem take_mac {f : Nat} {t : Tv} {s : St} {m : Mac} (h : isName t = true) (hm : meaningOf s t = .mac m) : take f t s = replace f t m s := by unfold take; rw [h]; show (match meaningOf s t with | .mac m => replace f t m s | .word w => takeWord f t w s | .var => put t 0 t.t (unsave s)) = _; rw [hm]
theorem take_word {f : Nat} {t : Tv} {s : St} {z : ByteArray} (h : isName t = true) (hm : meaningOf s t = .word z) : take f t s = takeWord f t z s := by unfold take; rw [h]; show (match meaningOf s t with | .mac m => replace f t m s | .word w => takeWord f t w s | .var => put t 0 t.t (unsave s)) = _; rw [hm]
theorem take_var {f : Nat} {t : Tv} {s : St} (h : isName t = true) (hm : meaningOf s t = .var) : take f t s = put t 0 t.t (unsave s) := by unfold take; rw [h]; show (match meaningOf s t with | .mac m => replace f t m s | .word w => takeWord f t w s | .var => put t 0 t.t (unsave s)) = _; rw [hm]
set_option maxRecDepth 100000 in
set_option maxHeartbeats 16000000 in
theorem take_any {w : World} {B b σ : Nat} {M P : Nat → Prop} {s : St} (x : Tv) (f : Nat) (hx : x.fit) (hf : 200001 ≤ f + s.steps) (H : Holds w B b (σ + 1) M P s) :
    Calls Tryz.prog 36 #[.pointer (some ⟨b, 0, none⟩), x.val] w (Ends B b σ M P w (take f x s) vUnit) := by
  have HA := Lib.hid (H.alloc (.cells #[.int .i64 x.k, .string x.t, .int .i64 x.p, .int .i64 x.q, .int .i64 x.a, .int .i64 x.c] 41))
  have TA := Lib.hid (Turns.alloc M w (.cells #[.int .i64 x.k, .string x.t, .int .i64 x.p, .int .i64 x.q, .int .i64 x.a, .int .i64 x.c] 41))
  have HX := Lib.hid hx
  have HFU := Lib.hid hf
  have CN := Lib.hid (fun W => isName_any x W)
  cases hi : isName x
  · rw [hi] at CN
    have HR : Hid (take f x s = takeOther x s) := Lib.hid (take_other hi)
    unfold Tv.val at CN ⊢
    clear H hx hf hi
    (go_enter Tryz.func36, Tryz.ntmps36; go_wp2_with fail; refine (CN.out _).mono ?_; rintro e w1 ⟨rfl, hb⟩; have K1 := Lib.hid ((hb.block w.heap.size (by simp)).trans (heap_alloc_new w (.cells #[.int .i64 x.k, .string x.t, .int .i64 x.p, .int .i64 x.q, .int .i64 x.a, .int .i64 x.c] 41))); obtain ⟨⟨x0, x1, x2, x3, x4, x5⟩, -, xl⟩ := blk6 K1.out; have T1 := Lib.hid (TA.out.then (Turns.of_below hb M)); have H1 := Lib.hid (HA.out.below hb); have S1 : Hid (w.heap.size ≤ w1.heap.size) := Lib.hid (Nat.le_trans (by simp) hb.size); clear hb)
    have CP := Lib.hid (takeOther_any x HX.out (H1.out.slack (show σ ≤ σ + 1 by omega)))
    have TP := T1
    have SP := S1
    unfold Tv.val at CP
    go_wp2_with fail
    (refine CP.out.mono ?_; rintro e wz ⟨M2, hG, ht, h⟩; have T2 := Lib.hid (TP.out.then ht); rw [← HR.out] at h; cases hq : take f x s with | bad g => (rw [hq] at h; obtain rfl := h; exact ⟨rfl, ends_bad rfl T2.out rfl⟩) | ok u s2 => (rw [hq] at h; obtain ⟨v, rfl, rfl, hh⟩ := h; have G2 : Hid (Grows w M M2) := Lib.hid (hG.of_size SP.out); have HE := Lib.hid hq; have H2 := Lib.hid hh; clear hq hG ht hh; go_wp2_with fail; go_end0; exact ends_ok HE.out G2.out T2.out rfl H2.out))
  · rw [hi] at CN
    have t1 := ta_var_mac
    have t2 := ta_word_mac
    have t3 := ta_mac_mac
    have t4 := ta_var_word
    have t5 := ta_word_word
    have t6 := ta_var_var
    cases hm : meaningOf s x with
    | mac m =>
      have HR : Hid (take f x s = replace f x m s) := Lib.hid (take_mac hi hm)
      have HM := Lib.hid hm
      unfold Tv.val at CN ⊢
      clear H hx hf hi hm
      (go_enter Tryz.func36, Tryz.ntmps36; go_wp2_with fail; refine (CN.out _).mono ?_; rintro e w1 ⟨rfl, hb⟩; have K1 := Lib.hid ((hb.block w.heap.size (by simp)).trans (heap_alloc_new w (.cells #[.int .i64 x.k, .string x.t, .int .i64 x.p, .int .i64 x.q, .int .i64 x.a, .int .i64 x.c] 41))); obtain ⟨⟨x0, x1, x2, x3, x4, x5⟩, -, xl⟩ := blk6 K1.out; have T1 := Lib.hid (TA.out.then (Turns.of_below hb M)); have H1 := Lib.hid (HA.out.below hb); have S1 : Hid (w.heap.size ≤ w1.heap.size) := Lib.hid (Nat.le_trans (by simp) hb.size); clear hb)
      have CM := Lib.hid (meaningOf_any x HX.out H1.out)
      unfold Tv.val at CM
      go_wp2_with fail
      refine CM.out.mono ?_; rintro e w2 ⟨v, rfl, hv, hb⟩
      rw [HM.out] at hv
      obtain ⟨k, rfl, hk⟩ := hv
      have K2 := Lib.hid ((hb.block w.heap.size xl).trans K1.out)
      obtain ⟨⟨y0, y1, y2, y3, y4, y5⟩, -, yl⟩ := blk6 K2.out
      have TP := Lib.hid (T1.out.then (Turns.of_below hb M))
      have SP : Hid (w.heap.size ≤ w2.heap.size) := Lib.hid (Nat.le_trans S1.out hb.size)
      have CP := Lib.hid (replace_any x HX.out f HFU.out m k hk ((H1.out.below hb).slack (show σ ≤ σ + 1 by omega)))
      unfold Tv.val at CP
      clear hb hk
      go_wp2_with fail
      (refine CP.out.mono ?_; rintro e wz ⟨M2, hG, ht, h⟩; have T2 := Lib.hid (TP.out.then ht); rw [← HR.out] at h; cases hq : take f x s with | bad g => (rw [hq] at h; obtain rfl := h; exact ⟨rfl, ends_bad rfl T2.out rfl⟩) | ok u s2 => (rw [hq] at h; obtain ⟨v, rfl, rfl, hh⟩ := h; have G2 : Hid (Grows w M M2) := Lib.hid (hG.of_size SP.out); have HE := Lib.hid hq; have H2 := Lib.hid hh; clear hq hG ht hh; go_wp2_with fail; go_end0; exact ends_ok HE.out G2.out T2.out rfl H2.out))
    | word z =>
      have HR : Hid (take f x s = takeWord f x z s) := Lib.hid (take_word hi hm)
      have HM := Lib.hid hm
      unfold Tv.val at CN ⊢
      clear H hx hf hi hm
      (go_enter Tryz.func36, Tryz.ntmps36; go_wp2_with fail; refine (CN.out _).mono ?_; rintro e w1 ⟨rfl, hb⟩; have K1 := Lib.hid ((hb.block w.heap.size (by simp)).trans (heap_alloc_new w (.cells #[.int .i64 x.k, .string x.t, .int .i64 x.p, .int .i64 x.q, .int .i64 x.a, .int .i64 x.c] 41))); obtain ⟨⟨x0, x1, x2, x3, x4, x5⟩, -, xl⟩ := blk6 K1.out; have T1 := Lib.hid (TA.out.then (Turns.of_below hb M)); have H1 := Lib.hid (HA.out.below hb); have S1 : Hid (w.heap.size ≤ w1.heap.size) := Lib.hid (Nat.le_trans (by simp) hb.size); clear hb)
      have CM := Lib.hid (meaningOf_any x HX.out H1.out)
      unfold Tv.val at CM
      go_wp2_with fail
      refine CM.out.mono ?_; rintro e w2 ⟨v, rfl, hv, hb⟩
      rw [HM.out] at hv
      obtain ⟨rfl, -⟩ : v = _ ∧ _ := hv
      have K2 := Lib.hid ((hb.block w.heap.size xl).trans K1.out)
      obtain ⟨⟨y0, y1, y2, y3, y4, y5⟩, -, yl⟩ := blk6 K2.out
      have TP := Lib.hid (T1.out.then (Turns.of_below hb M))
      have SP : Hid (w.heap.size ≤ w2.heap.size) := Lib.hid (Nat.le_trans S1.out hb.size)
      have CP := Lib.hid (takeWord_any x z f HX.out HFU.out (H1.out.below hb))
      unfold Tv.val at CP
      clear hb
      go_wp2_with fail
      (refine CP.out.mono ?_; rintro e wz ⟨M2, hG, ht, h⟩; have T2 := Lib.hid (TP.out.then ht); rw [← HR.out] at h; cases hq : take f x s with | bad g => (rw [hq] at h; obtain rfl := h; exact ⟨rfl, ends_bad rfl T2.out rfl⟩) | ok u s2 => (rw [hq] at h; obtain ⟨v, rfl, rfl, hh⟩ := h; have G2 : Hid (Grows w M M2) := Lib.hid (hG.of_size SP.out); have HE := Lib.hid hq; have H2 := Lib.hid hh; clear hq hG ht hh; go_wp2_with fail; go_end0; exact ends_ok HE.out G2.out T2.out rfl H2.out))
    | var =>
      have HR : Hid (take f x s = put x 0 x.t (unsave s)) := Lib.hid (take_var hi hm)
      have HM := Lib.hid hm
      unfold Tv.val at CN ⊢
      clear H hx hf hi hm
      (go_enter Tryz.func36, Tryz.ntmps36; go_wp2_with fail; refine (CN.out _).mono ?_; rintro e w1 ⟨rfl, hb⟩; have K1 := Lib.hid ((hb.block w.heap.size (by simp)).trans (heap_alloc_new w (.cells #[.int .i64 x.k, .string x.t, .int .i64 x.p, .int .i64 x.q, .int .i64 x.a, .int .i64 x.c] 41))); obtain ⟨⟨x0, x1, x2, x3, x4, x5⟩, -, xl⟩ := blk6 K1.out; have T1 := Lib.hid (TA.out.then (Turns.of_below hb M)); have H1 := Lib.hid (HA.out.below hb); have S1 : Hid (w.heap.size ≤ w1.heap.size) := Lib.hid (Nat.le_trans (by simp) hb.size); clear hb)
      have CM := Lib.hid (meaningOf_any x HX.out H1.out)
      unfold Tv.val at CM
      go_wp2_with fail
      refine CM.out.mono ?_; rintro e w2 ⟨v, rfl, hv, hb⟩
      rw [HM.out] at hv
      obtain rfl : v = _ := hv
      have K2 := Lib.hid ((hb.block w.heap.size xl).trans K1.out)
      obtain ⟨⟨y0, y1, y2, y3, y4, y5⟩, -, yl⟩ := blk6 K2.out
      have T2 := Lib.hid (T1.out.then (Turns.of_below hb M))
      have S2 : Hid (w.heap.size ≤ w2.heap.size) := Lib.hid (Nat.le_trans S1.out hb.size)
      have H2 := Lib.hid (H1.out.below hb)
      obtain ⟨y, hy⟩ := H2.out.cells
      have e11 := (ecells hy).c11
      have f11 := (ecells hy).fr 11
      have hl1 := (ecells hy).lt
      clear hb hy
      have HF := Lib.hid (H2.out.flag false)
      have HP : Hid (Holds ((w2.setCell ⟨b, 11, none⟩ (.bool false)).alloc (.cells #[] 95)) B b (σ + 1) M P (unsave s)) := Lib.hid (HF.out.1.alloc _)
      have TP := Lib.hid ((T2.out.then HF.out.2).then (Turns.alloc M _ (.cells #[] 95)))
      have SP : Hid (w.heap.size ≤ ((w2.setCell ⟨b, 11, none⟩ (.bool false)).alloc (.cells #[] 95)).heap.size) := Lib.hid (Nat.le_trans S2.out (by simp [World.setCell]))
      have CP : Hid (Calls Tryz.prog 56 #[.pointer (some ⟨b, 0, none⟩), x.val, .int .i64 0, .string x.t] _ (Ends B b σ M P ((w2.setCell ⟨b, 11, none⟩ (.bool false)).alloc (.cells #[] 95)) (put x 0 x.t (unsave s)) vUnit)) := Lib.hid (put_any (s := unsave s) x 0 x.t HX.out (HP.out.slack (show σ ≤ σ + 1 by omega)))
      unfold Tv.val at CP
      clear HF
      go_wp2_with fail
      (refine CP.out.mono ?_; rintro e wz ⟨M2, hG, ht, h⟩; have T2 := Lib.hid (TP.out.then ht); rw [← HR.out] at h; cases hq : take f x s with | bad g => (rw [hq] at h; obtain rfl := h; exact ⟨rfl, ends_bad rfl T2.out rfl⟩) | ok u s2 => (rw [hq] at h; obtain ⟨v, rfl, rfl, hh⟩ := h; have G2 : Hid (Grows w M M2) := Lib.hid (hG.of_size SP.out); have HE := Lib.hid hq; have H2 := Lib.hid hh; clear hq hG ht hh; go_wp2_with fail; go_end0; exact ends_ok HE.out G2.out T2.out rfl H2.out))
end Mx
end Go.Proofs.YtnhcjgnohnedaaaGreatDoor

namespace Go.Proofs.YtnhcjgnohnedaaaGreatDoor
open Go.RowKit

theorem ta_fault (v : Value) (w : World) : (Instr.typeAssert (.iface 27 v) 20 27 true).run Tryz.prog w = .ok (.tuple #[v, .bool true]) w := by kernel_rfl
set_option maxRecDepth 100000 in
theorem catch_idle (p q : Addr) (w : World) :
    CallsD Tryz.prog 33 #[.pointer (some p), .pointer (some q)] .returning w fun e u' w' => e = .returned (.tuple #[]) ∧ u' = .returning ∧ w' = w := by
  refine callsD_of_wpS Tryz.func33 rfl fun c₀ cs hu => ?_
  apply wpS_seq
  apply wpS_region
  simp [wpOpsS, go_sem, recoverD, hu, Tryz.ntmps33, Exit.thenS, Array.replicate_succ]
  refine wpS_of_wp ?_
  go_wp2_with fail
  cases c₀
  simp_all [bodyPostS, results, Tryz.results33]
/-- An expander as it begins. -/
def zeroE : Array Value := #[.slice none 0 0, .slice none 0 0, .int .i64 0, .string ⟨#[]⟩, .int .i64 0, .int .i64 0, .int .i64 0, .int .i64 0, .int .i64 0, .map none, .slice none 0 0, .bool false, .slice none 0 0]
theorem arr13 {c : Array Value} (h : c.size = 13) : ∃ v0 v1 v2 v3 v4 v5 v6 v7 v8 v9 v10 v11 v12, c = #[v0, v1, v2, v3, v4, v5, v6, v7, v8, v9, v10, v11, v12] := by
  obtain ⟨l⟩ := c
  match l, h with
  | [v0, v1, v2, v3, v4, v5, v6, v7, v8, v9, v10, v11, v12], _ => exact ⟨v0, v1, v2, v3, v4, v5, v6, v7, v8, v9, v10, v11, v12, rfl⟩
theorem far1 (w : World) {b k : Nat} (hne : k ≠ b) (i : Nat) (u : Value) : (w.setCell ⟨b, i, none⟩ u).heap[k]? = w.heap[k]? := Below.heap_setCell w ⟨b, i, none⟩ u k hne
theorem far4e {w : World} {b k : Nat} (hne : k ≠ b) (u0 u1 u2 u3 : Value) : ((((w.setCell ⟨b, 0, none⟩ u0).setCell ⟨b, 1, none⟩ u1).setCell ⟨b, 2, none⟩ u2).setCell ⟨b, 3, none⟩ u3).heap[k]? = w.heap[k]? := ((((far1 _ hne 3 u3).trans (far1 _ hne 2 u2)).trans (far1 _ hne 1 u1)).trans (far1 _ hne 0 u0))
theorem far13 {w : World} {b k : Nat} (hne : k ≠ b) (u0 u1 u2 u3 u4 u5 u6 u7 u8 u9 u10 u11 u12 : Value) : (((((((((((((w.setCell ⟨b, 0, none⟩ u0).setCell ⟨b, 1, none⟩ u1).setCell ⟨b, 2, none⟩ u2).setCell ⟨b, 3, none⟩ u3).setCell ⟨b, 4, none⟩ u4).setCell ⟨b, 5, none⟩ u5).setCell ⟨b, 6, none⟩ u6).setCell ⟨b, 7, none⟩ u7).setCell ⟨b, 8, none⟩ u8).setCell ⟨b, 9, none⟩ u9).setCell ⟨b, 10, none⟩ u10).setCell ⟨b, 11, none⟩ u11).setCell ⟨b, 12, none⟩ u12).heap[k]? = w.heap[k]? := (((((((((((((far1 _ hne 12 u12).trans (far1 _ hne 11 u11)).trans (far1 _ hne 10 u10)).trans (far1 _ hne 9 u9)).trans (far1 _ hne 8 u8)).trans (far1 _ hne 7 u7)).trans (far1 _ hne 6 u6)).trans (far1 _ hne 5 u5)).trans (far1 _ hne 4 u4)).trans (far1 _ hne 3 u3)).trans (far1 _ hne 2 u2)).trans (far1 _ hne 1 u1)).trans (far1 _ hne 0 u0))
theorem set13 {w : World} {b : Nat} {t : TypeId} {v0 v1 v2 v3 v4 v5 v6 v7 v8 v9 v10 v11 v12 : Value} (h : w.heap[b]? = some (.cells #[v0, v1, v2, v3, v4, v5, v6, v7, v8, v9, v10, v11, v12] t (0, 0))) (u0 u1 u2 u3 u4 u5 u6 u7 u8 u9 u10 u11 u12 : Value) : (((((((((((((w.setCell ⟨b, 0, none⟩ u0).setCell ⟨b, 1, none⟩ u1).setCell ⟨b, 2, none⟩ u2).setCell ⟨b, 3, none⟩ u3).setCell ⟨b, 4, none⟩ u4).setCell ⟨b, 5, none⟩ u5).setCell ⟨b, 6, none⟩ u6).setCell ⟨b, 7, none⟩ u7).setCell ⟨b, 8, none⟩ u8).setCell ⟨b, 9, none⟩ u9).setCell ⟨b, 10, none⟩ u10).setCell ⟨b, 11, none⟩ u11).setCell ⟨b, 12, none⟩ u12).heap[b]? = some (.cells #[u0, u1, u2, u3, u4, u5, u6, u7, u8, u9, u10, u11, u12] t (0, 0)) := by
  have k := (heap_set _ b 12 u12 _ _ (heap_set _ b 11 u11 _ _ (heap_set _ b 10 u10 _ _ (heap_set _ b 9 u9 _ _ (heap_set _ b 8 u8 _ _ (heap_set _ b 7 u7 _ _ (heap_set _ b 6 u6 _ _ (heap_set _ b 5 u5 _ _ (heap_set _ b 4 u4 _ _ (heap_set _ b 3 u3 _ _ (heap_set _ b 2 u2 _ _ (heap_set _ b 1 u1 _ _ (heap_set _ b 0 u0 _ _ h)))))))))))))
  simpa only [List.setIfInBounds_toArray, List.set_cons_zero, List.set_cons_succ] using k
theorem turns13 (M : Nat → Prop) (w : World) {b : Nat} (hb : M b) (u0 u1 u2 u3 u4 u5 u6 u7 u8 u9 u10 u11 u12 : Value) : Mx.Turns M w (((((((((((((w.setCell ⟨b, 0, none⟩ u0).setCell ⟨b, 1, none⟩ u1).setCell ⟨b, 2, none⟩ u2).setCell ⟨b, 3, none⟩ u3).setCell ⟨b, 4, none⟩ u4).setCell ⟨b, 5, none⟩ u5).setCell ⟨b, 6, none⟩ u6).setCell ⟨b, 7, none⟩ u7).setCell ⟨b, 8, none⟩ u8).setCell ⟨b, 9, none⟩ u9).setCell ⟨b, 10, none⟩ u10).setCell ⟨b, 11, none⟩ u11).setCell ⟨b, 12, none⟩ u12) := (((((((((((((Mx.Turns.setCell (M := M) w (p := ⟨b, 0, none⟩) hb u0).then (Mx.Turns.setCell (M := M) _ (p := ⟨b, 1, none⟩) hb u1)).then (Mx.Turns.setCell (M := M) _ (p := ⟨b, 2, none⟩) hb u2)).then (Mx.Turns.setCell (M := M) _ (p := ⟨b, 3, none⟩) hb u3)).then (Mx.Turns.setCell (M := M) _ (p := ⟨b, 4, none⟩) hb u4)).then (Mx.Turns.setCell (M := M) _ (p := ⟨b, 5, none⟩) hb u5)).then (Mx.Turns.setCell (M := M) _ (p := ⟨b, 6, none⟩) hb u6)).then (Mx.Turns.setCell (M := M) _ (p := ⟨b, 7, none⟩) hb u7)).then (Mx.Turns.setCell (M := M) _ (p := ⟨b, 8, none⟩) hb u8)).then (Mx.Turns.setCell (M := M) _ (p := ⟨b, 9, none⟩) hb u9)).then (Mx.Turns.setCell (M := M) _ (p := ⟨b, 10, none⟩) hb u10)).then (Mx.Turns.setCell (M := M) _ (p := ⟨b, 11, none⟩) hb u11)).then (Mx.Turns.setCell (M := M) _ (p := ⟨b, 12, none⟩) hb u12))
theorem turns4 (M : Nat → Prop) (w : World) {b : Nat} (hb : M b) (u0 u1 u2 u3 : Value) : Mx.Turns M w ((((w.setCell ⟨b, 0, none⟩ u0).setCell ⟨b, 1, none⟩ u1).setCell ⟨b, 2, none⟩ u2).setCell ⟨b, 3, none⟩ u3) := ((((Mx.Turns.setCell (M := M) w (p := ⟨b, 0, none⟩) hb u0).then (Mx.Turns.setCell (M := M) _ (p := ⟨b, 1, none⟩) hb u1)).then (Mx.Turns.setCell (M := M) _ (p := ⟨b, 2, none⟩) hb u2)).then (Mx.Turns.setCell (M := M) _ (p := ⟨b, 3, none⟩) hb u3))
set_option maxRecDepth 100000 in
set_option maxHeartbeats 4000000 in
theorem catch_fault {b c : Nat} {cE : Array Value} {d0 d1 d2 d3 : Value} (f : Mx.Flt) (older : List PanicEntry) (w : World) (hE : w.heap[b]? = some (.cells cE 48 (0, 0))) (hs : cE.size = 13) (hF : w.heap[c]? = some (.cells #[d0, d1, d2, d3] 27 (0, 0))) (hbc : b ≠ c) :
    CallsD Tryz.prog 33 #[.pointer (some ⟨b, 0, none⟩), .pointer (some ⟨c, 0, none⟩)] (.panicking ({ v := .iface 27 (.agg #[.int .i64 f.code, .string f.name, .int .i64 f.line, .int .i64 f.col]), recovered := false } :: older)) w fun e u' w' =>
      e = .returned (.tuple #[]) ∧ u' = .panicking ({ v := .iface 27 (.agg #[.int .i64 f.code, .string f.name, .int .i64 f.line, .int .i64 f.col]), recovered := true } :: older) ∧ Mx.Turns (fun k => k = b ∨ k = c) w w' ∧
      w'.heap[b]? = some (.cells zeroE 48 (0, 0)) ∧ w'.heap[c]? = some (.cells #[.int .i64 f.code, .string f.name, .int .i64 f.line, .int .i64 f.col] 27 (0, 0)) := by
  obtain ⟨v0, v1, v2, v3, v4, v5, v6, v7, v8, v9, v10, v11, v12, rfl⟩ := arr13 hs
  have tf := ta_fault
  have b0 : w.cell? ⟨b, 0, none⟩ = some v0 := cell_of_row w b 0 _ _ _ hE
  have b1 : w.cell? ⟨b, 1, none⟩ = some v1 := cell_of_row w b 1 _ _ _ hE
  have b2 : w.cell? ⟨b, 2, none⟩ = some v2 := cell_of_row w b 2 _ _ _ hE
  have b3 : w.cell? ⟨b, 3, none⟩ = some v3 := cell_of_row w b 3 _ _ _ hE
  have b4 : w.cell? ⟨b, 4, none⟩ = some v4 := cell_of_row w b 4 _ _ _ hE
  have b5 : w.cell? ⟨b, 5, none⟩ = some v5 := cell_of_row w b 5 _ _ _ hE
  have b6 : w.cell? ⟨b, 6, none⟩ = some v6 := cell_of_row w b 6 _ _ _ hE
  have b7 : w.cell? ⟨b, 7, none⟩ = some v7 := cell_of_row w b 7 _ _ _ hE
  have b8 : w.cell? ⟨b, 8, none⟩ = some v8 := cell_of_row w b 8 _ _ _ hE
  have b9 : w.cell? ⟨b, 9, none⟩ = some v9 := cell_of_row w b 9 _ _ _ hE
  have b10 : w.cell? ⟨b, 10, none⟩ = some v10 := cell_of_row w b 10 _ _ _ hE
  have b11 : w.cell? ⟨b, 11, none⟩ = some v11 := cell_of_row w b 11 _ _ _ hE
  have b12 : w.cell? ⟨b, 12, none⟩ = some v12 := cell_of_row w b 12 _ _ _ hE
  have fb : ∀ i, w.frozen? ⟨b, i, none⟩ = false := fun i => by simp [World.frozen?, hE]
  have fb0 := fb 0
  have fb1 := fb 1
  have fb2 := fb 2
  have fb3 := fb 3
  have fb4 := fb 4
  have fb5 := fb 5
  have fb6 := fb 6
  have fb7 := fb 7
  have fb8 := fb 8
  have fb9 := fb 9
  have fb10 := fb 10
  have fb11 := fb 11
  have fb12 := fb 12
  obtain ⟨⟨c0, c1, c2, c3⟩, ⟨g0, g1, g2, g3⟩, cl⟩ := blk4 hF
  have bl : b < w.heap.size := (Array.getElem?_eq_some_iff.1 hE).1
  have HE := Lib.hid hE
  have HF := Lib.hid hF
  clear hE hF fb hs
  have hmx : Tryz.prog.follows .mixedOrders = true := by kernel_rfl
  refine callsD_of_wpS Tryz.func33 rfl fun c₀ cs hu => ?_
  apply wpS_seq
  apply wpS_region
  simp [wpOpsS, go_sem, recoverD, hu, Tryz.ntmps33, Exit.thenS, Array.replicate_succ]
  refine wpS_of_wp ?_
  go_wp2_with fail
  go_region
  all_goals go_wp2_with fail
  refine ⟨rfl, _, rfl, _, results_none rfl _ _ _, rfl, rfl, ?_, ?_, ?_⟩
  · exact (((turns13 _ w (Or.inl rfl) _ _ _ _ _ _ _ _ _ _ _ _ _).then (turns4 _ _ (Or.inr rfl) _ _ _ _)).then (Mx.Turns.alloc _ _ _)).drew
  · unfold zeroE
    exact Mx.drew_blk (blk_alloc ((far4e hbc _ _ _ _).trans (set13 HE.out _ _ _ _ _ _ _ _ _ _ _ _ _)) _)
  · exact Mx.drew_blk (blk_alloc (set4 ((far13 (Ne.symm hbc) _ _ _ _ _ _ _ _ _ _ _ _ _).trans HF.out) _ _ _ _) _)
end Go.Proofs.YtnhcjgnohnedaaaGreatDoor

namespace Go.Proofs.YtnhcjgnohnedaaaGreatDoor
open Go.RowKit

set_option maxRecDepth 100000 in
set_option maxHeartbeats 8000000 in
theorem cvalid_any (A : Option Addr) (c : Nat) (l : List Tv) (w : World) (he : EnvL w) (h1 : TokSl w w.heap.size A l) (hl : l.length ≤ 9223372036854775807) (hf : ∀ x ∈ l, x.fit) :
    Calls Tryz.prog 27 #[.slice A l.length c] w fun e w' => e = .returned (.bool (l.all Tv.ok)) ∧ Below w.heap.size w w' := by
  have H1 := Lib.hid h1
  have HE := Lib.hid he
  have HF := Lib.hid hf
  obtain ⟨r, hr⟩ : ∃ r, r = l.all Tv.ok := ⟨_, rfl⟩
  rw [← hr]
  have HR := Lib.hid hr
  generalize hL : l.length = n at *
  have HL := Lib.hid hL
  clear h1 he hf hr hL
  go_enter Tryz.func27, Tryz.ntmps27
  go_wp2_with fail
  go_loopw [7] (fun v wr => ∃ k : Nat, v = .int .i64 k ∧ k ≤ n ∧ Hid (∀ (i : Nat) (x : Tv), i < k → l[i]? = some x → x.ok = true) ∧ Below w.heap.size w wr) (fun v _ => n - (intOf v).toNat)
  case atStart => exact ⟨0, rfl, by omega, fun i x h => by omega, Below.refl _ _⟩
  case round =>
    obtain ⟨k, rfl, hk, hs, hB⟩ := hrel
    by_cases hlt : k < n
    · obtain ⟨ad1, rfl, hb1, at1⟩ := H1.out (by rw [HL.out]; omega); have hx : l[k]? = some (l[k]'(by rw [HL.out]; exact hlt)) := List.getElem?_eq_getElem _; have hmem : l[k]'(by rw [HL.out]; exact hlt) ∈ l := List.getElem_mem _; generalize l[k]'(by rw [HL.out]; exact hlt) = x at hx hmem; have tx := (at1 k x hx).below hB (by rw [block_of_add]; exact hb1); have g1 := block_of_add ad1 (k * 6); obtain ⟨⟨xb, xo, xs⟩, hE1⟩ : ∃ E, ad1.add (k * 6) = E := ⟨_, rfl⟩; rw [hE1] at tx g1; obtain ⟨x0, x1, x2, x3, x4, x5⟩ := tx; simp only at x0 x1 x2 x3 x4 x5 g1; have hsz := hB.size
      have HX := Lib.hid hx
      have BB := Lib.hid hB
      have HMEM := Lib.hid hmem
      have hxb : xb < wr.heap.size := by omega
      have fx := HF.out x hmem
      have HV := Lib.hid (fun W (hW : EnvL W) => lvalid_any x.k x.p x.q x.a x.c x.t W hW fx.p1 fx.p2 fx.q1 fx.q2 fx.ts)
      clear hx hmem at1 g1 hb1 hB fx
      have hk0 : (0 : Int) ≤ (k : Int) := by omega
      have hk1 : (k : Int) < (n : Int) := by omega
      cases hok : x.ok
      · have hok2 := Lib.hid hok
        unfold Tv.ok at hok
        rw [hok] at HV
        clear hok
        go_wp2_with fail
        refine (HV.out _ (by exact HE.out.below (BB.out.alloc BB.out.size _))).mono ?_; rintro e w1 ⟨rfl, hb⟩
        have B1 := Lib.hid ((BB.out.alloc hsz _).trans (hb.mono (by simp; omega)))
        clear hb x0 x1 x2 x3 x4 x5
        go_wp2_with fail
        go_ret
        refine ⟨?_, B1.out⟩
        have : r = false := by
          rw [HR.out]
          rw [Bool.eq_false_iff]
          intro hall
          have := List.all_eq_true.1 hall x HMEM.out
          rw [hok2.out] at this; cases this
        rw [this]; rfl
      · have hok2 := Lib.hid hok
        unfold Tv.ok at hok
        rw [hok] at HV
        clear hok
        go_wp2_with fail
        refine (HV.out _ (by exact HE.out.below (BB.out.alloc BB.out.size _))).mono ?_; rintro e w1 ⟨rfl, hb⟩
        have B1 := Lib.hid ((BB.out.alloc hsz _).trans (hb.mono (by simp; omega)))
        clear hb x0 x1 x2 x3 x4 x5
        go_wp2_with fail
        go_roundw
        case rel =>
          refine ⟨k + 1, by go_num, by omega, ?_, B1.out⟩
          intro i u hi hu
          by_cases e : i = k
          · subst e; rw [HX.out] at hu; injection hu with hu; subst hu; exact hok2.out
          · exact hs.out i u (by omega) hu
        case measure => simp [intOf]; omega
    · have hkn : k = n := by omega
      subst hkn
      have : r = true := by
        rw [HR.out, List.all_eq_true]
        intro x hx
        obtain ⟨i, hi, rfl⟩ := List.getElem_of_mem hx
        have := HL.out
        exact hs.out i _ (by omega) (List.getElem?_eq_getElem hi)
      have BB := Lib.hid hB
      clear hB
      go_wp2_with fail
      go_ret
      exact ⟨by rw [this]; rfl, BB.out⟩
end Go.Proofs.YtnhcjgnohnedaaaGreatDoor

namespace Go.Proofs.YtnhcjgnohnedaaaGreatDoor
open Go.RowKit

namespace Mx
/-- What expanded returns. -/
def XRes (w : World) (R : Res Unit) (e : Ending) (w' : World) : Prop := Below w.heap.size w w' ∧ match R with
  | .ok _ s => ∃ y n X, e = .returned (.tuple #[.agg (cellsE y s), .agg #[.int .i64 0, .string ⟨#[]⟩, .int .i64 0, .int .i64 0]]) ∧ TokOwn w' w.heap.size y.vo s.out ∧ MapIs w' X y.mb n s.means ∧ n ≤ 1000000 ∧ w.heap.size ≤ y.mb ∧ (∃ A n c, y.vr = .slice A n c) ∧ (∃ A n c, y.vl = .slice A n c) ∧ (∃ A n c, y.vg = .slice A n c)
  | .bad f => e = .returned (.tuple #[.agg zeroE, .agg #[.int .i64 f.code, .string f.name, .int .i64 f.line, .int .i64 f.col]])
end Mx

set_option maxRecDepth 100000 in
set_option maxHeartbeats 4000000 in
/-- The body has ended: the closure finds no panic. -/
theorem exp_done {R : Ending → World → Prop} {ex : Exit} (hex : ex = .ret ∨ ex = .normal) {b c : Nat} {y : Mx.Lay} {s : Mx.St} {ts : Array Value} {w : World} (h2 : ts[2]?.getD undef = .pointer (some ⟨b, 0, none⟩)) (h3 : ts[3]?.getD undef = .pointer (some ⟨c, 0, none⟩)) (hE : w.heap[b]? = some (.cells (Mx.cellsE y s) 48 (0, 0))) (hF : w.heap[c]? = some (.cells #[.int .i64 0, .string ⟨#[]⟩, .int .i64 0, .int .i64 0] 27 (0, 0)))
    (hR : R (.returned (.tuple #[.agg (Mx.cellsE y s), .agg #[.int .i64 0, .string ⟨#[]⟩, .int .i64 0, .int .i64 0]])) w) :
    bodyPostD Tryz.prog Tryz.f23 R ex { tmps := ts, defers := [{ target := .fn (.func 33) #[.pointer (some ⟨b, 0, none⟩), .pointer (some ⟨c, 0, none⟩)], args := #[] }] } w := by
  obtain ⟨c0, c1, c2, c3, c4, c5, c6, c7, c8, c9, c10, c11, c12, -, -⟩ := ecells hE
  obtain ⟨⟨d0, d1, d2, d3⟩, -, -⟩ := blk4 hF
  have key : Leaves Tryz.prog Tryz.f23 ts R [{ target := .fn (.func 33) #[.pointer (some ⟨b, 0, none⟩), .pointer (some ⟨c, 0, none⟩)], args := #[] }] .returning w := by
    refine leaves_cons (f := 33) (args := #[.pointer (some ⟨b, 0, none⟩), .pointer (some ⟨c, 0, none⟩)]) (by simp) (by simp [go_sem]) ?_
    refine (catch_idle _ _ _).mono ?_
    rintro e u' w'' ⟨rfl, rfl, rfl⟩
    refine ⟨_, ?_, hR⟩
    simp [settle, results, Tryz.results23, go_sem, h2, h3, c0, c1, c2, c3, c4, c5, c6, c7, c8, c9, c10, c11, c12, d0, d1, d2, d3, Mx.cellsE]
  rcases hex with rfl | rfl
  · exact key
  · exact key
set_option maxRecDepth 100000 in
set_option maxHeartbeats 4000000 in
/-- A fault: the closure recovers it. -/
theorem exp_fault {w0 : World} {b c : Nat} {cE : Array Value} {ts : Array Value} {w : World} {f : Mx.Flt} {r : Mx.Res Unit} (hr : r = .bad f) (h2 : ts[2]?.getD undef = .pointer (some ⟨b, 0, none⟩)) (h3 : ts[3]?.getD undef = .pointer (some ⟨c, 0, none⟩)) (hE : w.heap[b]? = some (.cells cE 48 (0, 0))) (hs : cE.size = 13) (hF : w.heap[c]? = some (.cells #[.int .i64 0, .string ⟨#[]⟩, .int .i64 0, .int .i64 0] 27 (0, 0))) (hbc : b ≠ c)
    (hb : w0.heap.size ≤ b) (hc : w0.heap.size ≤ c) (hB : Below w0.heap.size w0 w) :
    bodyPostD Tryz.prog Tryz.f23 (Mx.XRes w0 r) (.panic [{ v := .iface 27 (.agg #[.int .i64 f.code, .string f.name, .int .i64 f.line, .int .i64 f.col]), recovered := false }]) { tmps := ts, defers := [{ target := .fn (.func 33) #[.pointer (some ⟨b, 0, none⟩), .pointer (some ⟨c, 0, none⟩)], args := #[] }] } w := by
  refine leaves_cons (f := 33) (args := #[.pointer (some ⟨b, 0, none⟩), .pointer (some ⟨c, 0, none⟩)]) (by simp) (by simp [go_sem]) ?_
  refine (catch_fault f [] w hE hs hF hbc).mono ?_
  rintro e u' w'' ⟨rfl, rfl, ht, h4, h5⟩
  have c0 := cell_of_row w'' b 0 _ _ _ h4
  have c1 := cell_of_row w'' b 1 _ _ _ h4
  have c2 := cell_of_row w'' b 2 _ _ _ h4
  have c3 := cell_of_row w'' b 3 _ _ _ h4
  have c4 := cell_of_row w'' b 4 _ _ _ h4
  have c5 := cell_of_row w'' b 5 _ _ _ h4
  have c6 := cell_of_row w'' b 6 _ _ _ h4
  have c7 := cell_of_row w'' b 7 _ _ _ h4
  have c8 := cell_of_row w'' b 8 _ _ _ h4
  have c9 := cell_of_row w'' b 9 _ _ _ h4
  have c10 := cell_of_row w'' b 10 _ _ _ h4
  have c11 := cell_of_row w'' b 11 _ _ _ h4
  have c12 := cell_of_row w'' b 12 _ _ _ h4
  obtain ⟨⟨d0, d1, d2, d3⟩, -, -⟩ := blk4 h5
  have hB2 : Below w0.heap.size w0 w'' := hB.trans (ht.below (fun k hk => by rcases hk with rfl | rfl; exact hb; exact hc) hB.size)
  refine ⟨.tuple #[.agg zeroE, .agg #[.int .i64 f.code, .string f.name, .int .i64 f.line, .int .i64 f.col]], ?_, ?_⟩
  · simp [settle, results, Tryz.results23, go_sem, h2, h3, c0, c1, c2, c3, c4, c5, c6, c7, c8, c9, c10, c11, c12, d0, d1, d2, d3, zeroE]
  · rw [hr]; exact ⟨hB2, rfl⟩
end Go.Proofs.YtnhcjgnohnedaaaGreatDoor
