/-
  Contracts of package macro: a name, a sign that has to be there.
  Contracts of package macro: what names mean.
  Contracts of package macro: a token is put out.
-/
import Derived.Test.YtnhcjgnohnedaaaGreatDoorMxI
import Derived.Maps.AppendAt
import Derived.Deep.RegionLaw
namespace Go.Proofs.YtnhcjgnohnedaaaGreatDoor
open Go.RowKit

namespace Mx
theorem readName_bad {s : St} {f : Flt} (h : read s = .bad f) : readName s = .bad f := by simp [readName, bind, M.bind, h]
theorem readName_ok {s s' : St} {x : Tv} (h : read s = .ok x s') (hn : isName x = true) : readName s = .ok x s' := by simp [readName, bind, M.bind, h, hn, pure]
theorem readName_no {s s' : St} {x : Tv} (h : read s = .ok x s') (hn : isName x = false) : readName s = .bad (failAt 11 x) := by simp [readName, bind, M.bind, h, hn, bad]
theorem readSign_bad {s : St} {f : Flt} {z : ByteArray} (h : read s = .bad f) : readSign z s = .bad f := by simp [readSign, bind, M.bind, h]
theorem readSign_ok {s s' : St} {x : Tv} {z : ByteArray} (h : read s = .ok x s') (hn : isSign x z = true) : readSign z s = .ok () s' := by simp [readSign, bind, M.bind, h, demand, hn, pure]
theorem readSign_no {s s' : St} {x : Tv} {z : ByteArray} (h : read s = .ok x s') (hn : isSign x z = false) : readSign z s = .bad (failAt 11 x) := by simp [readSign, bind, M.bind, h, demand, hn, bad]
theorem Holds.env' {w : World} {B b σ : Nat} {M P : Nat → Prop} {s : St} (h : Holds w B b σ M P s) : EnvL w := h.env.env
theorem Grows.of_size {w w1 : World} {M M' : Nat → Prop} (h : Grows w1 M M') (hs : w.heap.size ≤ w1.heap.size) : Grows w M M' := fun k hk => by
  rcases h k hk with h1 | h1
  · exact Or.inl h1
  · exact Or.inr (by omega)

set_option maxRecDepth 100000 in
set_option maxHeartbeats 4000000 in
theorem readSign_any {w : World} {B b σ : Nat} {M P : Nat → Prop} {s : St} (z : ByteArray) (H : Holds w B b σ M P s) :
    Calls Tryz.prog 92 #[.pointer (some ⟨b, 0, none⟩), .string z] w (Ends B b (σ + 4) M P w (readSign z s) vUnit) := by
  have C := read_any H
  cases hr : read s with
  | bad f =>
    rw [hr] at C
    have HR := Lib.hid (readSign_bad (z := z) hr)
    have CC := Lib.hid C
    clear C H hr
    go_enter Tryz.func92, Tryz.ntmps92
    go_wp2_with fail
    refine CC.out.mono ?_; rintro e w1 ⟨M1, hG, ht, rfl⟩
    exact ⟨rfl, ends_bad HR.out ht rfl⟩
  | ok x s1 =>
    rw [hr] at C
    cases hi : isSign x z
    · have HR := Lib.hid (readSign_no hr hi)
      have CC := Lib.hid C
      have HI := Lib.hid hi
      clear C H hr hi
      go_enter Tryz.func92, Tryz.ntmps92
      go_wp2_with fail
      refine CC.out.mono ?_; rintro e w1 ⟨M1, hG, ht, v, rfl, ⟨rfl, hfit⟩, hh⟩
      have HH := Lib.hid hh
      have HF := Lib.hid hfit
      have TT := Lib.hid ht
      clear hh hfit ht hG
      go_wp2_with fail
      refine (demand_bad x z _ _ HH.out.env' HF.out HI.out rfl).mono ?_; rintro e w2 ⟨rfl, hb⟩
      exact ⟨rfl, ends_bad HR.out (TT.out.then (Turns.of_below hb _)) rfl⟩
    · have HR := Lib.hid (readSign_ok hr hi)
      have CC := Lib.hid C
      have HI := Lib.hid hi
      clear C H hr hi
      go_enter Tryz.func92, Tryz.ntmps92
      go_wp2_with fail
      refine CC.out.mono ?_; rintro e w1 ⟨M1, hG, ht, v, rfl, ⟨rfl, hfit⟩, hh⟩
      have HH := Lib.hid hh
      have TT := Lib.hid ht
      have HG := Lib.hid hG
      clear hh hfit ht hG
      go_wp2_with fail
      refine (demand_ok x z _ HH.out.env' HI.out).mono ?_; rintro e w2 ⟨rfl, hb⟩
      go_wp2_with fail
      go_end0
      exact ends_ok HR.out HG.out (TT.out.then (Turns.of_below hb _)) rfl (HH.out.below hb)

set_option maxRecDepth 100000 in
set_option maxHeartbeats 4000000 in
theorem readName_any {w : World} {B b σ : Nat} {M P : Nat → Prop} {s : St} (H : Holds w B b σ M P s) :
    Calls Tryz.prog 123 #[.pointer (some ⟨b, 0, none⟩)] w (Ends B b (σ + 4) M P w (readName s) (fun x s' X w' v => vTok x s' X w' v ∧ isName x = true)) := by
  have HA := H.own (.cells #[.int .i64 0, .string ⟨#[]⟩, .int .i64 0, .int .i64 0, .int .i64 0, .int .i64 0] 41)
  have hnM : ¬ M w.heap.size := (HA.lowP _ (Or.inr rfl)).2.2
  have T0 := Lib.hid (Turns.alloc M w (.cells #[.int .i64 0, .string ⟨#[]⟩, .int .i64 0, .int .i64 0, .int .i64 0, .int .i64 0] 41))
  have C := read_any HA
  cases hr : read s with
  | bad f =>
    rw [hr] at C
    have HR := Lib.hid (readName_bad hr)
    have CC := Lib.hid C
    clear C H HA hr
    go_enter Tryz.func123, Tryz.ntmps123
    go_wp2_with fail
    refine CC.out.mono ?_; rintro e w1 ⟨M1, hG, ht, rfl⟩
    exact ⟨rfl, ends_bad HR.out (T0.out.then ht) rfl⟩
  | ok x s1 =>
    rw [hr] at C
    cases hi : isName x
    · have HR := Lib.hid (readName_no hr hi)
      have CC := Lib.hid C
      have HI := Lib.hid hi
      have CN := Lib.hid (fun W => isName_any x W)
      rw [hi] at CN
      clear C H HA hr hi
      unfold Tv.val at CN
      go_enter Tryz.func123, Tryz.ntmps123
      go_wp2_with fail
      refine CC.out.mono ?_; rintro e w1 ⟨M1, hG, ht, v, rfl, ⟨rfl, hfit⟩, hh⟩
      have HH := Lib.hid (hh.alloc (.cells #[.int .i64 x.k, .string x.t, .int .i64 x.p, .int .i64 x.q, .int .i64 x.a, .int .i64 x.c] 41))
      have HF := Lib.hid hfit
      have TT := Lib.hid ((T0.out.then ht).then (Turns.alloc _ _ (.cells #[.int .i64 x.k, .string x.t, .int .i64 x.p, .int .i64 x.q, .int .i64 x.a, .int .i64 x.c] 41)))
      have K1 := Lib.hid (heap_alloc_new w1 (.cells #[.int .i64 x.k, .string x.t, .int .i64 x.p, .int .i64 x.q, .int .i64 x.a, .int .i64 x.c] 41))
      clear hh hfit ht hG
      unfold Tv.val
      go_wp2_with fail
      refine (CN.out _).mono ?_; rintro e w2 ⟨rfl, hb⟩
      obtain ⟨⟨x0, x1, x2, x3, x4, x5⟩, -, xl⟩ := blk6 ((hb.block w1.heap.size (by simp)).trans K1.out)
      have HH2 := Lib.hid (HH.out.below hb)
      have TT2 := Lib.hid (TT.out.then (Turns.of_below hb _))
      clear hb
      go_wp2_with fail
      refine (fail_any 11 x _ _ HH2.out.env' HF.out rfl).mono ?_; rintro e w3 ⟨rfl, hb⟩
      exact ⟨rfl, ends_bad HR.out (TT2.out.then (Turns.of_below hb _)) rfl⟩
    · have HR := Lib.hid (readName_ok hr hi)
      have CC := Lib.hid C
      have HI := Lib.hid hi
      have CN := Lib.hid (fun W => isName_any x W)
      rw [hi] at CN
      clear C H HA hr hi
      unfold Tv.val at CN
      go_enter Tryz.func123, Tryz.ntmps123
      go_wp2_with fail
      refine CC.out.mono ?_; rintro e w1 ⟨M1, hG, ht, v, rfl, ⟨rfl, hfit⟩, hh⟩
      have HH := Lib.hid (hh.alloc (.cells #[.int .i64 x.k, .string x.t, .int .i64 x.p, .int .i64 x.q, .int .i64 x.a, .int .i64 x.c] 41))
      have HF := Lib.hid hfit
      have TT := Lib.hid ((T0.out.then ht).then (Turns.alloc _ _ (.cells #[.int .i64 x.k, .string x.t, .int .i64 x.p, .int .i64 x.q, .int .i64 x.a, .int .i64 x.c] 41)))
      have K1 := Lib.hid (heap_alloc_new w1 (.cells #[.int .i64 x.k, .string x.t, .int .i64 x.p, .int .i64 x.q, .int .i64 x.a, .int .i64 x.c] 41))
      have K0 := Lib.hid ((ht.block w.heap.size (by simp) hnM).trans (heap_alloc_new w (.cells #[.int .i64 0, .string ⟨#[]⟩, .int .i64 0, .int .i64 0, .int .i64 0, .int .i64 0] 41)))
      have HG := Lib.hid (hG.of_size (w := w) (by simp))
      have hw1 : w.heap.size < w1.heap.size := by have := ht.size; simp at this; omega
      clear hh hfit ht hG
      unfold Tv.val
      go_wp2_with fail
      refine (CN.out _).mono ?_; rintro e w2 ⟨rfl, hb⟩
      obtain ⟨⟨x0, x1, x2, x3, x4, x5⟩, -, xl⟩ := blk6 ((hb.block w1.heap.size (by simp)).trans K1.out)
      have K2 := Lib.hid ((hb.block w.heap.size (by simp; omega)).trans (blk_alloc K0.out _))
      obtain ⟨⟨z0, z1, z2, z3, z4, z5⟩, ⟨y0, y1, y2, y3, y4, y5⟩, zl⟩ := blk6 K2.out
      have HH2 := Lib.hid (HH.out.below hb)
      have TT2 := Lib.hid (TT.out.then (Turns.of_below hb _))
      clear hb
      go_wp2_with fail
      obtain ⟨⟨q0, q1, q2, q3, q4, q5⟩, -, -⟩ := blk6 (set6 K2.out (.int .i64 x.k) (.string x.t) (.int .i64 x.p) (.int .i64 x.q) (.int .i64 x.a) (.int .i64 x.c))
      exact bodyPost_ret (v := x.val) (by simp [results, Tryz.results123, go_sem, Tv.val, q0, q1, q2, q3, q4, q5]) rfl
        (ends_ok HR.out HG.out (TT2.out.new6 (Nat.le_refl _) _ _ _ _ _ _) ⟨⟨rfl, HF.out⟩, HI.out⟩ ((HH2.out.wrote6 (Or.inr rfl) _ _ _ _ _ _).less (fun k hk => Or.inl hk)))
end Mx
end Go.Proofs.YtnhcjgnohnedaaaGreatDoor

namespace Go.Proofs.YtnhcjgnohnedaaaGreatDoor
open Go.RowKit

theorem str_key : Maps.Keyed Tryz.prog 9 := Maps.string_keyed Tryz.underlying9
namespace Mx
theorem raw_inv {v : Value} {d : DataW Value} {ps : List MemPlace} (h : rawElem v = some (d, ps)) : d = .held v := by
  unfold rawElem at h; injection h with h; injection h with h1 h2; exact h1.symm
set_option maxRecDepth 100000 in
set_option maxHeartbeats 4000000 in
theorem nameMeaning_at {w : World} {B b σ : Nat} {M P : Nat → Prop} {s : St} (n : ByteArray) (hn : n.size ≤ maxLen) (H : Holds w B b σ M P s) :
    ∃ v, IsMean w (uni M P) v (s.means n) ∧ Calls Tryz.prog 91 #[.pointer (some ⟨b, 0, none⟩), .string n] w fun e w' => e = .returned v ∧ w = w' := by
  obtain ⟨y, Pt⟩ := H.parts
  obtain ⟨hmM, N, hmap, -⟩ := Pt.map
  obtain ⟨D, hown, hsp⟩ := hmap.ex
  have hkey : keyOf Tryz.prog 9 (.string n) = some (.string n.data.toList) := WideMaps.keyOf_string_mk Tryz.underlying9 hn
  obtain ⟨-, -, -, -, -, -, -, -, -, c9, -, -, -, -, hlt⟩ := ecells Pt.cells
  have HO := Lib.hid hown
  have HK := Lib.hid hkey
  rcases hsp n hn with ⟨hh, hv⟩ | ⟨hh, v0, hat, hme⟩
  · refine ⟨.iface 95 (.agg #[]), by rw [hv]; rfl, ?_⟩
    clear H Pt hmM hmap hsp hkey hv hown hn
    go_enter Tryz.func91, Tryz.ntmps91
    go_wp2_with (at_lookup; (refine wpList_lookup_own_ok _ rfl _ _ 45 rfl 9 60 str_key Tryz.underlying45 rawElem (Tryz.zeroValue60 _) (.held .nilIface) [] rfl y.mb N D rfl HO.out (.string n) (.string n.data.toList) rfl HK.out ?_; intro v ps hv))
    clear hv
    go_wp2_with fail
    go_ret
    exact ⟨rfl, rfl⟩
  · refine ⟨v0, hme, ?_⟩
    have HA := Lib.hid hat
    clear H Pt hmM hmap hsp hkey hat hme hown hn
    go_enter Tryz.func91, Tryz.ntmps91
    go_wp2_with (at_lookup; (refine wpList_lookup_own_ok _ rfl _ _ 45 rfl 9 60 str_key Tryz.underlying45 rawElem (Tryz.zeroValue60 _) (.held .nilIface) [] rfl y.mb N D rfl HO.out (.string n) (.string n.data.toList) rfl HK.out ?_; intro v ps hv))
    have hv2 := raw_inv hv
    rw [HA.out] at hv2
    injection hv2 with hv2
    have HV := Lib.hid hv2
    clear hv hv2
    go_wp2_with fail
    go_ret
    exact ⟨by rw [HV.out]; rfl, rfl⟩
theorem nameMeaning_any {w : World} {B b σ : Nat} {M P : Nat → Prop} {s : St} (n : ByteArray) (hn : n.size ≤ maxLen) (H : Holds w B b σ M P s) :
    Calls Tryz.prog 91 #[.pointer (some ⟨b, 0, none⟩), .string n] w fun e w' => ∃ v, e = .returned v ∧ IsMean w (uni M P) v (s.means n) ∧ w = w' := by
  obtain ⟨v, h1, h2⟩ := nameMeaning_at n hn H
  exact h2.mono fun e w' ⟨he, hw⟩ => ⟨v, he, h1, hw⟩
theorem IsMean.below {w w' : World} {X : Nat → Prop} {v : Value} {m : Mean} (h : IsMean w X v m) (hb : Below w.heap.size w w') : IsMean w' X v m := h.turn (Turns.of_below hb _) (Grows.refl _ _)
set_option maxRecDepth 100000 in
set_option maxHeartbeats 4000000 in
theorem meaningOf_any {w : World} {B b σ : Nat} {M P : Nat → Prop} {s : St} (x : Tv) (hx : x.fit) (H : Holds w B b σ M P s) :
    Calls Tryz.prog 53 #[.pointer (some ⟨b, 0, none⟩), x.val] w fun e w' => ∃ v, e = .returned v ∧ IsMean w' (uni M P) v (meaningOf s x) ∧ Below w.heap.size w w' := by
  have hts := hx.ts
  by_cases hk : x.k = 1
  · have e1 : (x.k == 1) = true := by simpa using hk
    have HM : Hid (meaningOf s x = .word x.t) := by unfold meaningOf; exact if_pos hk
    have HT := Lib.hid hts
    unfold Tv.val
    clear H hx hk hts
    go_enter Tryz.func53, Tryz.ntmps53
    go_wp2_with fail
    go_ret
    exact ⟨_, rfl, by rw [HM.out]; exact ⟨rfl, HT.out⟩, (Below.refl _ _).alloc (Nat.le_refl _) _⟩
  · have e1 : (x.k == 1) = false := by simpa using hk
    have HM : Hid (meaningOf s x = s.means x.t) := by unfold meaningOf; exact if_neg hk
    have C := Lib.hid (nameMeaning_any x.t hts (H.alloc (.cells #[.int .i64 x.k, .string x.t, .int .i64 x.p, .int .i64 x.q, .int .i64 x.a, .int .i64 x.c] 41)))
    unfold Tv.val
    clear H hx hk hts
    go_enter Tryz.func53, Tryz.ntmps53
    go_wp2_with fail
    refine C.out.mono ?_; rintro e w1 ⟨v, rfl, hm, rfl⟩
    have HV := Lib.hid hm
    clear hm
    go_wp2_with fail
    go_ret
    exact ⟨_, rfl, by rw [HM.out]; exact HV.out, (Below.refl _ _).alloc (Nat.le_refl _) _⟩
theorem eq_list (a b : ByteArray) : (a.toList == b.toList) = decide (a = b) := by
  rw [Bool.eq_iff_iff, decide_eq_true_eq, Lib.toList_data, Lib.toList_data, beq_iff_eq]
  exact ⟨fun h => by rw [ba_list a, ba_list b, h], fun h => by rw [h]⟩
theorem ta_var_word (w : World) : (Instr.typeAssert (.iface 95 (.agg #[])) 60 73 true).run Tryz.prog w = .ok (.tuple #[.string ⟨#[]⟩, .bool false]) w := by kernel_rfl
theorem ta_word_word (u : ByteArray) (w : World) : (Instr.typeAssert (.iface 73 (.string u)) 60 73 true).run Tryz.prog w = .ok (.tuple #[.string u, .bool true]) w := by kernel_rfl
theorem ta_mac_word (k : Nat) (w : World) : (Instr.typeAssert (.iface 61 (.pointer (some ⟨k, 0, none⟩))) 60 73 true).run Tryz.prog w = .ok (.tuple #[.string ⟨#[]⟩, .bool false]) w := by kernel_rfl
theorem ta_var_mac (w : World) : (Instr.typeAssert (.iface 95 (.agg #[])) 60 61 true).run Tryz.prog w = .ok (.tuple #[.pointer none, .bool false]) w := by kernel_rfl
theorem ta_word_mac (u : ByteArray) (w : World) : (Instr.typeAssert (.iface 73 (.string u)) 60 61 true).run Tryz.prog w = .ok (.tuple #[.pointer none, .bool false]) w := by kernel_rfl
theorem ta_mac_mac (k : Nat) (w : World) : (Instr.typeAssert (.iface 61 (.pointer (some ⟨k, 0, none⟩))) 60 61 true).run Tryz.prog w = .ok (.tuple #[.pointer (some ⟨k, 0, none⟩), .bool true]) w := by kernel_rfl
theorem ta_var_var (w : World) : (Instr.typeAssert (.iface 95 (.agg #[])) 60 95 true).run Tryz.prog w = .ok (.tuple #[.agg #[], .bool true]) w := by kernel_rfl
set_option maxRecDepth 100000 in
set_option maxHeartbeats 4000000 in
theorem means_any {w : World} {B b σ : Nat} {M P : Nat → Prop} {s : St} (x : Tv) (z : ByteArray) (hx : x.fit) (H : Holds w B b σ M P s) :
    Calls Tryz.prog 146 #[.pointer (some ⟨b, 0, none⟩), x.val, .string z] w fun e w' => e = .returned (.bool (meansW s x z)) ∧ Below w.heap.size w w' := by
  have CN := Lib.hid (fun W => isName_any x W)
  have HA := Lib.hid H
  have HF := Lib.hid hx
  cases hi : isName x
  · rw [hi] at CN
    have HR : Hid (meansW s x z = false) := by show _ = _; rw [meansW, hi, Bool.false_and]
    unfold Tv.val at *
    clear H hx hi
    (have t1 := ta_var_word; have t2 := ta_word_word; have t3 := ta_mac_word; go_enter Tryz.func146, Tryz.ntmps146; go_wp2_with fail; refine (CN.out _).mono ?_; rintro e w1 ⟨rfl, hb⟩; obtain ⟨⟨x0, x1, x2, x3, x4, x5⟩, -, xl⟩ := blk6 ((hb.block w.heap.size (by simp)).trans (heap_alloc_new w (.cells #[.int .i64 x.k, .string x.t, .int .i64 x.p, .int .i64 x.q, .int .i64 x.a, .int .i64 x.c] 41))); have B1 := Lib.hid (((Below.refl w.heap.size w).alloc (Nat.le_refl _) (.cells #[.int .i64 x.k, .string x.t, .int .i64 x.p, .int .i64 x.q, .int .i64 x.a, .int .i64 x.c] 41)).trans (hb.mono (by simp))); have HH := Lib.hid ((HA.out.alloc (.cells #[.int .i64 x.k, .string x.t, .int .i64 x.p, .int .i64 x.q, .int .i64 x.a, .int .i64 x.c] 41)).below hb); clear hb; go_wp2_with fail)
    go_ret
    exact ⟨by rw [HR.out]; rfl, B1.out⟩
  · rw [hi] at CN
    cases hm : meaningOf s x with
    | var =>
      have HR : Hid (meansW s x z = false) := by show _ = _; simp [meansW, hm, isWord]
      have HM := Lib.hid hm
      have CM := Lib.hid (fun W (h : Holds W B b σ M P s) => meaningOf_any x HF.out h)
      unfold Tv.val at *
      clear H hx hi hm
      (have t1 := ta_var_word; have t2 := ta_word_word; have t3 := ta_mac_word; go_enter Tryz.func146, Tryz.ntmps146; go_wp2_with fail; refine (CN.out _).mono ?_; rintro e w1 ⟨rfl, hb⟩; obtain ⟨⟨x0, x1, x2, x3, x4, x5⟩, -, xl⟩ := blk6 ((hb.block w.heap.size (by simp)).trans (heap_alloc_new w (.cells #[.int .i64 x.k, .string x.t, .int .i64 x.p, .int .i64 x.q, .int .i64 x.a, .int .i64 x.c] 41))); have B1 := Lib.hid (((Below.refl w.heap.size w).alloc (Nat.le_refl _) (.cells #[.int .i64 x.k, .string x.t, .int .i64 x.p, .int .i64 x.q, .int .i64 x.a, .int .i64 x.c] 41)).trans (hb.mono (by simp))); have HH := Lib.hid ((HA.out.alloc (.cells #[.int .i64 x.k, .string x.t, .int .i64 x.p, .int .i64 x.q, .int .i64 x.a, .int .i64 x.c] 41)).below hb); clear hb; go_wp2_with fail)
      refine (CM.out _ HH.out).mono ?_; rintro e w2 ⟨v, rfl, hv, hb⟩
      rw [HM.out] at hv
      obtain rfl : v = _ := hv
      go_wp2_with fail
      go_ret
      exact ⟨by rw [HR.out]; rfl, B1.out.trans (hb.mono B1.out.size)⟩
    | word u =>
      have HR : Hid (meansW s x z = (u.toList == z.toList)) := by show _ = _; simp [meansW, hm, isWord, hi, eq_list]
      have HM := Lib.hid hm
      have CM := Lib.hid (fun W (h : Holds W B b σ M P s) => meaningOf_any x HF.out h)
      unfold Tv.val at *
      clear H hx hi hm
      (have t1 := ta_var_word; have t2 := ta_word_word; have t3 := ta_mac_word; go_enter Tryz.func146, Tryz.ntmps146; go_wp2_with fail; refine (CN.out _).mono ?_; rintro e w1 ⟨rfl, hb⟩; obtain ⟨⟨x0, x1, x2, x3, x4, x5⟩, -, xl⟩ := blk6 ((hb.block w.heap.size (by simp)).trans (heap_alloc_new w (.cells #[.int .i64 x.k, .string x.t, .int .i64 x.p, .int .i64 x.q, .int .i64 x.a, .int .i64 x.c] 41))); have B1 := Lib.hid (((Below.refl w.heap.size w).alloc (Nat.le_refl _) (.cells #[.int .i64 x.k, .string x.t, .int .i64 x.p, .int .i64 x.q, .int .i64 x.a, .int .i64 x.c] 41)).trans (hb.mono (by simp))); have HH := Lib.hid ((HA.out.alloc (.cells #[.int .i64 x.k, .string x.t, .int .i64 x.p, .int .i64 x.q, .int .i64 x.a, .int .i64 x.c] 41)).below hb); clear hb; go_wp2_with fail)
      refine (CM.out _ HH.out).mono ?_; rintro e w2 ⟨v, rfl, hv, hb⟩
      rw [HM.out] at hv
      obtain ⟨rfl, -⟩ : v = _ ∧ _ := hv
      go_wp2_with fail
      go_ret
      exact ⟨by rw [HR.out]; rfl, B1.out.trans (hb.mono B1.out.size)⟩
    | mac m =>
      have HR : Hid (meansW s x z = false) := by show _ = _; simp [meansW, hm, isWord]
      have HM := Lib.hid hm
      have CM := Lib.hid (fun W (h : Holds W B b σ M P s) => meaningOf_any x HF.out h)
      unfold Tv.val at *
      clear H hx hi hm
      (have t1 := ta_var_word; have t2 := ta_word_word; have t3 := ta_mac_word; go_enter Tryz.func146, Tryz.ntmps146; go_wp2_with fail; refine (CN.out _).mono ?_; rintro e w1 ⟨rfl, hb⟩; obtain ⟨⟨x0, x1, x2, x3, x4, x5⟩, -, xl⟩ := blk6 ((hb.block w.heap.size (by simp)).trans (heap_alloc_new w (.cells #[.int .i64 x.k, .string x.t, .int .i64 x.p, .int .i64 x.q, .int .i64 x.a, .int .i64 x.c] 41))); have B1 := Lib.hid (((Below.refl w.heap.size w).alloc (Nat.le_refl _) (.cells #[.int .i64 x.k, .string x.t, .int .i64 x.p, .int .i64 x.q, .int .i64 x.a, .int .i64 x.c] 41)).trans (hb.mono (by simp))); have HH := Lib.hid ((HA.out.alloc (.cells #[.int .i64 x.k, .string x.t, .int .i64 x.p, .int .i64 x.q, .int .i64 x.a, .int .i64 x.c] 41)).below hb); clear hb; go_wp2_with fail)
      refine (CM.out _ HH.out).mono ?_; rintro e w2 ⟨v, rfl, hv, hb⟩
      rw [HM.out] at hv
      obtain ⟨k, rfl, -⟩ := hv
      go_wp2_with fail
      go_ret
      exact ⟨by rw [HR.out]; rfl, B1.out.trans (hb.mono B1.out.size)⟩
end Mx
end Go.Proofs.YtnhcjgnohnedaaaGreatDoor

namespace Go.Proofs.YtnhcjgnohnedaaaGreatDoor
open Go.RowKit

/-- An append as a step of a region that draws its order. -/
theorem step_own {P : Program} {ops : Array Oper} {o : Oper} {a : Act} {w : World} {K : Act → World → Prop} {Q : Exit → Act → World → Prop} {E : Prop} (hgd : o.guard = none) (s x : Operand) (t : TypeId)
    (ho : o.op = .call { callee := .builtin .append, args := #[s, x], argTypes := #[t, t] }) (base : Nat) (e : TypeId) (i : TypeInfo) (z : Value) (size bytes : Nat) (ht : P.underlying t = some (.slice e)) (hi : P.info? e = some i) (hz : i.zero = some z)
    (hsize : i.size = size) (hby : i.bytes = bytes) (hzs : z.cells.size = size) (hsz : 0 < size) (v : Value) (n : Nat) (xs : List Value) (hs : a.eval s = v) (hown : w.ownsRow base e size v n xs)
    (ad : Addr) (m c : Nat) (news : List Value) (hx : a.eval x = .slice (some ad) m c) (hl : news.length = m * size) (hnews : ∀ j u, news[j]? = some u → w.cell? (ad.add j) = some u) (h1 : ∀ u ∈ news, u.oneCell' = true)
    (h63 : n + m ≤ maxLen) (hbytes : (n + m) * bytes ≤ 140737488355328) (hbase : base ≤ w.heap.size)
    (hK : ∀ v' w', w'.ownsRow base e size v' (n + m) (xs ++ news) → w.grownBy w' v.ownBlock → (v'.ownBlock = v.ownBlock ∨ v'.ownBlock = some w.heap.size) → K (a.put o.dst v') w') :
    if Region.wanted o (yielded ops a.tmps) = true then Oper.wp P o a w K Q else E := by
  have hw : Region.wanted o (yielded ops a.tmps) = true := by simp [Region.wanted, hgd]
  rw [if_pos hw]
  obtain ⟨v', w', hr, h2, h3, -, h5⟩ := run_append_own_at (P := P) w base t o.type e i z size bytes ht hi hz hsize hby hzs hsz v n xs hown ad m c news hl hnews h1 h63 hbytes hbase
  unfold Oper.wp execOp
  simp only [ho, resolve, invoke, builtin, Sem.run_bind, Sem.run_pure, Result.andThen_ok, List.map_toArray, List.map_cons, List.map_nil, hs, hx, hr]
  exact hK v' w' h2 h3 h5
/-- The cells of a new block, one by one. -/
theorem new_cells {w : World} {g : Nat} {cs : List Value} {t : TypeId} {f : Nat × Nat} (h : w.heap[g]? = some (.cells cs.toArray t f)) : ∀ j u, cs[j]? = some u → w.cell? ((⟨g, 0, none⟩ : Addr).add j) = some u := fun j u hj => by
  have hadd : (⟨g, 0, none⟩ : Addr).add j = ⟨g, j, none⟩ := by unfold Addr.add; split <;> simp_all
  rw [hadd, cell_of_row _ _ j _ _ _ h]
  simpa using hj
namespace Mx
theorem put_full {s : St} {t : Tv} {k : Int} {z : ByteArray} (h : s.out.length = 20000) : put t k z s = .bad (failAt 3 t) := by simp [put, h]
theorem put_ok {s : St} {t : Tv} {k : Int} {z : ByteArray} (h : ¬ s.out.length = 20000) : put t k z s = .ok () { s with out := s.out ++ [{ t with k := k, t := z }] } := by simp [put, h]
theorem vo_ne {w : World} {B : Nat} {v : Value} {l : List Tv} (h : TokOwn w B v l) {g : Nat} {c : Array Value} {t : TypeId} {f : Nat × Nat} (hg : w.heap[g]? = some (.cells c t f)) (ht : t ≠ 41) : v.ownBlock ≠ some g := fun e => row_ne h hg (fun h => ht h.symm) g e rfl
theorem put_fin {w W w1 : World} {B b σ : Nat} {M P : Nat → Prop} {s : St} {y : Lay} {x : Tv} {k : Int} {z : ByteArray} {A : Option Addr} {c g1 cap1 N0 : Nat} (hN0 : N0 = s.out.length) (H : Holds w B b σ M P s) (Pt : Parts w B b σ M (uni M P) y s) (hvo : y.vo = .slice A s.out.length c) (hnf : ¬ s.out.length = 20000) (hW : Below w.heap.size w W)
    (own1 : w1.ownsRow B 41 6 (.slice (some ⟨g1, 0, none⟩) (N0 + 1) cap1) (N0 + 1) (rowV s.out ++ [.int .i64 k, .string z, .int .i64 x.p, .int .i64 x.q, .int .i64 x.a, .int .i64 x.c]))
    (gr1 : W.grownBy w1 (Value.slice A N0 c).ownBlock) (loc1 : some g1 = (Value.slice A N0 c).ownBlock ∨ some g1 = some W.heap.size) (hR : put x k z s = .ok () { s with out := s.out ++ [{ x with k := k, t := z }] }) :
    Ends B b σ M P w (put x k z s) vUnit (.returned (.tuple #[])) (w1.setCell ⟨b, 12, none⟩ (.slice (some ⟨g1, 0, none⟩) (N0 + 1) cap1)) := by
  subst hN0
  rw [← hvo] at gr1 loc1
  let N : Nat → Prop := fun k => k = b ∨ y.vo.ownBlock = some k
  let M' : Nat → Prop := fun k => M k ∨ k = g1
  have hbM := H.hb
  have hN : ∀ k, N k → M k := fun k hk => by rcases hk with hk | hk; rw [hk]; exact hbM; exact Pt.out.2 k hk
  have t1 : Turns N w w1 := (Turns.of_below hW N).then ((Turns.of_grown gr1 ((notExp_row Pt.out.1 (by decide)).below hW (fun k hk => (World.ownsRow.lt Pt.out.1 k hk).2))).mono (fun k h => Or.inr h))
  have t2 : Turns N w (w1.setCell ⟨b, 12, none⟩ (.slice (some ⟨g1, 0, none⟩) (s.out.length + 1) cap1)) := t1.then (Turns.setCell (M := N) w1 (p := ⟨b, 12, none⟩) (Or.inl rfl) _)
  have hsz : (w1.setCell ⟨b, 12, none⟩ (.slice (some ⟨g1, 0, none⟩) (s.out.length + 1) cap1)).heap.size = w1.heap.size := by simp [World.setCell]
  have hg1 := own1.lt g1 rfl
  have hgM : M g1 ∨ w.heap.size ≤ g1 := by
    rcases loc1 with h | h
    · exact Or.inl (Pt.out.2 g1 h.symm)
    · injection h with h; exact Or.inr (by rw [h]; exact hW.size)
  have hG : Grows w M M' := fun k hk => by rcases hk with hk | hk; exact Or.inl hk; rw [hk]; exact hgM
  have hGX : Grows w (uni M P) (uni M' P) := fun k hk => by
    rcases hk with hk | hk
    · rcases hG k hk with h | h
      · exact Or.inl (Or.inl h)
      · exact Or.inr h
    · exact Or.inl (Or.inr hk)
  have hNX : ∀ k, N k → uni M P k := fun k hk => Or.inl (hN k hk)
  have hMM : ∀ k, M k → M' k := fun k hk => Or.inl hk
  have hbw : w1.heap[b]? = w.heap[b]? := by
    have t0 : Turns (fun k => y.vo.ownBlock = some k) w w1 := (Turns.of_below hW _).then ((Turns.of_grown gr1 ((notExp_row Pt.out.1 (by decide)).below hW (fun k hk => (World.ownsRow.lt Pt.out.1 k hk).2))))
    exact t0.block b (H.low b hbM).2 (vo_ne Pt.out.1 Pt.cells (by decide))
  have hgb : g1 ≠ b := fun e => by
    obtain ⟨cur, hcur⟩ := row_ty own1 (k := g1) rfl
    have := hbw.trans Pt.cells
    rw [← e, hcur] at this
    injection this with this
    injection this with _ h2
    exact absurd h2 (by decide)
  have nb : ∀ k, k ≠ b → y.vo.ownBlock ≠ some k → ¬ N k := fun k h1 h2 h => by rcases h with h | h; exact h1 h; exact h2 h
  refine ends_ok hR hG (t2.mono hN) rfl ?_
  have hbl := Pt.pmap
  refine Holds.mk' (y := { y with vo := .slice (some ⟨g1, 0, none⟩) (s.out.length + 1) cap1 }) (H.env.turn (t2.below (fun k hk => (H.low k (hN k hk)).1) H.Bs)) (fun k hk => ?_) (fun k hk => ⟨(H.lowP k hk).1, Nat.lt_of_lt_of_le (H.lowP k hk).2.1 t2.size, fun hm => ?_⟩) (hMM b hbM) (Nat.le_trans H.Bs t2.size)
    (heap_set w1 b 12 _ _ _ (hbw.trans Pt.cells)) (Parts.turn_rest Pt.rest (t2.mono hNX) hGX)
    (list_keep Pt.lists t2 hNX hGX hMM (fun k hk => nb k (row_ne Pt.lists.choose_spec.1 Pt.cells (by decide) k hk) (by obtain ⟨cur, hc⟩ := row_ty Pt.lists.choose_spec.1 hk; exact vo_ne Pt.out.1 hc (by decide)))) ?_ ?_ ?_
    (grp_keep Pt.groups t2 hNX hGX hMM (fun k hk => nb k (row_ne Pt.groups.choose_spec.1 Pt.cells (by decide) k hk) (by obtain ⟨cur, hc⟩ := row_ty Pt.groups.choose_spec.1 hk; exact vo_ne Pt.out.1 hc (by decide))) (fun k cur _ hcur => nb k (ty_ne hcur Pt.cells (by decide)) (vo_ne Pt.out.1 hcur (by decide)))) H.lastf H.b1 ?_ H.b3 H.b4 H.b5
  · rcases hk with hk | hk
    · exact ⟨(H.low k hk).1, Nat.lt_of_lt_of_le (H.low k hk).2 t2.size⟩
    · rw [hk, hsz]; exact hg1
  · rcases hm with hm | hm
    · exact (H.lowP k hk).2.2 hm
    · rcases hgM with h | h
      · exact (H.lowP k hk).2.2 (hm ▸ h)
      · have := (H.lowP k hk).2.1; omega
  · refine ⟨?_, fun k hk => Or.inr (by simp [Value.ownBlock] at hk; exact hk.symm)⟩
    have : TokOwn w1 B (.slice (some ⟨g1, 0, none⟩) (s.out.length + 1) cap1) (s.out ++ [{ x with k := k, t := z }]) := by
      unfold TokOwn
      rw [List.length_append, show rowV (s.out ++ [{ x with k := k, t := z }]) = rowV s.out ++ [.int .i64 k, .string z, .int .i64 x.p, .int .i64 x.q, .int .i64 x.a, .int .i64 x.c] by simp [rowV, Tv.cells]]
      exact own1
    exact TokOwn.keep this (fun k hk => by simp [Value.ownBlock] at hk; subst hk; exact Below.heap_setCell w1 ⟨b, 12, none⟩ _ g1 hgb)
  · obtain ⟨hm, n, hmap, hn⟩ := hbl.1
    obtain ⟨D, hD, hsp⟩ := hmap.ex
    obtain ⟨es, clock, hes, hrest⟩ := hD
    exact map_keep ⟨hm, n, hmap, hn⟩ t2 hNX hGX hMM (nb _ (fun e => by rw [e, Pt.cells] at hes; cases hes) (fun e => by obtain ⟨cur, hc⟩ := row_ty Pt.out.1 e; rw [hc] at hes; cases hes))
  · exact hbl.2
  · show (s.out ++ [_]).length ≤ 20000; rw [List.length_append]; have := H.b2; simp; omega
set_option maxRecDepth 100000 in
set_option maxHeartbeats 8000000 in
theorem put_any {w : World} {B b σ : Nat} {M P : Nat → Prop} {s : St} (x : Tv) (k : Int) (z : ByteArray) (hx : x.fit) (H : Holds w B b σ M P s) :
    Calls Tryz.prog 56 #[.pointer (some ⟨b, 0, none⟩), x.val, .int .i64 k, .string z] w (Ends B b σ M P w (put x k z s) vUnit) := by
  have HA := H.alloc (.cells #[.int .i64 x.k, .string x.t, .int .i64 x.p, .int .i64 x.q, .int .i64 x.a, .int .i64 x.c] 41)
  have hsz := H.Bs
  obtain ⟨y, Pt⟩ := H.parts
  obtain ⟨A, c, hvo, hsl⟩ := Pt.out.1.sl
  obtain ⟨-, -, -, -, -, -, -, -, -, -, -, -, c12, fr, hlt⟩ := ecells Pt.cells
  have f12 := fr 12
  have hob : ∀ k, y.vo.ownBlock = some k → k ≠ b := row_ne Pt.out.1 Pt.cells (by decide)
  have b2 := H.b2
  by_cases hfull : s.out.length = 20000
  · have e1 : ((s.out.length : Int) == 20000) = true := by simp; omega
    have HR := Lib.hid (put_full (k := k) (z := z) (t := x) hfull)
    have HE := Lib.hid HA.env'
    have HF := Lib.hid hx
    rw [hvo] at c12
    generalize s.out.length = n at *
    unfold Tv.val
    clear H HA Pt hfull hob hsl fr hx
    go_enter Tryz.func56, Tryz.ntmps56
    go_wp2_with fail
    refine (fail_any 3 x _ _ HE.out HF.out rfl).mono ?_; rintro e w1 ⟨rfl, hb⟩
    exact ⟨rfl, ends_bad HR.out ((Turns.alloc M w (.cells #[.int .i64 x.k, .string x.t, .int .i64 x.p, .int .i64 x.q, .int .i64 x.a, .int .i64 x.c] 41)).then (Turns.of_below hb _)) rfl⟩
  · have e1 : ((s.out.length : Int) == 20000) = false := by simp; omega
    have HR := Lib.hid (put_ok (k := k) (z := z) (t := x) hfull)
    have HO := Lib.hid Pt.out.1
    have HH := Lib.hid H
    have HP := Lib.hid Pt
    have HB := Lib.hid hob
    have hn : s.out.length < 20000 := by omega
    have HVO := Lib.hid hvo
    rw [hvo] at c12
    obtain ⟨N, hN⟩ : ∃ N, N = s.out.length := ⟨_, rfl⟩
    rw [← hN] at c12 e1 hn
    have HN := Lib.hid hN
    have HNF := Lib.hid hfull
    have HS : Hid (w.ownsRow B 41 6 (.slice A N c) N (rowV s.out)) := by
      have h2 : w.ownsRow B 41 6 y.vo s.out.length (rowV s.out) := HO.out
      rw [HVO.out, ← hN] at h2; exact h2
    have HNB : Hid (some b ≠ (Value.slice A N c).ownBlock) := fun e => HB.out b (by rw [HVO.out]; cases A <;> simp [Value.ownBlock] at e ⊢; exact e.symm) rfl
    have HONE : Hid (∀ u ∈ ([.int .i64 k, .string z, .int .i64 x.p, .int .i64 x.q, .int .i64 x.a, .int .i64 x.c] : List Value), u.oneCell' = true) := by
      intro u hu; simp at hu; rcases hu with rfl | rfl | rfl | rfl | rfl | rfl <;> rfl
    obtain ⟨i0, hi, hz0, hz1, hz2⟩ := info_parts info_tok
    unfold Tv.val
    clear H HA Pt hfull hob hsl fr hx b2 hvo hN
    go_enter Tryz.func56, Tryz.ntmps56
    go_wp2_with fail
    go_region_law (refine step_own rfl (.tmp 24) (.tmp 26) 22 rfl B 41 i0 (.agg #[.int .i64 0, .string ⟨#[]⟩, .int .i64 0, .int .i64 0, .int .i64 0, .int .i64 0]) 6 56 Tryz.underlying22 hi hz0 hz1 hz2 rfl (by decide) (.slice A N c) N (rowV s.out) (by simp [Act.eval]) ((HS.out.alloc _).alloc _) ⟨w.heap.size + 1, 0, none⟩ 1 1 [.int .i64 k, .string z, .int .i64 x.p, .int .i64 x.q, .int .i64 x.a, .int .i64 x.c] (by simp [Act.eval]) rfl (new_cells (blk_new2 w _ _)) HONE.out (by unfold maxLen; omega) (by omega) (by simp; omega) ?_; intro v1 w1 own1 gr1 loc1; obtain ⟨g1, cap1, rfl, -, -, -⟩ := row_some own1; have hW : w1.heap[b]? = w.heap[b]? := (gr1.block b (by simp; omega) HNB.out).trans ((Below.heap_alloc _ _ b (by simp; omega)).trans (Below.heap_alloc _ _ b hlt)); have e12 := (World.cell?_of_block (a := ⟨b, 12, none⟩) hW).trans c12; have g12 := (World.frozen?_of_block (a := ⟨b, 12, none⟩) hW).trans f12)
    all_goals (go_end0; exact put_fin HN.out HH.out HP.out HVO.out HNF.out ((((Below.refl _ _).alloc (Nat.le_refl _) _).alloc (by simp) _).drew) own1 gr1 loc1 HR.out)
end Mx
end Go.Proofs.YtnhcjgnohnedaaaGreatDoor
