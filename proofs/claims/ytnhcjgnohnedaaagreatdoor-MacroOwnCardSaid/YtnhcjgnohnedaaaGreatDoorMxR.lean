/-
  Contracts of package macro: brackets.
-/
import Derived.Test.YtnhcjgnohnedaaaGreatDoorMxQ
import Derived.BigQuiet
import Derived.Maps.AppendAt
import Derived.WalkSmall
namespace Go.Proofs.YtnhcjgnohnedaaaGreatDoor
open Go.RowKit

namespace Mx
/-- The brackets that are open, in a row of the caller's own: the last one is the list's first. -/
def Opens (w : World) (B : Nat) (v : Value) (op : List ByteArray) : Prop := w.ownsRow B 9 1 v op.length (op.reverse.map Value.string)
def EndsB (w : World) (B : Nat) (v : Value) (x : Tv) (r : Option (List ByteArray)) (e : Ending) (w' : World) : Prop :=
  match r with
  | none => e = .panicked (failAt 11 x).chain ∧ Below w.heap.size w w'
  | some op' => ∃ v', e = .returned v' ∧ Opens w' B v' op' ∧ w.grownBy w' v.ownBlock ∧ (v'.ownBlock = v.ownBlock ∨ v'.ownBlock = none ∨ ∃ k, v'.ownBlock = some k ∧ w.heap.size ≤ k)
theorem lit_tt {t : ByteArray} {l : List UInt8} (h : t = str l) : (t.toList == l) = true := by
  rw [h, beq_iff_eq, Lib.toList_data]; rfl
theorem lit_ff {t : ByteArray} {l : List UInt8} (h : ¬ t = str l) : (t.toList == l) = false := by
  rw [beq_eq_false_iff_ne]; intro e; apply h; rw [Lib.toList_data] at e; rw [ba_list t, e]; rfl
theorem info_str : (Tryz.prog.info? 9).map (fun i => (i.zero, i.size, i.bytes)) = some (some (.string ⟨#[]⟩), 1, 16) := by kernel_rfl
theorem below_drewN {B : Nat} {a w : World} (h : Below B a w) (n : Nat) : Below B a (w.drewN n) := ⟨h.os, h.tape, h.output, h.size, h.block⟩
theorem Opens.push {w : World} {B : Nat} {v : Value} {op : List ByteArray} {z : ByteArray} (h : w.ownsRow B 9 1 v (op.length + 1) ((op.map Value.string).reverse ++ [.string z])) : Opens w B v (z :: op) := by
  unfold Opens
  rw [List.reverse_cons, List.map_append, List.length_cons, List.map_reverse]
  exact h
set_option maxRecDepth 100000 in
set_option maxHeartbeats 4000000 in
theorem brk_other {w : World} {B : Nat} {v : Value} {op : List ByteArray} (x : Tv) (H : Opens w B v op) (h1 : ¬ x.t = str [40]) (h2 : ¬ x.t = str [91]) (h3 : ¬ x.t = str [123]) (h4 : ¬ x.t = str [41]) (h5 : ¬ x.t = str [93]) (h6 : ¬ x.t = str [125]) :
    Calls Tryz.prog 125 #[v, x.val] w (EndsB w B v x (some op)) := by
  have q1 := lit_ff h1
  have q2 := lit_ff h2
  have q3 := lit_ff h3
  have q4 := lit_ff h4
  have q5 := lit_ff h5
  have q6 := lit_ff h6
  have HO := Lib.hid H
  unfold Tv.val
  clear H h1 h2 h3 h4 h5 h6
  go_enter Tryz.func125, Tryz.ntmps125
  go_wp2_with fail
  go_ret
  exact ⟨v, rfl, HO.out.alloc _, World.grownBy_alloc _ _ _, Or.inl rfl⟩
set_option maxRecDepth 100000 in
set_option maxHeartbeats 4000000 in
theorem brk_40 {w : World} {B : Nat} {v : Value} {op : List ByteArray} (x : Tv) (H : Opens w B v op) (hB : B ≤ w.heap.size) (hl : op.length ≤ 1000000) (h1 : x.t = str [40]) :
    Calls Tryz.prog 125 #[v, x.val] w (EndsB w B v x (some (str [41] :: op))) := by
  have q1 := lit_tt h1
  have HO := Lib.hid ((H.alloc (.cells #[.int .i64 x.k, .string x.t, .int .i64 x.p, .int .i64 x.q, .int .i64 x.a, .int .i64 x.c] 41)).alloc (.cells #[.string (str [41])] 9))
  obtain ⟨i0, hi, hz0, hz1, hz2⟩ := info_parts info_str
  have hlen := hl
  unfold Tv.val
  clear H h1
  go_enter Tryz.func125, Tryz.ntmps125
  go_wp2_with (at_builtin; refine wpList_append_own_at _ rfl _ _ 30 rfl B 9 i0 (.string ⟨#[]⟩) 1 16 Tryz.underlying30 hi hz0 hz1 hz2 rfl (by decide) _ _ _ rfl HO.out ⟨w.heap.size + 1, 0, none⟩ 1 1 [.string (str [41])] rfl rfl ?c1 ?c2 ?c3 ?c4 ?c5 ?_)
  case c1 => exact new_cells (blk_new2 w _ _)
  case c2 => intro u hu; rw [List.mem_singleton] at hu; subst hu; rfl
  case c3 => unfold maxLen; omega
  case c4 => omega
  case c5 => simp; omega
  intro v1 w1 own1 gr1 _ loc1
  go_wp2_with fail
  go_ret
  refine ⟨v1, rfl, Opens.push own1, grown_trans (grown_of (((Below.refl _ _).alloc (Nat.le_refl _) _).alloc (by simp) _) _) gr1, ?_⟩
  rcases loc1 with h | h
  · exact Or.inl h
  · exact Or.inr (Or.inr ⟨_, h, by first | omega | (simp; omega)⟩)
set_option maxRecDepth 100000 in
set_option maxHeartbeats 4000000 in
theorem brk_91 {w : World} {B : Nat} {v : Value} {op : List ByteArray} (x : Tv) (H : Opens w B v op) (hB : B ≤ w.heap.size) (hl : op.length ≤ 1000000) (n40 : ¬ x.t = str [40]) (h1 : x.t = str [91]) :
    Calls Tryz.prog 125 #[v, x.val] w (EndsB w B v x (some (str [93] :: op))) := by
  have q1 := lit_tt h1
  have m40 := lit_ff n40
  have HO := Lib.hid ((H.alloc (.cells #[.int .i64 x.k, .string x.t, .int .i64 x.p, .int .i64 x.q, .int .i64 x.a, .int .i64 x.c] 41)).alloc (.cells #[.string (str [93])] 9))
  obtain ⟨i0, hi, hz0, hz1, hz2⟩ := info_parts info_str
  have hlen := hl
  unfold Tv.val
  clear H h1 n40
  go_enter Tryz.func125, Tryz.ntmps125
  go_wp2_with (at_builtin; refine wpList_append_own_at _ rfl _ _ 30 rfl B 9 i0 (.string ⟨#[]⟩) 1 16 Tryz.underlying30 hi hz0 hz1 hz2 rfl (by decide) _ _ _ rfl HO.out ⟨w.heap.size + 1, 0, none⟩ 1 1 [.string (str [93])] rfl rfl ?c1 ?c2 ?c3 ?c4 ?c5 ?_)
  case c1 => exact new_cells (blk_new2 w _ _)
  case c2 => intro u hu; rw [List.mem_singleton] at hu; subst hu; rfl
  case c3 => unfold maxLen; omega
  case c4 => omega
  case c5 => simp; omega
  intro v1 w1 own1 gr1 _ loc1
  go_wp2_with fail
  go_ret
  refine ⟨v1, rfl, Opens.push own1, grown_trans (grown_of (((Below.refl _ _).alloc (Nat.le_refl _) _).alloc (by simp) _) _) gr1, ?_⟩
  rcases loc1 with h | h
  · exact Or.inl h
  · exact Or.inr (Or.inr ⟨_, h, by first | omega | (simp; omega)⟩)
set_option maxRecDepth 100000 in
set_option maxHeartbeats 4000000 in
theorem brk_123 {w : World} {B : Nat} {v : Value} {op : List ByteArray} (x : Tv) (H : Opens w B v op) (hB : B ≤ w.heap.size) (hl : op.length ≤ 1000000) (n40 : ¬ x.t = str [40]) (n91 : ¬ x.t = str [91]) (h1 : x.t = str [123]) :
    Calls Tryz.prog 125 #[v, x.val] w (EndsB w B v x (some (str [125] :: op))) := by
  have q1 := lit_tt h1
  have m40 := lit_ff n40
  have m91 := lit_ff n91
  have HO := Lib.hid ((H.alloc (.cells #[.int .i64 x.k, .string x.t, .int .i64 x.p, .int .i64 x.q, .int .i64 x.a, .int .i64 x.c] 41)).alloc (.cells #[.string (str [125])] 9))
  obtain ⟨i0, hi, hz0, hz1, hz2⟩ := info_parts info_str
  have hlen := hl
  unfold Tv.val
  clear H h1 n40 n91
  go_enter Tryz.func125, Tryz.ntmps125
  go_wp2_with (at_builtin; refine wpList_append_own_at _ rfl _ _ 30 rfl B 9 i0 (.string ⟨#[]⟩) 1 16 Tryz.underlying30 hi hz0 hz1 hz2 rfl (by decide) _ _ _ rfl HO.out ⟨w.heap.size + 1, 0, none⟩ 1 1 [.string (str [125])] rfl rfl ?c1 ?c2 ?c3 ?c4 ?c5 ?_)
  case c1 => exact new_cells (blk_new2 w _ _)
  case c2 => intro u hu; rw [List.mem_singleton] at hu; subst hu; rfl
  case c3 => unfold maxLen; omega
  case c4 => omega
  case c5 => simp; omega
  intro v1 w1 own1 gr1 _ loc1
  go_wp2_with fail
  go_ret
  refine ⟨v1, rfl, Opens.push own1, grown_trans (grown_of (((Below.refl _ _).alloc (Nat.le_refl _) _).alloc (by simp) _) _) gr1, ?_⟩
  rcases loc1 with h | h
  · exact Or.inl h
  · exact Or.inr (Or.inr ⟨_, h, by first | omega | (simp; omega)⟩)
set_option maxRecDepth 100000 in
set_option maxHeartbeats 4000000 in
theorem brk_none_41 {w : World} {B : Nat} {v : Value} (x : Tv) (he : EnvL w) (hx : x.fit) (H : Opens w B v []) (h1 : x.t = str [41]) :
    Calls Tryz.prog 125 #[v, x.val] w (EndsB w B v x none) := by
  have m40 := lit_ff (t := x.t) (l := [40]) (by rw [h1]; decide)
  have m91 := lit_ff (t := x.t) (l := [91]) (by rw [h1]; decide)
  have m123 := lit_ff (t := x.t) (l := [123]) (by rw [h1]; decide)
  have q1 := lit_tt h1
  obtain ⟨A, d, rfl⟩ := row_nil H
  have HE := Lib.hid (fun nq => he.below (below_drewN ((Below.refl w.heap.size w).alloc (Nat.le_refl _) (.cells #[.int .i64 x.k, .string x.t, .int .i64 x.p, .int .i64 x.q, .int .i64 x.a, .int .i64 x.c] 41)) nq))
  have HX := Lib.hid hx
  unfold Tv.val
  clear H h1 he hx
  go_enter Tryz.func125, Tryz.ntmps125
  go_wp2_with fail
  go_quiet (fail)
  go_wp2_with fail
  refine (fail_any 11 x _ _ (HE.out _) HX.out rfl).mono ?_; rintro e w2 ⟨rfl, hb⟩
  exact ⟨rfl, rfl, (below_drewN ((Below.refl w.heap.size w).alloc (Nat.le_refl _) _) _).trans (hb.mono (by simp))⟩
set_option maxRecDepth 100000 in
set_option maxHeartbeats 4000000 in
theorem brk_ok_41 {w : World} {B : Nat} {v : Value} {op : List ByteArray} (x : Tv) (H : Opens w B v (x.t :: op)) (hl : op.length ≤ 1000000) (h1 : x.t = str [41]) :
    Calls Tryz.prog 125 #[v, x.val] w (EndsB w B v x (some op)) := by
  have m40 := lit_ff (t := x.t) (l := [40]) (by rw [h1]; decide)
  have m91 := lit_ff (t := x.t) (l := [91]) (by rw [h1]; decide)
  have m123 := lit_ff (t := x.t) (l := [123]) (by rw [h1]; decide)
  have q1 := lit_tt h1
  unfold Opens at H
  rw [List.length_cons, List.reverse_cons, List.map_append, List.map_cons, List.map_nil] at H
  obtain ⟨g, cap, rfl, hcap, hg, -⟩ := row_some H
  have hcell : w.cell? ⟨g, op.length, none⟩ = some (.string x.t) := by
    have h2 : w.cell? ⟨g, op.length, none⟩ = (op.reverse.map Value.string ++ [.string x.t])[op.length]? := World.ownsRow.cellAt H op.length (by simp)
    rw [h2, List.getElem?_append_right (by simp)]; simp
  have HO : Hid (Opens w B (.slice (some ⟨g, 0, none⟩) op.length cap) op) := ownsRow_pop (by simp) H
  have HG := Lib.hid (fun nq => grown_of (below_drewN ((Below.refl w.heap.size w).alloc (Nat.le_refl _) (.cells #[.int .i64 x.k, .string x.t, .int .i64 x.p, .int .i64 x.q, .int .i64 x.a, .int .i64 x.c] 41)) nq) (some g))
  have HK : Hid (∀ nq, Opens ((w.alloc (.cells #[.int .i64 x.k, .string x.t, .int .i64 x.p, .int .i64 x.q, .int .i64 x.a, .int .i64 x.c] 41)).drewN nq) B (.slice (some ⟨g, 0, none⟩) op.length cap) op) := fun nq => (show (w.alloc (.cells #[.int .i64 x.k, .string x.t, .int .i64 x.p, .int .i64 x.q, .int .i64 x.a, .int .i64 x.c] 41)).ownsRow B 9 1 _ _ _ from HO.out.alloc _)
  obtain ⟨n, hn⟩ : ∃ n, n = op.length := ⟨_, rfl⟩
  rw [← hn] at hcell hcap hl HK ⊢
  have hnw := wrap_small hl
  have hd : decide ((n : Int) < 0) = false := by rw [decide_eq_false_iff_not]; omega
  have hnt : ((n : Int)).toNat = n := Int.toNat_natCast n
  have hn0 : (0 : Int) ≤ (n : Int) := Int.natCast_nonneg n
  have hn1 : (n : Int) < (n : Int) + 1 := Int.lt_succ _
  unfold Tv.val
  clear H h1 hn HO
  go_enter Tryz.func125, Tryz.ntmps125
  go_wp2_with fail
  go_quiet (fail)
  go_wp2_with fail
  go_ret
  exact ⟨_, rfl, HK.out _, HG.out _, Or.inl rfl⟩
set_option maxRecDepth 100000 in
set_option maxHeartbeats 4000000 in
theorem brk_bad_41 {w : World} {B : Nat} {v : Value} {op : List ByteArray} {y : ByteArray} (x : Tv) (he : EnvL w) (hx : x.fit) (H : Opens w B v (y :: op)) (hl : op.length ≤ 1000000) (h1 : x.t = str [41]) (hne : ¬ y = x.t) :
    Calls Tryz.prog 125 #[v, x.val] w (EndsB w B v x none) := by
  have m40 := lit_ff (t := x.t) (l := [40]) (by rw [h1]; decide)
  have m91 := lit_ff (t := x.t) (l := [91]) (by rw [h1]; decide)
  have m123 := lit_ff (t := x.t) (l := [123]) (by rw [h1]; decide)
  have q1 := lit_tt h1
  unfold Opens at H
  rw [List.length_cons, List.reverse_cons, List.map_append, List.map_cons, List.map_nil] at H
  obtain ⟨g, cap, rfl, hcap, hg, -⟩ := row_some H
  have hcell : w.cell? ⟨g, op.length, none⟩ = some (.string y) := by
    have h2 : w.cell? ⟨g, op.length, none⟩ = (op.reverse.map Value.string ++ [.string y])[op.length]? := World.ownsRow.cellAt H op.length (by simp)
    rw [h2, List.getElem?_append_right (by simp)]; simp
  have HE := Lib.hid (fun nq => he.below (below_drewN ((Below.refl w.heap.size w).alloc (Nat.le_refl _) (.cells #[.int .i64 x.k, .string x.t, .int .i64 x.p, .int .i64 x.q, .int .i64 x.a, .int .i64 x.c] 41)) nq))
  have HX := Lib.hid hx
  have hyx3 : (y.toList == x.t.toList) = false := by rw [beq_eq_false_iff_ne, Lib.toList_data, Lib.toList_data]; intro e; exact hne (by rw [ba_list y, ba_list x.t, e])
  have hyx4 : (x.t.toList == y.toList) = false := by rw [beq_eq_false_iff_ne] at hyx3 ⊢; exact fun e => hyx3 e.symm
  have hyx5 : decide (y = x.t) = false := by rw [decide_eq_false_iff_not]; exact hne
  have hyx := lit_ff (t := y) (l := [41]) (by rw [← h1]; exact hne)
  obtain ⟨n, hn⟩ : ∃ n, n = op.length := ⟨_, rfl⟩
  rw [← hn] at hcell hcap hl ⊢
  have hnw := wrap_small hl
  have hd : decide ((n : Int) < 0) = false := by rw [decide_eq_false_iff_not]; omega
  have hnt : ((n : Int)).toNat = n := Int.toNat_natCast n
  have hn0 : (0 : Int) ≤ (n : Int) := Int.natCast_nonneg n
  have hn1 : (n : Int) < (n : Int) + 1 := Int.lt_succ _
  unfold Tv.val
  clear H h1 hn he hx hne
  go_enter Tryz.func125, Tryz.ntmps125
  go_wp2_with fail
  go_quiet (fail)
  go_wp2_with fail
  refine (fail_any 11 x _ _ (HE.out _) HX.out rfl).mono ?_; rintro e w2 ⟨rfl, hb⟩
  exact ⟨rfl, rfl, (below_drewN ((Below.refl w.heap.size w).alloc (Nat.le_refl _) _) _).trans (hb.mono (by simp))⟩
set_option maxRecDepth 100000 in
set_option maxHeartbeats 4000000 in
theorem brk_none_93 {w : World} {B : Nat} {v : Value} (x : Tv) (he : EnvL w) (hx : x.fit) (H : Opens w B v []) (h1 : x.t = str [93]) :
    Calls Tryz.prog 125 #[v, x.val] w (EndsB w B v x none) := by
  have m40 := lit_ff (t := x.t) (l := [40]) (by rw [h1]; decide)
  have m91 := lit_ff (t := x.t) (l := [91]) (by rw [h1]; decide)
  have m123 := lit_ff (t := x.t) (l := [123]) (by rw [h1]; decide)
  have m41 := lit_ff (t := x.t) (l := [41]) (by rw [h1]; decide)
  have q1 := lit_tt h1
  obtain ⟨A, d, rfl⟩ := row_nil H
  have HE := Lib.hid (fun nq => he.below (below_drewN ((Below.refl w.heap.size w).alloc (Nat.le_refl _) (.cells #[.int .i64 x.k, .string x.t, .int .i64 x.p, .int .i64 x.q, .int .i64 x.a, .int .i64 x.c] 41)) nq))
  have HX := Lib.hid hx
  unfold Tv.val
  clear H h1 he hx
  go_enter Tryz.func125, Tryz.ntmps125
  go_wp2_with fail
  go_quiet (fail)
  go_wp2_with fail
  refine (fail_any 11 x _ _ (HE.out _) HX.out rfl).mono ?_; rintro e w2 ⟨rfl, hb⟩
  exact ⟨rfl, rfl, (below_drewN ((Below.refl w.heap.size w).alloc (Nat.le_refl _) _) _).trans (hb.mono (by simp))⟩
set_option maxRecDepth 100000 in
set_option maxHeartbeats 4000000 in
theorem brk_ok_93 {w : World} {B : Nat} {v : Value} {op : List ByteArray} (x : Tv) (H : Opens w B v (x.t :: op)) (hl : op.length ≤ 1000000) (h1 : x.t = str [93]) :
    Calls Tryz.prog 125 #[v, x.val] w (EndsB w B v x (some op)) := by
  have m40 := lit_ff (t := x.t) (l := [40]) (by rw [h1]; decide)
  have m91 := lit_ff (t := x.t) (l := [91]) (by rw [h1]; decide)
  have m123 := lit_ff (t := x.t) (l := [123]) (by rw [h1]; decide)
  have m41 := lit_ff (t := x.t) (l := [41]) (by rw [h1]; decide)
  have q1 := lit_tt h1
  unfold Opens at H
  rw [List.length_cons, List.reverse_cons, List.map_append, List.map_cons, List.map_nil] at H
  obtain ⟨g, cap, rfl, hcap, hg, -⟩ := row_some H
  have hcell : w.cell? ⟨g, op.length, none⟩ = some (.string x.t) := by
    have h2 : w.cell? ⟨g, op.length, none⟩ = (op.reverse.map Value.string ++ [.string x.t])[op.length]? := World.ownsRow.cellAt H op.length (by simp)
    rw [h2, List.getElem?_append_right (by simp)]; simp
  have HO : Hid (Opens w B (.slice (some ⟨g, 0, none⟩) op.length cap) op) := ownsRow_pop (by simp) H
  have HG := Lib.hid (fun nq => grown_of (below_drewN ((Below.refl w.heap.size w).alloc (Nat.le_refl _) (.cells #[.int .i64 x.k, .string x.t, .int .i64 x.p, .int .i64 x.q, .int .i64 x.a, .int .i64 x.c] 41)) nq) (some g))
  have HK : Hid (∀ nq, Opens ((w.alloc (.cells #[.int .i64 x.k, .string x.t, .int .i64 x.p, .int .i64 x.q, .int .i64 x.a, .int .i64 x.c] 41)).drewN nq) B (.slice (some ⟨g, 0, none⟩) op.length cap) op) := fun nq => (show (w.alloc (.cells #[.int .i64 x.k, .string x.t, .int .i64 x.p, .int .i64 x.q, .int .i64 x.a, .int .i64 x.c] 41)).ownsRow B 9 1 _ _ _ from HO.out.alloc _)
  obtain ⟨n, hn⟩ : ∃ n, n = op.length := ⟨_, rfl⟩
  rw [← hn] at hcell hcap hl HK ⊢
  have hnw := wrap_small hl
  have hd : decide ((n : Int) < 0) = false := by rw [decide_eq_false_iff_not]; omega
  have hnt : ((n : Int)).toNat = n := Int.toNat_natCast n
  have hn0 : (0 : Int) ≤ (n : Int) := Int.natCast_nonneg n
  have hn1 : (n : Int) < (n : Int) + 1 := Int.lt_succ _
  unfold Tv.val
  clear H h1 hn HO
  go_enter Tryz.func125, Tryz.ntmps125
  go_wp2_with fail
  go_quiet (fail)
  go_wp2_with fail
  go_ret
  exact ⟨_, rfl, HK.out _, HG.out _, Or.inl rfl⟩
set_option maxRecDepth 100000 in
set_option maxHeartbeats 4000000 in
theorem brk_bad_93 {w : World} {B : Nat} {v : Value} {op : List ByteArray} {y : ByteArray} (x : Tv) (he : EnvL w) (hx : x.fit) (H : Opens w B v (y :: op)) (hl : op.length ≤ 1000000) (h1 : x.t = str [93]) (hne : ¬ y = x.t) :
    Calls Tryz.prog 125 #[v, x.val] w (EndsB w B v x none) := by
  have m40 := lit_ff (t := x.t) (l := [40]) (by rw [h1]; decide)
  have m91 := lit_ff (t := x.t) (l := [91]) (by rw [h1]; decide)
  have m123 := lit_ff (t := x.t) (l := [123]) (by rw [h1]; decide)
  have m41 := lit_ff (t := x.t) (l := [41]) (by rw [h1]; decide)
  have q1 := lit_tt h1
  unfold Opens at H
  rw [List.length_cons, List.reverse_cons, List.map_append, List.map_cons, List.map_nil] at H
  obtain ⟨g, cap, rfl, hcap, hg, -⟩ := row_some H
  have hcell : w.cell? ⟨g, op.length, none⟩ = some (.string y) := by
    have h2 : w.cell? ⟨g, op.length, none⟩ = (op.reverse.map Value.string ++ [.string y])[op.length]? := World.ownsRow.cellAt H op.length (by simp)
    rw [h2, List.getElem?_append_right (by simp)]; simp
  have HE := Lib.hid (fun nq => he.below (below_drewN ((Below.refl w.heap.size w).alloc (Nat.le_refl _) (.cells #[.int .i64 x.k, .string x.t, .int .i64 x.p, .int .i64 x.q, .int .i64 x.a, .int .i64 x.c] 41)) nq))
  have HX := Lib.hid hx
  have hyx3 : (y.toList == x.t.toList) = false := by rw [beq_eq_false_iff_ne, Lib.toList_data, Lib.toList_data]; intro e; exact hne (by rw [ba_list y, ba_list x.t, e])
  have hyx4 : (x.t.toList == y.toList) = false := by rw [beq_eq_false_iff_ne] at hyx3 ⊢; exact fun e => hyx3 e.symm
  have hyx5 : decide (y = x.t) = false := by rw [decide_eq_false_iff_not]; exact hne
  have hyx := lit_ff (t := y) (l := [93]) (by rw [← h1]; exact hne)
  obtain ⟨n, hn⟩ : ∃ n, n = op.length := ⟨_, rfl⟩
  rw [← hn] at hcell hcap hl ⊢
  have hnw := wrap_small hl
  have hd : decide ((n : Int) < 0) = false := by rw [decide_eq_false_iff_not]; omega
  have hnt : ((n : Int)).toNat = n := Int.toNat_natCast n
  have hn0 : (0 : Int) ≤ (n : Int) := Int.natCast_nonneg n
  have hn1 : (n : Int) < (n : Int) + 1 := Int.lt_succ _
  unfold Tv.val
  clear H h1 hn he hx hne
  go_enter Tryz.func125, Tryz.ntmps125
  go_wp2_with fail
  go_quiet (fail)
  go_wp2_with fail
  refine (fail_any 11 x _ _ (HE.out _) HX.out rfl).mono ?_; rintro e w2 ⟨rfl, hb⟩
  exact ⟨rfl, rfl, (below_drewN ((Below.refl w.heap.size w).alloc (Nat.le_refl _) _) _).trans (hb.mono (by simp))⟩
set_option maxRecDepth 100000 in
set_option maxHeartbeats 4000000 in
theorem brk_none_125 {w : World} {B : Nat} {v : Value} (x : Tv) (he : EnvL w) (hx : x.fit) (H : Opens w B v []) (h1 : x.t = str [125]) :
    Calls Tryz.prog 125 #[v, x.val] w (EndsB w B v x none) := by
  have m40 := lit_ff (t := x.t) (l := [40]) (by rw [h1]; decide)
  have m91 := lit_ff (t := x.t) (l := [91]) (by rw [h1]; decide)
  have m123 := lit_ff (t := x.t) (l := [123]) (by rw [h1]; decide)
  have m41 := lit_ff (t := x.t) (l := [41]) (by rw [h1]; decide)
  have m93 := lit_ff (t := x.t) (l := [93]) (by rw [h1]; decide)
  have q1 := lit_tt h1
  obtain ⟨A, d, rfl⟩ := row_nil H
  have HE := Lib.hid (fun nq => he.below (below_drewN ((Below.refl w.heap.size w).alloc (Nat.le_refl _) (.cells #[.int .i64 x.k, .string x.t, .int .i64 x.p, .int .i64 x.q, .int .i64 x.a, .int .i64 x.c] 41)) nq))
  have HX := Lib.hid hx
  unfold Tv.val
  clear H h1 he hx
  go_enter Tryz.func125, Tryz.ntmps125
  go_wp2_with fail
  go_quiet (fail)
  go_wp2_with fail
  refine (fail_any 11 x _ _ (HE.out _) HX.out rfl).mono ?_; rintro e w2 ⟨rfl, hb⟩
  exact ⟨rfl, rfl, (below_drewN ((Below.refl w.heap.size w).alloc (Nat.le_refl _) _) _).trans (hb.mono (by simp))⟩
set_option maxRecDepth 100000 in
set_option maxHeartbeats 4000000 in
theorem brk_ok_125 {w : World} {B : Nat} {v : Value} {op : List ByteArray} (x : Tv) (H : Opens w B v (x.t :: op)) (hl : op.length ≤ 1000000) (h1 : x.t = str [125]) :
    Calls Tryz.prog 125 #[v, x.val] w (EndsB w B v x (some op)) := by
  have m40 := lit_ff (t := x.t) (l := [40]) (by rw [h1]; decide)
  have m91 := lit_ff (t := x.t) (l := [91]) (by rw [h1]; decide)
  have m123 := lit_ff (t := x.t) (l := [123]) (by rw [h1]; decide)
  have m41 := lit_ff (t := x.t) (l := [41]) (by rw [h1]; decide)
  have m93 := lit_ff (t := x.t) (l := [93]) (by rw [h1]; decide)
  have q1 := lit_tt h1
  unfold Opens at H
  rw [List.length_cons, List.reverse_cons, List.map_append, List.map_cons, List.map_nil] at H
  obtain ⟨g, cap, rfl, hcap, hg, -⟩ := row_some H
  have hcell : w.cell? ⟨g, op.length, none⟩ = some (.string x.t) := by
    have h2 : w.cell? ⟨g, op.length, none⟩ = (op.reverse.map Value.string ++ [.string x.t])[op.length]? := World.ownsRow.cellAt H op.length (by simp)
    rw [h2, List.getElem?_append_right (by simp)]; simp
  have HO : Hid (Opens w B (.slice (some ⟨g, 0, none⟩) op.length cap) op) := ownsRow_pop (by simp) H
  have HG := Lib.hid (fun nq => grown_of (below_drewN ((Below.refl w.heap.size w).alloc (Nat.le_refl _) (.cells #[.int .i64 x.k, .string x.t, .int .i64 x.p, .int .i64 x.q, .int .i64 x.a, .int .i64 x.c] 41)) nq) (some g))
  have HK : Hid (∀ nq, Opens ((w.alloc (.cells #[.int .i64 x.k, .string x.t, .int .i64 x.p, .int .i64 x.q, .int .i64 x.a, .int .i64 x.c] 41)).drewN nq) B (.slice (some ⟨g, 0, none⟩) op.length cap) op) := fun nq => (show (w.alloc (.cells #[.int .i64 x.k, .string x.t, .int .i64 x.p, .int .i64 x.q, .int .i64 x.a, .int .i64 x.c] 41)).ownsRow B 9 1 _ _ _ from HO.out.alloc _)
  obtain ⟨n, hn⟩ : ∃ n, n = op.length := ⟨_, rfl⟩
  rw [← hn] at hcell hcap hl HK ⊢
  have hnw := wrap_small hl
  have hd : decide ((n : Int) < 0) = false := by rw [decide_eq_false_iff_not]; omega
  have hnt : ((n : Int)).toNat = n := Int.toNat_natCast n
  have hn0 : (0 : Int) ≤ (n : Int) := Int.natCast_nonneg n
  have hn1 : (n : Int) < (n : Int) + 1 := Int.lt_succ _
  unfold Tv.val
  clear H h1 hn HO
  go_enter Tryz.func125, Tryz.ntmps125
  go_wp2_with fail
  go_quiet (fail)
  go_wp2_with fail
  go_ret
  exact ⟨_, rfl, HK.out _, HG.out _, Or.inl rfl⟩
set_option maxRecDepth 100000 in
set_option maxHeartbeats 4000000 in
theorem brk_bad_125 {w : World} {B : Nat} {v : Value} {op : List ByteArray} {y : ByteArray} (x : Tv) (he : EnvL w) (hx : x.fit) (H : Opens w B v (y :: op)) (hl : op.length ≤ 1000000) (h1 : x.t = str [125]) (hne : ¬ y = x.t) :
    Calls Tryz.prog 125 #[v, x.val] w (EndsB w B v x none) := by
  have m40 := lit_ff (t := x.t) (l := [40]) (by rw [h1]; decide)
  have m91 := lit_ff (t := x.t) (l := [91]) (by rw [h1]; decide)
  have m123 := lit_ff (t := x.t) (l := [123]) (by rw [h1]; decide)
  have m41 := lit_ff (t := x.t) (l := [41]) (by rw [h1]; decide)
  have m93 := lit_ff (t := x.t) (l := [93]) (by rw [h1]; decide)
  have q1 := lit_tt h1
  unfold Opens at H
  rw [List.length_cons, List.reverse_cons, List.map_append, List.map_cons, List.map_nil] at H
  obtain ⟨g, cap, rfl, hcap, hg, -⟩ := row_some H
  have hcell : w.cell? ⟨g, op.length, none⟩ = some (.string y) := by
    have h2 : w.cell? ⟨g, op.length, none⟩ = (op.reverse.map Value.string ++ [.string y])[op.length]? := World.ownsRow.cellAt H op.length (by simp)
    rw [h2, List.getElem?_append_right (by simp)]; simp
  have HE := Lib.hid (fun nq => he.below (below_drewN ((Below.refl w.heap.size w).alloc (Nat.le_refl _) (.cells #[.int .i64 x.k, .string x.t, .int .i64 x.p, .int .i64 x.q, .int .i64 x.a, .int .i64 x.c] 41)) nq))
  have HX := Lib.hid hx
  have hyx3 : (y.toList == x.t.toList) = false := by rw [beq_eq_false_iff_ne, Lib.toList_data, Lib.toList_data]; intro e; exact hne (by rw [ba_list y, ba_list x.t, e])
  have hyx4 : (x.t.toList == y.toList) = false := by rw [beq_eq_false_iff_ne] at hyx3 ⊢; exact fun e => hyx3 e.symm
  have hyx5 : decide (y = x.t) = false := by rw [decide_eq_false_iff_not]; exact hne
  have hyx := lit_ff (t := y) (l := [125]) (by rw [← h1]; exact hne)
  obtain ⟨n, hn⟩ : ∃ n, n = op.length := ⟨_, rfl⟩
  rw [← hn] at hcell hcap hl ⊢
  have hnw := wrap_small hl
  have hd : decide ((n : Int) < 0) = false := by rw [decide_eq_false_iff_not]; omega
  have hnt : ((n : Int)).toNat = n := Int.toNat_natCast n
  have hn0 : (0 : Int) ≤ (n : Int) := Int.natCast_nonneg n
  have hn1 : (n : Int) < (n : Int) + 1 := Int.lt_succ _
  unfold Tv.val
  clear H h1 hn he hx hne
  go_enter Tryz.func125, Tryz.ntmps125
  go_wp2_with fail
  go_quiet (fail)
  go_wp2_with fail
  refine (fail_any 11 x _ _ (HE.out _) HX.out rfl).mono ?_; rintro e w2 ⟨rfl, hb⟩
  exact ⟨rfl, rfl, (below_drewN ((Below.refl w.heap.size w).alloc (Nat.le_refl _) _) _).trans (hb.mono (by simp))⟩
/-- bracketed: brackets that begin and end. -/
theorem bracketed_any {w : World} {B : Nat} {v : Value} {op : List ByteArray} (x : Tv) (he : EnvL w) (hx : x.fit) (H : Opens w B v op) (hB : B ≤ w.heap.size) (hl : op.length ≤ 1000000) :
    Calls Tryz.prog 125 #[v, x.val] w (EndsB w B v x (bracketed op x)) := by
  unfold bracketed
  by_cases h1 : x.t = str [40]
  · rw [if_pos h1]; exact brk_40 x H hB hl h1
  rw [if_neg h1]
  by_cases h2 : x.t = str [91]
  · rw [if_pos h2]; exact brk_91 x H hB hl h1 h2
  rw [if_neg h2]
  by_cases h3 : x.t = str [123]
  · rw [if_pos h3]; exact brk_123 x H hB hl h1 h2 h3
  rw [if_neg h3]
  by_cases h4 : x.t = str [41] ∨ x.t = str [93] ∨ x.t = str [125]
  · rw [if_pos h4]
    cases op with
    | nil => rcases h4 with h | h | h; exact brk_none_41 x he hx H h; exact brk_none_93 x he hx H h; exact brk_none_125 x he hx H h
    | cons y op =>
      have hl' : op.length ≤ 1000000 := by rw [List.length_cons] at hl; omega
      by_cases hy : y = x.t
      · subst hy
        change Calls _ _ _ _ (EndsB w B v x (if x.t = x.t then some op else none))
        rw [if_pos rfl]
        rcases h4 with h | h | h; exact brk_ok_41 x H hl' h; exact brk_ok_93 x H hl' h; exact brk_ok_125 x H hl' h
      · change Calls _ _ _ _ (EndsB w B v x (if y = x.t then some op else none))
        rw [if_neg hy]
        rcases h4 with h | h | h; exact brk_bad_41 x he hx H hl' h hy; exact brk_bad_93 x he hx H hl' h hy; exact brk_bad_125 x he hx H hl' h hy
  · rw [if_neg h4]
    exact brk_other x H h1 h2 h3 (fun h => h4 (Or.inl h)) (fun h => h4 (Or.inr (Or.inl h))) (fun h => h4 (Or.inr (Or.inr h)))
end Mx
end Go.Proofs.YtnhcjgnohnedaaaGreatDoor
