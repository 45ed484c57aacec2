/-
  Contracts of package lex: words and signs.
  Contracts of package lex: names, numbers, strings: the token with which a string begins.
  Contracts of package lex: strings between quotation marks; the token with which a string begins.
  Contracts of package lex: the token with which a string begins.
-/
import Derived.Test.YtnhcjgnohnedaaaGreatDoorShelfS
import Derived.Deep.QuietTactic
import Derived.BigQuiet
import Derived.Laws.CopyOwn
import Derived.Laws.Tables
namespace Go.Proofs.YtnhcjgnohnedaaaGreatDoor
open Go.RowKit Go.Shelf Go.Sort

namespace Lx
theorem less_trans : ∀ x y z : List UInt8, Op.bytesLess x y = true → Op.bytesLess y z = true → Op.bytesLess x z = true
  | _, [], _, h, _ => by unfold Op.bytesLess at h; cases h
  | _, _ :: _, [], _, h => by unfold Op.bytesLess at h; cases h
  | [], _ :: _, _ :: _, _, _ => by unfold Op.bytesLess; rfl
  | a :: x, b :: y, c :: z, h1, h2 => by
    unfold Op.bytesLess at h1 h2 ⊢
    simp only [Bool.or_eq_true, Bool.and_eq_true, decide_eq_true_eq, beq_iff_eq] at h1 h2 ⊢
    rcases h1 with h1 | ⟨rfl, h1⟩
    · rcases h2 with h2 | ⟨rfl, h2⟩
      · left; exact UInt8.lt_trans h1 h2
      · left; exact h1
    · rcases h2 with h2 | ⟨rfl, h2⟩
      · left; exact h2
      · right; exact ⟨rfl, less_trans x y z h1 h2⟩
theorem wds_count : ((List.range 87).all fun k => (List.range 87).countP (fun i => Op.bytesLess (wds.getD i []) (wds.getD k [])) == k) = true := by decide +kernel
theorem wds_rise : ((List.range 87).all fun a => (List.range 87).all fun b => decide (b ≤ a) || Op.bytesLess (wds.getD a []) (wds.getD b [])) = true := by decide +kernel
theorem wds_less (a b : Nat) (h : a < b) (hb : b < 87) : Op.bytesLess (wds.getD a []) (wds.getD b []) = true := by
  have h1 := List.all_eq_true.1 wds_rise a (List.mem_range.2 (by omega))
  have h2 := List.all_eq_true.1 h1 b (List.mem_range.2 hb)
  simp only [Bool.or_eq_true, decide_eq_true_eq] at h2
  rcases h2 with h2 | h2
  · omega
  · exact h2
/-- How many words are less. -/
def rank (l : List UInt8) : Nat := (List.range 87).countP fun i => Op.bytesLess (wds.getD i []) l
theorem rank_le (l : List UInt8) : rank l ≤ 87 := by unfold rank; exact Nat.le_trans List.countP_le_length (by simp)
theorem rank_mem (l : List UInt8) : (rank l < 87 ∧ wds.getD (rank l) [] = l) ↔ l ∈ wds := by
  constructor
  · rintro ⟨h, e⟩
    rw [← e, List.getD, List.getElem?_eq_getElem (by rw [wds_len]; exact h)]
    exact List.getElem_mem _
  · intro h
    obtain ⟨k, hk, rfl⟩ := List.getElem_of_mem h
    rw [wds_len] at hk
    have h1 := List.all_eq_true.1 wds_count k (List.mem_range.2 hk)
    have e : wds.getD k [] = wds[k] := by rw [List.getD, List.getElem?_eq_getElem (by rw [wds_len]; exact hk)]; rfl
    rw [e] at h1
    have h2 : rank wds[k] = k := by simpa [rank] using h1
    exact ⟨Nat.lt_of_le_of_lt (Nat.le_of_eq h2) hk, (congrArg (fun r => wds.getD r []) h2).trans e⟩
end Lx

set_option maxHeartbeats 1000000 in
theorem word1_any (s : ByteArray) (i : Nat) (b : Nat) (w : World) (he : EnvL w) (hi : i < 87) (hb : w.cell? ⟨b, 0, none⟩ = some (.string s)) :
    Calls Tryz.prog 113 #[.int .i64 i, .pointer (some ⟨b, 0, none⟩)] w fun e w' => e = .returned (.bool (!Op.bytesLess (Lx.wds.getD i []) s.data.toList)) ∧ ∃ n, w' = w.drewN n := by
  obtain ⟨tt, fr, hg⟩ := he.wd
  have hc : w.cell? ⟨0, i, none⟩ = some (.string ⟨(Lx.wds.getD i []).toArray⟩) := by
    rw [cell_of_row w _ i _ _ _ hg]; exact strsV_get Lx.wds i hi
  generalize Lx.wds.getD i [] = g at *
  obtain ⟨x, hx⟩ : ∃ x : ByteArray, x = ⟨g.toArray⟩ := ⟨_, rfl⟩
  have e1 : g = x.toList := by rw [hx, Lib.toList_data]
  have e2 : s.data.toList = s.toList := (Lib.toList_data s).symm
  rw [← hx] at hc
  rw [e1, e2]
  clear he hg hx e1 e2
  go_enter Tryz.func113, Tryz.ntmps113
  go_wp2
  go_quiet (fail)
  go_wp2
  go_ret
  exact ⟨rfl, _, rfl⟩

theorem heap_grow {w : World} {b : Nat} {o : Obj} (h : w.heap[b]? = some o) (n : Nat) (os : Array Obj) : (grow (w.drewN n) os).heap[b]? = some o :=
  ((below_grown_sl w.heap.size w n os (Nat.le_refl _)).block b (Array.getElem?_eq_some_iff.1 h).1).trans h
set_option maxHeartbeats 2000000 in
theorem word_any (s : ByteArray) (w : World) (he : EnvL w) :
    Calls Tryz.prog 78 #[.string s] w fun e w' => e = .returned (.bool (decide (s.data.toList ∈ Lx.wds))) ∧ Below w.heap.size w w' := by
  have eg := enters_of Tryz.func113 (by kernel_rfl) rfl
  have hE := he.below ((Below.refl _ _).alloc (Nat.le_refl _) (.cells #[.string s] 9))
  have hS := Any.sort_Search Tryz.search16 113 #[.pointer (some ⟨w.heap.size, 0, none⟩)] 87 (fun i => !Op.bytesLess (Lx.wds.getD i []) s.data.toList) (w.alloc (.cells #[.string s] 9)) eg (by omega)
    (fun m os i hi => (word1_any s i w.heap.size _ (hE.below (below_grown_sl _ _ m os (Nat.le_refl _))) hi (cell_grown (by simp) (by simp) m os)).mono fun _ _ ⟨he, q, hq⟩ => ⟨he, q, #[], by rw [hq, grow_empty]⟩)
    (fun a b hab hb h => by
      rcases Nat.lt_or_eq_of_le hab with h1 | h1
      · simp only [Bool.not_eq_true'] at h ⊢
        cases hx : Op.bytesLess (Lx.wds.getD b []) s.data.toList
        · rfl
        · rw [Lx.less_trans _ _ _ (Lx.wds_less a b h1 hb) hx] at h; cases h
      · rw [← h1]; exact h)
  have hcnt : (List.range 87).countP (fun i => !(!Op.bytesLess (Lx.wds.getD i []) s.data.toList)) = Lx.rank s.data.toList := by simp [Lx.rank]
  rw [hcnt] at hS
  change Calls Tryz.prog 112 _ _ _ at hS
  have hmem := Lx.rank_mem s.data.toList
  have hle := Lx.rank_le s.data.toList
  have hword : Lx.rank s.data.toList < 87 → ∀ W : World, EnvL W → W.cell? ⟨0, Lx.rank s.data.toList, none⟩ = some (.string ⟨(Lx.wds.getD (Lx.rank s.data.toList) []).toArray⟩) := fun h W hW => by
    obtain ⟨tt, fr, hg⟩ := hW.wd
    rw [cell_of_row W _ _ _ _ _ hg]; exact strsV_get Lx.wds _ h
  obtain ⟨b, hb⟩ : ∃ b, b = decide (s.data.toList ∈ Lx.wds) := ⟨_, rfl⟩
  rw [← hb]
  generalize Lx.rank s.data.toList = r at *
  have HS := Lib.hid hS
  have HE := Lib.hid hE
  clear hS hE he eg hcnt
  have hmf : ∀ (fn : Fn) (first cap : Array Value) (w : World), (Instr.makeFunc fn first cap).run Tryz.prog w = .ok (.func fn first cap) w := fun _ _ _ _ => rfl
  by_cases hr : r < 87
  · have HW := Lib.hid (hword hr)
    have hb2 : b = ((⟨(Lx.wds.getD r []).toArray⟩ : ByteArray).toList == s.toList) := by
      rw [hb, Lib.toList_data, Lib.toList_data, Bool.eq_iff_iff]
      simp only [decide_eq_true_eq, beq_iff_eq]
      rw [← hmem]; simp [hr]
    clear hword hmem hb
    generalize Lx.wds.getD r [] = g at *
    obtain ⟨x, hx⟩ : ∃ x : ByteArray, x = ⟨g.toArray⟩ := ⟨_, rfl⟩
    rw [← hx] at hb2 HW
    have HB := Lib.hid hb2
    clear hb2 hx
    go_enter Tryz.func78, Tryz.ntmps78
    go_wp2_with fail
    refine HS.out.mono ?_; rintro e w' ⟨rfl, q, os, rfl⟩
    have hbel := below_grown_sl w.heap.size (w.alloc (.cells #[.string s] 9)) q os (by simp)
    have hwc := HW.out _ (HE.out.below (below_grown_sl _ _ q os (Nat.le_refl _)))
    have hbc : (grow ((w.alloc (.cells #[.string s] 9)).drewN q) os).cell? ⟨w.heap.size, 0, none⟩ = some (.string s) := cell_grown (by simp) (by simp) q os
    have BB := Lib.hid (((Below.refl w.heap.size w).alloc (Nat.le_refl _) (.cells #[.string s] 9)).trans hbel)
    generalize grow ((w.alloc (.cells #[.string s] 9)).drewN q) os = W at *
    clear hbel
    have hr1 : (r : Int) < 87 := by omega
    have hr0 : (0 : Int) ≤ (r : Int) := by omega
    have hr2 : decide ((r : Int) < 87) = true := decide_eq_true hr1
    go_wp2_with fail
    go_quiet (fail)
    go_wp2_with fail
    go_ret
    exact ⟨by rw [HB.out]; rfl, below_drewN BB.out _⟩
  · have hb2 : b = false := by
      rw [hb]; simp only [decide_eq_false_iff_not]; rw [← hmem]; exact fun h => hr h.1
    subst hb2
    obtain rfl : r = 87 := by omega
    clear hword hmem hb
    go_enter Tryz.func78, Tryz.ntmps78
    go_wp2_with fail
    refine HS.out.mono ?_; rintro e w' ⟨rfl, q, os, rfl⟩
    have hbel := below_grown_sl w.heap.size (w.alloc (.cells #[.string s] 9)) q os (by simp)
    have BB := Lib.hid (((Below.refl w.heap.size w).alloc (Nat.le_refl _) (.cells #[.string s] 9)).trans hbel)
    generalize grow ((w.alloc (.cells #[.string s] 9)).drewN q) os = W at *
    clear hbel
    go_wp2_with fail
    go_quiet (fail)
    go_wp2_with fail
    go_ret
    exact ⟨rfl, below_drewN BB.out _⟩

set_option maxHeartbeats 1000000 in
/-- Is a string a sign? -/
theorem sign_any (s : ByteArray) (w : World) (he : EnvL w) :
    Calls Tryz.prog 80 #[.string s] w fun e w' => e = .returned (.bool (decide (s.data.toList ∈ Lx.sgs))) ∧ w = w' := by
  have hsa := signAhead_any s w he
  have key : (s.data.toList ∈ Lx.sgs) ↔ (s.data.toList ≠ [] ∧ Lx.sgn s.data.toList = s.data.toList) := by
    constructor
    · intro h
      have hall : (Lx.sgs.all fun x => decide (x ≠ [] ∧ Lx.sgn x = x)) = true := by decide +kernel
      have := List.all_eq_true.1 hall _ h
      simpa using this
    · rintro ⟨h1, h2⟩
      rcases Lx.sgn_mem s.data.toList with h | ⟨h, -⟩
      · exact absurd (h2.symm.trans h) h1
      · rwa [h2] at h
  generalize Lx.sgn s.data.toList = g at *
  obtain ⟨x, hx⟩ : ∃ x : ByteArray, x = ⟨g.toArray⟩ := ⟨_, rfl⟩
  have hgx : g = x.toList := by rw [hx, Lib.toList_data]
  have hss : s.data.toList = s.toList := (Lib.toList_data s).symm
  rw [← hx] at hsa
  rw [hgx, hss] at key
  rw [hss]
  obtain ⟨b, hb⟩ : ∃ b, b = decide (s.toList ∈ Lx.sgs) := ⟨_, rfl⟩
  rw [← hb]
  have HS := Lib.hid hsa
  have hb1 : b = (!s.toList.isEmpty && (x.toList == s.toList)) := by
    rw [hb, Bool.eq_iff_iff]; simp only [decide_eq_true_eq, Bool.and_eq_true, Bool.not_eq_true', beq_iff_eq]; rw [key]; simp
  clear hsa key hgx hss hx he hb
  cases h1 : s.toList.isEmpty
  · have e1 : (x.toList == s.toList) = b := by rw [hb1, h1]; rfl
    have HB := Lib.hid hb1
    clear hb1
    go_enter Tryz.func80, Tryz.ntmps80
    go_wp2_with fail
    refine HS.out.mono ?_; rintro e w' ⟨rfl, rfl⟩
    go_wp2_with fail
    go_ret
    exact ⟨by simp, rfl⟩
  · have e1 : b = false := by rw [hb1, h1]; rfl
    subst e1
    clear hb1
    go_enter Tryz.func80, Tryz.ntmps80
    go_wp2_with fail
    go_ret
    exact ⟨rfl, rfl⟩

set_option maxRecDepth 100000 in
set_option maxHeartbeats 2000000 in
theorem words_any (w : World) (he : EnvL w) :
    Calls Tryz.prog 34 #[] w fun e w' => e = .returned (.slice (some ⟨w.heap.size, 0, none⟩) 87 87) ∧ w'.heap[w.heap.size]? = some (.cells (strsV Lx.wds) 88 (0, 0)) ∧ Below w.heap.size w w' := by
  obtain ⟨tt, fr, hg⟩ := he.wd
  obtain ⟨A, hA⟩ : ∃ A, A = strsV Lx.wds := ⟨_, rfl⟩
  rw [← hA] at hg ⊢
  have hsz : A.size = 87 := by rw [hA]; rfl
  have hall : A.all (·.oneCell') = true := by rw [hA, Array.all_eq_true_iff_forall_mem]; intro x hx; simp only [strsV, List.mem_toArray, List.mem_map] at hx; obtain ⟨s, -, rfl⟩ := hx; rfl
  have hin : (Tryz.prog.info? 88).map (·.size) = some 87 := by kernel_rfl
  rw [← hsz] at hin
  have HG := Lib.hid hg
  have HN := Lib.hid hin
  have HSZ := Lib.hid hsz
  have HA := Lib.hid hall
  clear hsz hg hin hA hall he
  go_enter Tryz.func34, Tryz.ntmps34
  have hz9 : Tryz.zeroCells88.size = 87 := by kernel_rfl
  have HZ : Hid (Tryz.zeroCells88.size = A.size) := hz9.trans HSZ.out.symm
  clear hz9
  go_wp2_with (first | (refine wpList_load_row rfl 88 _ rfl 0 rfl tt _ fr _ HG.out Tryz.underlying88 rfl HN.out ?_) | (refine wpList_store_row rfl 88 _ _ rfl w.heap.size A rfl rfl 88 Tryz.zeroCells88 (heap_alloc_new w _) HN.out HZ.out HA.out ?_))
  go_ret
  exact ⟨rfl, setRow_heap _ _ _ _ _ _ (heap_alloc_new w _), below_setRow ((Below.refl _ _).alloc (Nat.le_refl _) _) (Nat.le_refl _) _⟩
end Go.Proofs.YtnhcjgnohnedaaaGreatDoor

namespace Go.Proofs.YtnhcjgnohnedaaaGreatDoor
open Go.RowKit

def tokV (t : Lx.Tk) (a b : Int) : Value := .agg #[.int .i64 t.kind, .string ⟨t.text.toArray⟩, .int .i64 t.p, .int .i64 t.q, .int .i64 a, .int .i64 b]
def oneV (t : Lx.Tk) (n : Nat) (e : Int) : Value := .tuple #[tokV t 0 0, .int .i64 n, .int .i64 e]
/-- What a reading of one token returns. -/
def OneOf (o : Lx.One) (w : World) (e : Ending) (w' : World) : Prop := ∃ t, e = .returned (oneV t o.n o.e) ∧ (o.e = 0 → t = o.t) ∧ Below w.heap.size w w'

theorem blk6 {w : World} {b : Nat} {t : TypeId} {c0 c1 c2 c3 c4 c5 : Value} (h : w.heap[b]? = some (.cells #[c0, c1, c2, c3, c4, c5] t (0, 0))) :
    (w.cell? ⟨b, 0, none⟩ = some c0 ∧ w.cell? ⟨b, 1, none⟩ = some c1 ∧ w.cell? ⟨b, 2, none⟩ = some c2 ∧ w.cell? ⟨b, 3, none⟩ = some c3 ∧ w.cell? ⟨b, 4, none⟩ = some c4 ∧ w.cell? ⟨b, 5, none⟩ = some c5) ∧
    (w.frozen? ⟨b, 0, none⟩ = false ∧ w.frozen? ⟨b, 1, none⟩ = false ∧ w.frozen? ⟨b, 2, none⟩ = false ∧ w.frozen? ⟨b, 3, none⟩ = false ∧ w.frozen? ⟨b, 4, none⟩ = false ∧ w.frozen? ⟨b, 5, none⟩ = false) ∧ b < w.heap.size := by
  refine ⟨⟨?_, ?_, ?_, ?_, ?_, ?_⟩, ⟨?_, ?_, ?_, ?_, ?_, ?_⟩, (Array.getElem?_eq_some_iff.1 h).1⟩
  case refine_3 => exact cell_of_row w b 2 _ _ _ h
  all_goals first | (simp [World.frozen?, h]; done) | exact cell_of_row w b 0 _ _ _ h | exact cell_of_row w b 1 _ _ _ h | exact cell_of_row w b 3 _ _ _ h | exact cell_of_row w b 4 _ _ _ h | exact cell_of_row w b 5 _ _ _ h
theorem blk4 {w : World} {b : Nat} {t : TypeId} {c0 c1 c2 c3 : Value} (h : w.heap[b]? = some (.cells #[c0, c1, c2, c3] t (0, 0))) :
    (w.cell? ⟨b, 0, none⟩ = some c0 ∧ w.cell? ⟨b, 1, none⟩ = some c1 ∧ w.cell? ⟨b, 2, none⟩ = some c2 ∧ w.cell? ⟨b, 3, none⟩ = some c3) ∧
    (w.frozen? ⟨b, 0, none⟩ = false ∧ w.frozen? ⟨b, 1, none⟩ = false ∧ w.frozen? ⟨b, 2, none⟩ = false ∧ w.frozen? ⟨b, 3, none⟩ = false) ∧ b < w.heap.size := by
  refine ⟨⟨?_, ?_, ?_, ?_⟩, ⟨?_, ?_, ?_, ?_⟩, (Array.getElem?_eq_some_iff.1 h).1⟩
  all_goals first | (simp [World.frozen?, h]; done) | exact cell_of_row w b 0 _ _ _ h | exact cell_of_row w b 1 _ _ _ h | exact cell_of_row w b 2 _ _ _ h | exact cell_of_row w b 3 _ _ _ h
theorem set6 {w : World} {b : Nat} {t : TypeId} {c0 c1 c2 c3 c4 c5 : Value} (h : w.heap[b]? = some (.cells #[c0, c1, c2, c3, c4, c5] t (0, 0))) (v0 v1 v2 v3 v4 v5 : Value) :
    ((((((w.setCell ⟨b, 0, none⟩ v0).setCell ⟨b, 1, none⟩ v1).setCell ⟨b, 2, none⟩ v2).setCell ⟨b, 3, none⟩ v3).setCell ⟨b, 4, none⟩ v4).setCell ⟨b, 5, none⟩ v5).heap[b]? = some (.cells #[v0, v1, v2, v3, v4, v5] t (0, 0)) :=
  heap_set _ b 5 v5 _ t (heap_set _ b 4 v4 _ t (heap_set _ b 3 v3 _ t (heap_set _ b 2 v2 _ t (heap_set _ b 1 v1 _ t (heap_set _ b 0 v0 _ t h)))))
theorem set4 {w : World} {b : Nat} {t : TypeId} {c0 c1 c2 c3 : Value} (h : w.heap[b]? = some (.cells #[c0, c1, c2, c3] t (0, 0))) (v0 v1 v2 v3 : Value) :
    ((((w.setCell ⟨b, 0, none⟩ v0).setCell ⟨b, 1, none⟩ v1).setCell ⟨b, 2, none⟩ v2).setCell ⟨b, 3, none⟩ v3).heap[b]? = some (.cells #[v0, v1, v2, v3] t (0, 0)) :=
  heap_set _ b 3 v3 _ t (heap_set _ b 2 v2 _ t (heap_set _ b 1 v1 _ t (heap_set _ b 0 v0 _ t h)))
theorem blk_alloc {w : World} {b : Nat} {x : Obj} (h : w.heap[b]? = some x) (o : Obj) : (w.alloc o).heap[b]? = some x := by
  exact (Below.heap_alloc w o b (Array.getElem?_eq_some_iff.1 h).1).trans h
theorem below6 {B : Nat} {a w : World} (h : Below B a w) {b : Nat} (hb : B ≤ b) (v0 v1 v2 v3 v4 v5 : Value) :
    Below B a ((((((w.setCell ⟨b, 0, none⟩ v0).setCell ⟨b, 1, none⟩ v1).setCell ⟨b, 2, none⟩ v2).setCell ⟨b, 3, none⟩ v3).setCell ⟨b, 4, none⟩ v4).setCell ⟨b, 5, none⟩ v5) :=
  (((((h.setCell (p := ⟨b, 0, none⟩) hb _).setCell (p := ⟨b, 1, none⟩) hb _).setCell (p := ⟨b, 2, none⟩) hb _).setCell (p := ⟨b, 3, none⟩) hb _).setCell (p := ⟨b, 4, none⟩) hb _).setCell (p := ⟨b, 5, none⟩) hb _
theorem below4 {B : Nat} {a w : World} (h : Below B a w) {b : Nat} (hb : B ≤ b) (v0 v1 v2 v3 : Value) :
    Below B a ((((w.setCell ⟨b, 0, none⟩ v0).setCell ⟨b, 1, none⟩ v1).setCell ⟨b, 2, none⟩ v2).setCell ⟨b, 3, none⟩ v3) :=
  (((h.setCell (p := ⟨b, 0, none⟩) hb _).setCell (p := ⟨b, 1, none⟩) hb _).setCell (p := ⟨b, 2, none⟩) hb _).setCell (p := ⟨b, 3, none⟩) hb _
theorem size6 (w : World) (b : Nat) (v0 v1 v2 v3 v4 v5 : Value) :
    ((((((w.setCell ⟨b, 0, none⟩ v0).setCell ⟨b, 1, none⟩ v1).setCell ⟨b, 2, none⟩ v2).setCell ⟨b, 3, none⟩ v3).setCell ⟨b, 4, none⟩ v4).setCell ⟨b, 5, none⟩ v5).heap.size = w.heap.size := by simp [World.setCell]
theorem cutPoint_no (d : List UInt8) (h : ∀ t, d ≠ 46 :: t) : Lib.hasPrefix d [46] = false := by
  cases d with
  | nil => rfl
  | cons c d =>
    have : ¬ (46 : UInt8) = c := by rintro rfl; exact h d rfl
    simp [Lib.hasPrefix, List.isPrefixOf, this]
theorem cutPoint_yes (t : List UInt8) : Lib.hasPrefix (46 :: t) [46] = true ∧ Lib.trimPrefix (46 :: t) [46] = t := by
  simp [Lib.hasPrefix, Lib.trimPrefix, List.isPrefixOf]

def numT (n : Nat) (d : List UInt8) : Nat := match d with | 46 :: t => if Lx.runN Lx.digit t = 0 then n else n + 1 + Lx.runN Lx.digit t | _ => n
theorem numT_no (n : Nat) (d : List UInt8) (h : ∀ t, d ≠ 46 :: t) : numT n d = n := by
  unfold numT; split
  · rename_i t; exact absurd rfl (h t)
  · rfl
end Go.Proofs.YtnhcjgnohnedaaaGreatDoor

namespace Go.Proofs.YtnhcjgnohnedaaaGreatDoor
open Go.RowKit

set_option maxHeartbeats 1000000 in
theorem all_quot (l : List UInt8) (w : World) (hl : l.length ≤ 20000) :
    Calls Tryz.prog 76 #[.string ⟨l.toArray⟩, .func (.func 79) #[] #[]] w fun e w' => e = .returned (.bool (Lx.allB Lx.quot l)) ∧ w = w' := by
  have hr := run_quotable ⟨l.toArray⟩ w (by rw [ba_size]; unfold maxLen; omega)
  simp only at hr
  obtain ⟨s, hs⟩ : ∃ s : ByteArray, s = ⟨l.toArray⟩ := ⟨_, rfl⟩
  have hz : s.size = l.length := by rw [hs]; rfl
  have hle := Lx.runN_le Lx.quot l
  obtain ⟨b, hb⟩ : ∃ b, b = Lx.allB Lx.quot l := ⟨_, rfl⟩
  rw [← hb, ← hs]
  unfold Lx.allB at hb
  rw [← hs] at hr
  rw [← hz] at hb hle hl
  generalize Lx.runN Lx.quot l = n at hr hb hle
  have HR := Lib.hid hr
  have hb2 : ((n : Int) == (s.size : Int)) = b := by rw [hb, Bool.eq_iff_iff]; simp; omega
  clear hr hs hz hb
  go_enter Tryz.func76, Tryz.ntmps76
  go_wp2_with fail
  refine HR.out.mono ?_; rintro e w' ⟨rfl, rfl⟩
  go_wp2_with fail
  go_ret
  exact ⟨by simp, rfl⟩
theorem all_letter (l : List UInt8) (w : World) (hl : l.length ≤ 20000) :
    Calls Tryz.prog 76 #[.string ⟨l.toArray⟩, .func (.func 77) #[] #[]] w fun e w' => e = .returned (.bool (Lx.allB Lx.letter l)) ∧ w = w' := by
  have hr := run_letter ⟨l.toArray⟩ w (by rw [ba_size]; unfold maxLen; omega)
  simp only at hr
  obtain ⟨s, hs⟩ : ∃ s : ByteArray, s = ⟨l.toArray⟩ := ⟨_, rfl⟩
  have hz : s.size = l.length := by rw [hs]; rfl
  have hle := Lx.runN_le Lx.letter l
  obtain ⟨b, hb⟩ : ∃ b, b = Lx.allB Lx.letter l := ⟨_, rfl⟩
  rw [← hb, ← hs]
  unfold Lx.allB at hb
  rw [← hs] at hr
  rw [← hz] at hb hle hl
  generalize Lx.runN Lx.letter l = n at hr hb hle
  have HR := Lib.hid hr
  have hb2 : ((n : Int) == (s.size : Int)) = b := by rw [hb, Bool.eq_iff_iff]; simp; omega
  clear hr hs hz hb
  go_enter Tryz.func76, Tryz.ntmps76
  go_wp2_with fail
  refine HR.out.mono ?_; rintro e w' ⟨rfl, rfl⟩
  go_wp2_with fail
  go_ret
  exact ⟨by simp, rfl⟩

theorem oneOf_bad (t : Lx.Tk) (n : Nat) (e : Int) (he : e ≠ 0) {w w' : World} (hb : Below w.heap.size w w') : OneOf (Lx.One.bad n e) w (.returned (oneV t n e)) w' :=
  ⟨t, rfl, fun h => absurd h he, hb⟩
theorem oneOf_ok (t : Lx.Tk) (n : Nat) {w w' : World} (hb : Below w.heap.size w w') : OneOf ⟨t, n, 0⟩ w (.returned (oneV t n 0)) w' :=
  ⟨t, rfl, fun _ => rfl, hb⟩
theorem notQ_iff (c : UInt8) : Lx.notQ c = true ↔ c ≠ 34 := by simp [Lx.notQ]

end Go.Proofs.YtnhcjgnohnedaaaGreatDoor

namespace Go.Proofs.YtnhcjgnohnedaaaGreatDoor
open Go.RowKit



end Go.Proofs.YtnhcjgnohnedaaaGreatDoor
