/-
  Contracts of package macro: Expand.
  DERIVED: THE SHELF's CONTRACTS AT THIS DUMP, IN PLAIN WORDS (tools/lay-plain.mjs out of 'TryzShelf.lean', which tools/lay-shelf.mjs wrote): THE SAME DECLARATIONS UNDER THE SAME NAMES: 'import', 'namespace', 'open', 'def', 'theorem' AND NOTHING ELSE: no command of the shelf's: FOR A HAND-IN. Each laying: the table of numbers ('.._ren') and one theorem, a field a fact of the dump's own or the kernel's comparison; each contract: ONE APPLICATION.
  Contracts of package macro: Macros.
-/
import Derived.Test.YtnhcjgnohnedaaaGreatDoorMxRb
import Derived.Shelf.Strings.Builder1
import Derived.Shelf.Strings.Trim
import Derived.Shelf.Small.Utf8
import Derived.Shelf.Small.Bits
import Derived.Shelf.Small.Strs
import Derived.Shelf.Strings.BuilderF
import Derived.Shelf.Strings.BuilderK
import Derived.Shelf.Strconv.Itoa0
import Derived.Shelf.Strconv.Itoa1
import Derived.Shelf.LaysM
import Derived.Shelf.Strconv.Itoa2
import Derived.Shelf.Strconv.Itoa3
import Derived.Shelf.Strconv.Itoa4
import Derived.Shelf.Strings.Search1
import Derived.Shelf.Sort.Plain
import Derived.Shelf.Strings.Prefix
import Derived.Shelf.Unicode.Decode
import Derived.Shelf.Strings.Runes
import Derived.Shelf.Strings.AsciiSet
import Derived.Shelf.Unicode.DecodeSlow
import Derived.Shelf.Unicode.DecodeAny
import Derived.Shelf.Unicode.DecodeLast
import Derived.Shelf.Slices.In.SortNone
import Derived.Test.YtnhcjgnohnedaaaGreatDoorProg
import Derived.Sort.KeysCollected
import Derived.Sort.OwnSorted
import Derived.Maps.RangeWalk
import Derived.Laws.IdiomRangeMap
import Derived.Deep.Cut
import Derived.WalkKit
import Derived.StillTailTactics
namespace Go.Proofs.YtnhcjgnohnedaaaGreatDoor
open Go.RowKit

set_option maxRecDepth 100000 in
set_option maxHeartbeats 8000000 in
theorem expand_any (A : Option Addr) (c : Nat) (l : List Tv) (w : World) (he : EnvL w) (h1 : TokSl w w.heap.size A l) (hc : l.length ≤ c) (hl : l.length ≤ 9223372036854775807) (hf : ∀ x ∈ l, x.fit) :
    Calls Tryz.prog 11 #[.slice A l.length c] w fun e w' => ∃ v, e = .returned (.tuple #[v, (Mx.expandF l).agg]) ∧ TokOwn w' w.heap.size v (Mx.expandO l) ∧ Below w.heap.size w w' := by
  have HX := Lib.hid (fun W (hW : EnvL W) (h : TokSl W W.heap.size A l) => expanded_all A c l W hW h hc hl hf)
  have H1 := Lib.hid h1
  have HE := Lib.hid he
  obtain ⟨OO, hOO⟩ : ∃ OO, OO = Mx.expandO l := ⟨_, rfl⟩
  obtain ⟨⟨fc, fn, fl, fo⟩, hF⟩ : ∃ f, f = Mx.expandF l := ⟨_, rfl⟩
  rw [← hF] at HX ⊢
  have HOO := Lib.hid hOO
  rw [← hOO]
  unfold Mx.Flt.agg at *
  dsimp only at HX ⊢
  obtain ⟨n, hn⟩ : ∃ n, n = l.length := ⟨_, rfl⟩
  rw [← hn] at HX ⊢
  clear h1 he hc hl hf hF hOO hn
  go_enter Tryz.func11, Tryz.ntmps11
  go_wp2_with fail
  refine (HX.out _ (HE.out.below ((Below.refl _ _).alloc (Nat.le_refl _) _)) ((H1.out.below ((Below.refl _ _).alloc (Nat.le_refl _) _)).more (by simp))).mono ?_
  rintro e w1 ⟨cE, rfl, ⟨vr, vl, lk, lt, lp, lq, la, lc, st, vm, vg, sv, vo, rfl, ⟨A1, n1, c1, rfl⟩, ⟨A2, n2, c2, rfl⟩, ⟨A3, n3, c3, rfl⟩, hout, -⟩, hb⟩
  rw [← HOO.out] at hout
  obtain ⟨A4, c4, rfl, -⟩ := hout.sl
  obtain ⟨n4, hn4⟩ : ∃ n4, n4 = OO.length := ⟨_, rfl⟩
  rw [← hn4] at hout
  rw [← hn4]
  have HOUT := Lib.hid hout
  have B1 := Lib.hid (((Below.refl w.heap.size w).alloc (Nat.le_refl _) (.cells #[.int .i64 0, .string ⟨#[]⟩, .int .i64 0, .int .i64 0] 27)).trans (hb.mono (by simp)))
  have K1 := Lib.hid ((hb.block w.heap.size (by simp)).trans (heap_alloc_new w (.cells #[.int .i64 0, .string ⟨#[]⟩, .int .i64 0, .int .i64 0] 27)))
  obtain ⟨⟨d0, d1, d2, d3⟩, ⟨f0, f1, f2, f3⟩, cl⟩ := blk4 K1.out
  clear hb hout hn4
  have hmx : Tryz.prog.follows .mixedOrders = true := by kernel_rfl
  go_wp2_with fail
  obtain ⟨W5, hW5⟩ : ∃ W5, (w1.alloc (.cells #[.slice A1 n1 c1, .slice A2 n2 c2, .int .i64 lk, .string lt, .int .i64 lp, .int .i64 lq, .int .i64 la, .int .i64 lc, .int .i64 st, .map vm, .slice A3 n3 c3, .bool sv, .slice A4 n4 c4] 48)).alloc (.cells #[.int .i64 fc, .string fn, .int .i64 fl, .int .i64 fo] 27) = W5 := ⟨_, rfl⟩
  have B5 : Hid (Below w1.heap.size w1 W5) := Lib.hid (by rw [← hW5]; exact ((Below.refl _ _).alloc (Nat.le_refl _) _).alloc (by simp) _)
  have k5 : W5.heap[w1.heap.size]? = some (.cells #[.slice A1 n1 c1, .slice A2 n2 c2, .int .i64 lk, .string lt, .int .i64 lp, .int .i64 lq, .int .i64 la, .int .i64 lc, .int .i64 st, .map vm, .slice A3 n3 c3, .bool sv, .slice A4 n4 c4] 48) := by rw [← hW5]; exact blk_alloc (heap_alloc_new w1 _) _
  have k6 : W5.heap[w1.heap.size + 1]? = some (.cells #[.int .i64 fc, .string fn, .int .i64 fl, .int .i64 fo] 27) := by rw [← hW5]; exact blk_new2 w1 _ _
  have K5 := Lib.hid ((B5.out.block w.heap.size cl).trans K1.out)
  have x7 : W5.cell? ⟨w1.heap.size, 12, none⟩ = some (.slice A4 n4 c4) := cell_of_row _ _ 12 _ _ _ k5
  obtain ⟨⟨y0, y1, y2, y3⟩, -, yl⟩ := blk4 k6
  clear d0 d1 d2 d3 f0 f1 f2 f3 cl
  obtain ⟨⟨d0, d1, d2, d3⟩, ⟨f0, f1, f2, f3⟩, cl⟩ := blk4 K5.out
  rw [hW5]
  clear hW5 k5 k6
  go_still_tail 4, hmx
  go_wp2_with fail
  have h4 := set4 K5.out (.int .i64 fc) (.string fn) (.int .i64 fl) (.int .i64 fo)
  have BB := below4 (B1.out.trans (B5.out.mono B1.out.size)) (Nat.le_refl w.heap.size) (.int .i64 fc) (.string fn) (.int .i64 fl) (.int .i64 fo)
  have T := turns4 (fun k => k = w.heap.size) W5 rfl (.int .i64 fc) (.string fn) (.int .i64 fl) (.int .i64 fo)
  obtain ⟨⟨q0, q1, q2, q3⟩, -, -⟩ := blk4 h4
  refine bodyPost_ret (v := .tuple #[.slice A4 n4 c4, .agg #[.int .i64 fc, .string fn, .int .i64 fl, .int .i64 fo]]) (by simp [results, Tryz.results11, go_sem, q0, q1, q2, q3]) rfl ⟨_, rfl, ?_, BB.drew⟩
  have hlow : ∀ k, (Value.slice A4 n4 c4).ownBlock = some k → w.heap.size < k ∧ k < w1.heap.size := fun k hk => by
    have := World.ownsRow.lt HOUT.out k hk
    simp at this
    omega
  have hr : TokOwn W5 w.heap.size (.slice A4 n4 c4) OO := (TokOwn.below ⟨HOUT.out.1, HOUT.out.2.imp id (fun ⟨g, cap, cur, e, h1, h2⟩ => ⟨g, cap, cur, e, by simp at h1; omega, h2⟩)⟩ B5.out)
  exact Mx.row_keep hr (fun k hk => T.block k (by have := hlow k hk; have := B5.out.size; omega) (fun e => by have := hlow k hk; have e' : k = w.heap.size := e; omega))
end Go.Proofs.YtnhcjgnohnedaaaGreatDoor

namespace Go.Proofs
open Go.Shelf
def Tryz.lays190_ren : Go.Shelf.Ren := ⟨fun | 190 => 26 | 125 => 42 | 258 => 41 | 128 => 73 | 129 => 74 | 302 => 64 | 303 => 65 | 304 => 66 | 305 => 67 | 306 => 68 | 307 => 69 | 308 => 70 | 309 => 71 | 310 => 72 | 333 => 104 | 329 => 105 | 330 => 106 | 334 => 107 | 335 => 108 | 336 => 109 | 344 => 135 | n => n, fun | 31 => 30 | 9 => 9 | 3 => 3 | 46 => 81 | 0 => 0 | 51 => 110 | 53 => 112 | 4 => 4 | 183 => 103 | 182 => 102 | 131 => 107 | 5 => 5 | 218 => 142 | 222 => 146 | 228 => 182 | 229 => 183 | n => n, fun | n => n⟩
theorem Tryz.lays190 : Go.Proofs.Lays.n190 Tryz.prog Tryz.lays190_ren := {
  mixed := by kernel_rfl
  f125 := Tryz.func42.trans (congrArg some (by kernel_rfl))
  f128 := Tryz.func73.trans (congrArg some (by kernel_rfl))
  f129 := Tryz.func74.trans (congrArg some (by kernel_rfl))
  f190 := Tryz.func26.trans (congrArg some (by kernel_rfl))
  f258 := Tryz.func41.trans (congrArg some (by kernel_rfl))
  f302 := Tryz.func64.trans (congrArg some (by kernel_rfl))
  f303 := Tryz.func65.trans (congrArg some (by kernel_rfl))
  f304 := Tryz.func66.trans (congrArg some (by kernel_rfl))
  f305 := Tryz.func67.trans (congrArg some (by kernel_rfl))
  f306 := Tryz.func68.trans (congrArg some (by kernel_rfl))
  f307 := Tryz.func69.trans (congrArg some (by kernel_rfl))
  f308 := Tryz.func70.trans (congrArg some (by kernel_rfl))
  f309 := Tryz.func71.trans (congrArg some (by kernel_rfl))
  f310 := Tryz.func72.trans (congrArg some (by kernel_rfl))
  f329 := Tryz.func105.trans (congrArg some (by kernel_rfl))
  f330 := Tryz.func106.trans (congrArg some (by kernel_rfl))
  f333 := Tryz.func104.trans (congrArg some (by kernel_rfl))
  f334 := Tryz.func107.trans (congrArg some (by kernel_rfl))
  f335 := Tryz.func108.trans (congrArg some (by kernel_rfl))
  f336 := Tryz.func109.trans (congrArg some (by kernel_rfl))
  f344 := Tryz.func135.trans (congrArg some (by kernel_rfl))
  t0 := Tryz.underlying0
  a0 := Tryz.isAgg0
  z0 := Tryz.sizeOf0
  v0 := Tryz.zeroValue0
  t3 := Tryz.underlying3
  a3 := Tryz.isAgg3
  z3 := Tryz.sizeOf3
  v3 := Tryz.zeroValue3
  t4 := Tryz.underlying4
  a4 := Tryz.isAgg4
  z4 := Tryz.sizeOf4
  v4 := Tryz.zeroValue4
  t5 := Tryz.underlying5
  a5 := Tryz.isAgg5
  z5 := Tryz.sizeOf5
  v5 := Tryz.zeroValue5
  t9 := Tryz.underlying9
  a9 := Tryz.isAgg9
  z9 := Tryz.sizeOf9
  v9 := Tryz.zeroValue9
  t31 := Tryz.underlying30
  a31 := Tryz.isAgg30
  z31 := Tryz.sizeOf30
  v31 := Tryz.zeroValue30
  t46 := Tryz.underlying81
  a46 := Tryz.isAgg81
  z46 := Tryz.sizeOf81
  v46 := Tryz.zeroValue81
  t51 := Tryz.underlying110
  a51 := Tryz.isAgg110
  z51 := Tryz.sizeOf110
  v51 := Tryz.zeroValue110
  t53 := Tryz.underlying112
  a53 := Tryz.isAgg112
  z53 := Tryz.sizeOf112
  v53 := Tryz.zeroValue112
  t131 := Tryz.underlying107
  a131 := Tryz.isAgg107
  z131 := Tryz.sizeOf107
  v131 := Tryz.zeroValue107
  t182 := Tryz.underlying102
  a182 := Tryz.isAgg102
  z182 := Tryz.sizeOf102
  v182 := Tryz.zeroValue102
  t183 := Tryz.underlying103
  a183 := Tryz.isAgg103
  z183 := Tryz.sizeOf103
  v183 := Tryz.zeroValue103
  t218 := Tryz.underlying142
  a218 := Tryz.isAgg142
  z218 := Tryz.sizeOf142
  v218 := Tryz.zeroValue142
  t222 := Tryz.underlying146
  a222 := Tryz.isAgg146
  z222 := Tryz.sizeOf146
  v222 := Tryz.zeroValue146
  t228 := Tryz.underlying182
  a228 := Tryz.isAgg182
  z228 := Tryz.sizeOf182
  v228 := Tryz.zeroValue182
  t229 := Tryz.underlying183
  a229 := Tryz.isAgg183
  z229 := Tryz.sizeOf183
  v229 := Tryz.zeroValue183 }
open Go.Sort Go.RowKit in
theorem Tryz.slices_Sort_string (blk off cap : Nat) (ss : List (List UInt8)) (w : World) (hH : Holds encStr w blk off ss.toArray) (hblk : blk < w.heap.size) (hsz : ss.length < 4611686018427387904) :
    Calls Tryz.prog 26 #[.slice (some ⟨blk, off, none⟩) ss.length cap] w fun e w' =>
      e = .returned (.tuple #[]) ∧ ∃ n os, w' = grow (putRow encStr (Sort.ahead w n) blk off (ss.mergeSort fun x y => decide (x ≤ y)).toArray) os := Any.slices_Sort_string Tryz.lays190 blk off cap ss w hH hblk hsz
open Go.RowKit Go.Sort in
/-- .. and plain. (LAID: no walk: one application.) -/
theorem Tryz.slices_Sort_string_none (p : Option Addr) (cap : Nat) (w : World) :
    Calls Tryz.prog 26 #[.slice p 0 cap] w fun e w' => e = .returned (.tuple #[]) ∧ w' = w := Any.slices_Sort_string_none Tryz.lays190 p cap w

end Go.Proofs

namespace Go.Proofs.YtnhcjgnohnedaaaGreatDoor
open Go.RowKit Go.Sort
open Go.Proofs (encStr)

/-- A row of strings is sorted. -/
theorem sort_row (v : Value) (B : Nat) (ss : List (List UInt8)) (w : World) (hrow : w.ownsRow B 9 1 v ss.length (ss.map encStr)) (hsz : ss.length ≤ 1000000) :
    Calls Tryz.prog 26 #[v] w fun e w' => e = .returned (.tuple #[]) ∧ w'.ownsRow B 9 1 v ss.length ((ss.mergeSort leB).map encStr) ∧ w.grownBy w' v.ownBlock := by
  rcases hrow.2 with ⟨rfl, h0⟩ | ⟨g, cap, cur, rfl, hbase, hb, h1, h2, h3, h4⟩
  · have hss : ss = [] := List.eq_nil_of_length_eq_zero h0
    subst hss
    refine (Tryz.slices_Sort_string_none none 0 w).mono ?_
    rintro e w' ⟨rfl, rfl⟩
    refine ⟨rfl, ?_, grown_refl _ _⟩
    simpa using hrow
  · refine (Tryz.slices_Sort_string g 0 cap ss w (holds_of_block hb (by simpa using h4)) (Array.getElem?_eq_some_iff.1 hb).1 (by omega)).mono ?_
    rintro e w' ⟨rfl, n, os, rfl⟩
    exact ⟨rfl, ownsRow_sorted (by simp) hbase hb h1 h2 h3, grownBy_sorted _⟩

namespace Mx
def isMacS (f : ByteArray → Mean) (x : List UInt8) : Prop := ∃ m, f ⟨x.toArray⟩ = .mac m
/-- The names of macros that have come. -/
def Mc (D0 : DataW Value) (f : ByteArray → Mean) (left : Lit → Bool) (ss : List (List UInt8)) : Prop := ss.Nodup ∧ ∀ x, x ∈ ss ↔ (Maps.has D0 (.string x) = true ∧ left (.string x) = false ∧ isMacS f x)
theorem Mc.start (D0 : DataW Value) (f : ByteArray → Mean) : Mc D0 f (Maps.has D0) [] := ⟨List.nodup_nil, fun x => by cases Maps.has D0 (.string x) <;> simp⟩
theorem Mc.step_yes {D0 : DataW Value} {f : ByteArray → Mean} {left : Lit → Bool} {ss : List (List UInt8)} (h : Mc D0 f left ss) {x : List UInt8} {y : DataW Value} (hlk : left (.string x) = true) (hat : ∀ zd, D0.atKey (.string x) zd = y) (hm : isMacS f x) : Mc D0 f (fun z => left z && !z.sameKey (.string x)) (ss ++ [x]) := by
  have hhas : Maps.has D0 (.string x) = true := Maps.has_true_of_atKey hat
  have hnew : x ∉ ss := fun hx => by have := ((h.2 x).1 hx).2.1; rw [hlk] at this; cases this
  refine ⟨List.nodup_append.2 ⟨h.1, by simp, fun a ha b hb => by simp at hb; subst hb; exact fun e => hnew (e ▸ ha)⟩, fun y => ?_⟩
  by_cases hy : y = x
  · subst hy; simp [hhas, Lit.sameKey, hm]
  · simp [h.2 y, hy, Lit.sameKey]
theorem Mc.step_no {D0 : DataW Value} {f : ByteArray → Mean} {left : Lit → Bool} {ss : List (List UInt8)} (h : Mc D0 f left ss) {x : List UInt8} (hm : ¬ isMacS f x) : Mc D0 f (fun z => left z && !z.sameKey (.string x)) ss := by
  refine ⟨h.1, fun y => ?_⟩
  by_cases hy : y = x
  · subst hy; simp [h.2 y, hm]
  · simp [h.2 y, hy, Lit.sameKey]
/-- What Macros returns: the names, rising. -/
def IsMacros (l : List Tv) (L : List (List UInt8)) : Prop := ∃ ns : List (List UInt8), ns.Nodup ∧ L = ns.mergeSort leB ∧ ns.length ≤ 1000000 ∧ ∀ x : List UInt8, x ∈ ns ↔ (x.length ≤ maxLen ∧ l.all Tv.ok = true ∧ ∃ s, expanded l = .ok () s ∧ isMacS s.means x)
/-- Between two names. -/
structure MLp (w W5 : World) (s : St) (mb n : Nat) (D : DataW Value) (r : Nat) (v : Value) (wr : World) : Prop where
  ex : ∃ left cnt ss, wr.ranges Tryz.prog 9 rawElem mb r n D left cnt ∧ wr.ownsRow W5.heap.size 9 1 v ss.length (ss.map encStr) ∧ Mc D s.means left ss ∧ ss.length + cnt ≤ n
  below : Below W5.heap.size W5 wr
  lo : W5.heap.size ≤ r
end Mx
set_option maxRecDepth 100000 in
set_option maxHeartbeats 8000000 in
theorem macros_any (A : Option Addr) (c : Nat) (l : List Tv) (w : World) (he : EnvL w) (h1 : TokSl w w.heap.size A l) (hc : l.length ≤ c) (hl : l.length ≤ 9223372036854775807) (hf : ∀ x ∈ l, x.fit) :
    Calls Tryz.prog 13 #[.slice A l.length c] w fun e w' => ∃ v L, e = .returned (.tuple #[v, (Mx.expandF l).agg]) ∧ Mx.IsMacros l L ∧ w'.ownsRow w.heap.size 9 1 v L.length (L.map encStr) ∧ Below w.heap.size w w' := by
  have HX := Lib.hid (fun W (hW : EnvL W) (h : TokSl W W.heap.size A l) => expanded_all A c l W hW h hc hl hf)
  have H1 := Lib.hid h1
  have HE := Lib.hid he
  obtain ⟨⟨fc, fn, fl, fo⟩, hF⟩ : ∃ f, f = Mx.expandF l := ⟨_, rfl⟩
  rw [← hF] at HX ⊢
  unfold Mx.Flt.agg at *
  dsimp only at HX ⊢
  obtain ⟨n, hn⟩ : ∃ n, n = l.length := ⟨_, rfl⟩
  rw [← hn] at HX ⊢
  clear h1 he hc hl hf hF hn
  go_enter Tryz.func13, Tryz.ntmps13
  go_wp2_with fail
  refine (HX.out _ (HE.out.below ((Below.refl _ _).alloc (Nat.le_refl _) _)) ((H1.out.below ((Below.refl _ _).alloc (Nat.le_refl _) _)).more (by simp))).mono ?_
  rintro e w1 ⟨cE, rfl, ⟨vr, vl, lk, lt, lp, lq, la, lc, st, vm, vg, sv, vo, rfl, ⟨A1, n1, c1, rfl⟩, ⟨A2, n2, c2, rfl⟩, ⟨A3, n3, c3, rfl⟩, hout, hmac⟩, hb⟩
  obtain ⟨A4, c4, rfl, -⟩ := hout.sl
  obtain ⟨n4, hn4⟩ : ∃ n4, n4 = (Mx.expandO l).length := ⟨_, rfl⟩
  rw [← hn4]
  have B1 := Lib.hid (((Below.refl w.heap.size w).alloc (Nat.le_refl _) (.cells #[.int .i64 0, .string ⟨#[]⟩, .int .i64 0, .int .i64 0] 27)).trans (hb.mono (by simp)))
  have K1 := Lib.hid ((hb.block w.heap.size (by simp)).trans (heap_alloc_new w (.cells #[.int .i64 0, .string ⟨#[]⟩, .int .i64 0, .int .i64 0] 27)))
  have cl : w.heap.size < w1.heap.size := (Array.getElem?_eq_some_iff.1 K1.out).1
  have HMAC := Lib.hid hmac
  clear hb hout hn4 hmac
  have hmx : Tryz.prog.follows .mixedOrders = true := by kernel_rfl
  go_upto_region 2 with fail
  obtain ⟨W5, hW5⟩ : ∃ W5, (w1.alloc (.cells #[.slice A1 n1 c1, .slice A2 n2 c2, .int .i64 lk, .string lt, .int .i64 lp, .int .i64 lq, .int .i64 la, .int .i64 lc, .int .i64 st, .map vm, .slice A3 n3 c3, .bool sv, .slice A4 n4 c4] 48)).alloc (.cells #[.int .i64 fc, .string fn, .int .i64 fl, .int .i64 fo] 27) = W5 := ⟨_, rfl⟩
  have B5 : Hid (Below w1.heap.size w1 W5) := Lib.hid (by rw [← hW5]; exact ((Below.refl _ _).alloc (Nat.le_refl _) _).alloc (by simp) _)
  have k5 : W5.heap[w1.heap.size]? = some (.cells #[.slice A1 n1 c1, .slice A2 n2 c2, .int .i64 lk, .string lt, .int .i64 lp, .int .i64 lq, .int .i64 la, .int .i64 lc, .int .i64 st, .map vm, .slice A3 n3 c3, .bool sv, .slice A4 n4 c4] 48) := by rw [← hW5]; exact blk_alloc (heap_alloc_new w1 _) _
  have k6 : W5.heap[w1.heap.size + 1]? = some (.cells #[.int .i64 fc, .string fn, .int .i64 fl, .int .i64 fo] 27) := by rw [← hW5]; exact blk_new2 w1 _ _
  have K5 := Lib.hid ((B5.out.block w.heap.size cl).trans K1.out)
  have KF := Lib.hid k6
  have x9 : W5.cell? ⟨w1.heap.size, 9, none⟩ = some (.map vm) := cell_of_row _ _ 9 _ _ _ k5
  rw [hW5]
  clear hW5 k5 k6
  rcases HMAC.out with ⟨s, X, nn, mb, hok, hx, rfl, hmap, hnn, hmb⟩ | ⟨rfl, hno⟩
  · obtain ⟨D, ⟨es, clock, hh, rr⟩, hsp⟩ := hmap.ex
    have HOWN : Hid (W5.ownsMap Tryz.prog 9 Mx.rawElem mb nn D) := Lib.hid ⟨es, clock, (B5.out.block _ (Array.getElem?_eq_some_iff.1 hh).1).trans hh, rr⟩
    have HSP := Lib.hid hsp
    have HOK := Lib.hid hok
    have HXX := Lib.hid hx
    clear hsp hmap hh rr hok hx
    go_wp2_with (at_range; refine wpList_range_own _ rfl _ 45 rfl 9 60 str_key Tryz.underlying45 Mx.rawElem mb nn D rfl HOWN.out ?_; intro w0 hrg0 hg0 hs0)
    obtain ⟨r, hr⟩ : ∃ r, r = W5.heap.size := ⟨_, rfl⟩
    rw [← hr] at hrg0 ⊢
    have I0 : Hid (Mx.MLp w W5 s mb nn D r (.slice none 0 0) w0) := Lib.hid ⟨⟨_, _, [], hrg0, World.ownsRow_nil _ _ _ _, Mx.Mc.start D s.means, by have := HOWN.out.size_le; simp; omega⟩, ⟨hg0.os, hg0.tape, hg0.output, by omega, fun k hk => hg0.block k hk (by simp)⟩, by omega⟩
    have HR := Lib.hid hr
    clear hrg0 hg0 hs0 hr
    go_frame
    go_loopw [6] (fun v6 wr => Hid (Mx.MLp w W5 s mb nn D r v6 wr)) (fun _ wr => wr.rangeLeft mb r)
    case atStart => exact I0
    case round =>
      obtain ⟨left, cnt, ss, hrg, hrow, hmc, hcnt⟩ := hrel.out.ex
      have t1 := Mx.ta_var_mac
      have t2 := Mx.ta_word_mac
      have t3 := Mx.ta_mac_mac
      have HRG := Lib.hid hrg
      have HROW := Lib.hid hrow
      have HMC := Lib.hid hmc
      have HCN := Lib.hid hcnt
      clear hrg hrow hmc hcnt
      go_wp2_with (at_next; refine wpList_next_ranges _ rfl _ rfl 9 str_key Mx.rawElem encStr (fun v : Value => v) (fun key kl hk => by obtain ⟨x, hx, _⟩ := Maps.keyOf_str Tryz.underlying9 hk; exact ⟨x, hx⟩) (fun v y hv => ⟨v, rfl⟩) mb r nn D left cnt rfl HRG.out ?_ ?_)
      · intro _ hl0
        have CS := Lib.hid (sort_row u6 W5.heap.size ss wr HROW.out (by have := HCN.out; omega))
        have HL0 := Lib.hid hl0
        clear hl0
        go_wp2_with fail
        refine CS.out.mono ?_; rintro e w7 ⟨rfl, own7, gr7⟩
        have hlow : ∀ k, k < W5.heap.size → w7.heap[k]? = W5.heap[k]? := fun k hk => (gr7.block k (Nat.lt_of_lt_of_le hk hrel.out.below.size) (row_ne_low HROW.out hk)).trans (hrel.out.below.block k hk)
        have hB7 : Below W5.heap.size W5 w7 := ⟨gr7.os.trans hrel.out.below.os, gr7.tape.trans hrel.out.below.tape, gr7.output.trans hrel.out.below.output, Nat.le_trans hrel.out.below.size gr7.size, hlow⟩
        have HB7 := Lib.hid hB7
        have HOWN7 := Lib.hid own7
        have K7 := Lib.hid ((hlow _ (Array.getElem?_eq_some_iff.1 K5.out).1).trans K5.out)
        obtain ⟨⟨d0, d1, d2, d3⟩, ⟨f0, f1, f2, f3⟩, dl⟩ := blk4 K7.out
        obtain ⟨⟨y0, y1, y2, y3⟩, -, yl⟩ := blk4 ((hlow _ (Array.getElem?_eq_some_iff.1 KF.out).1).trans KF.out)
        clear own7 gr7 hlow hB7
        go_wp2_with fail
        go_still_tail 3, hmx
        go_wp2_with fail
        have h4 := set4 K7.out (.int .i64 fc) (.string fn) (.int .i64 fl) (.int .i64 fo)
        have hBB := (B1.out.trans (B5.out.mono B1.out.size)).trans (HB7.out.mono (by have h1 := B1.out.size; have h2 := B5.out.size; omega))
        have BB := below4 hBB (Nat.le_refl w.heap.size) (.int .i64 fc) (.string fn) (.int .i64 fl) (.int .i64 fo)
        have T := turns4 (fun k => k = w.heap.size) w7 rfl (.int .i64 fc) (.string fn) (.int .i64 fl) (.int .i64 fo)
        obtain ⟨⟨q0, q1, q2, q3⟩, -, -⟩ := blk4 h4
        refine bodyPost_ret (v := .tuple #[u6, .agg #[.int .i64 fc, .string fn, .int .i64 fl, .int .i64 fo]]) (by simp [results, Tryz.results13, go_sem, q0, q1, q2, q3]) rfl ⟨_, ss.mergeSort leB, rfl, ⟨ss, HMC.out.1, rfl, by have := HCN.out; omega, fun x => ?_⟩, ?_, BB.drew⟩
        · rw [HMC.out.2 x, HL0.out]
          constructor
          · rintro ⟨h1, -, h3⟩
            refine ⟨?_, HOK.out, s, HXX.out, h3⟩
            obtain ⟨es', rfl, hko⟩ := HOWN.out.keysOf
            rw [Maps.has_eq, List.any_eq_true] at h1
            obtain ⟨p, hp, hs⟩ := h1
            obtain ⟨kv, hkv⟩ := hko p hp
            obtain ⟨a, -, ha, hal⟩ := Maps.keyOf_str Tryz.underlying9 hkv
            rw [ha] at hs
            have : a = x := by simpa [Lit.sameKey] using hs
            rw [← this]; exact hal
          · rintro ⟨h1, -, s', h2, h3⟩
            rw [HXX.out] at h2
            injection h2 with _ h2
            subst h2
            refine ⟨?_, rfl, h3⟩
            rcases HSP.out ⟨x.toArray⟩ (by show x.length ≤ maxLen; exact h1) with ⟨-, h5⟩ | ⟨h5, -⟩
            · obtain ⟨m, hm⟩ := h3
              rw [h5] at hm; cases hm
            · exact h5
        · have hr7 : w7.ownsRow w.heap.size 9 1 u6 (ss.mergeSort leB).length ((ss.mergeSort leB).map encStr) := by
            rw [List.length_mergeSort]
            exact ⟨HOWN7.out.1, HOWN7.out.2.imp id (fun ⟨g, cap, cur, e, h1, h2⟩ => ⟨g, cap, cur, e, by have h3 := B1.out.size; have h4 := B5.out.size; omega, h2⟩)⟩
          refine Mx.row_keep hr7 (fun k hk => T.block k (World.ownsRow.lt HOWN7.out k hk).2 (fun e => ?_))
          have e' : k = w.heap.size := e
          have := (World.ownsRow.lt HOWN7.out k hk).1
          have h3 := B5.out.size
          omega
      · intro x cv kl yd1 yd2 w2 cnt2 hkey hlk hv hat hrg2 hlt hg2 hs2 hen
        obtain ⟨x', ex, rfl, hxl⟩ := Maps.keyOf_str Tryz.underlying9 hkey
        obtain rfl : x = x' := encStr_inj ex
        have hv' : yd1 = .held cv := by
          have : Mx.rawElem cv = some (yd1, yd2) := hv
          unfold Mx.rawElem at this
          simp at this
          exact this.1.symm
        subst hv'
        have hat' : ∀ zd, D.atKey (.string x) zd = .held cv := hat
        have hbl2 : Below W5.heap.size W5 w2 := hrel.out.below.trans ⟨hg2.os, hg2.tape, hg2.output, hg2.size, fun k hk => hg2.block k (Nat.lt_of_lt_of_le hk hrel.out.below.size) (fun e => by injection e with e; have := hrel.out.lo; omega)⟩
        have hrow2 : w2.ownsRow W5.heap.size 9 1 u6 ss.length (ss.map encStr) := Mx.row_keep HROW.out (fun k hk => hg2.block k (World.ownsRow.lt HROW.out k hk).2 (fun e => row_ne_iter HROW.out HRG.out (by rw [hk, ← e])))
        have hmbl : mb < W5.heap.size := HOWN.out.lt
        have HBL2 := Lib.hid hbl2
        have HROW2 := Lib.hid hrow2
        have HRG2 := Lib.hid hrg2
        have HLT := Lib.hid hlt
        have HLK := Lib.hid hlk
        have HAT := Lib.hid hat'
        have HSZ2 := Lib.hid hs2
        have hno : ∀ m', s.means ⟨x.toArray⟩ = m' → (∀ m, m' ≠ .mac m) → ¬ Mx.isMacS s.means x := fun m' h1 h2 h3 => by
          obtain ⟨m, hm⟩ := h3
          rw [h1] at hm; exact h2 m hm
        obtain ⟨v', hv', his⟩ : ∃ v', (∀ z, D.atKey (.string x) z = .held v') ∧ Mx.IsMean w1 X v' (s.means ⟨x.toArray⟩) := by
          rcases HSP.out ⟨x.toArray⟩ (by show x.length ≤ maxLen; exact hxl) with ⟨h5, -⟩ | ⟨-, v', h6, h7⟩
          · have := Maps.has_true_of_atKey hat'
            have h5' : Maps.has D (.string x) = false := h5
            rw [this] at h5'; cases h5'
          · exact ⟨v', h6, h7⟩
        have hcv : cv = v' := by
          have h1 := hat' (.held .nilIface)
          rw [hv' (.held .nilIface)] at h1
          injection h1 with h1
          exact h1.symm
        subst hcv
        cases hm : s.means ⟨x.toArray⟩ with
        | var =>
          have HNO := Lib.hid (hno _ hm (fun m e => by cases e))
          rw [hm] at his
          obtain rfl : cv = _ := his
          clear hat hat' hv hv' hlk hlt hrg2 hg2 hs2 hrow2 hbl2 hno hkey hm
          go_wp2_with fail
          go_roundw
          case rel => exact Lib.hid ⟨⟨_, _, ss, HRG2.out, HROW2.out, HMC.out.step_no HNO.out, by have h1 := HCN.out; have h2 := HLT.out; omega⟩, HBL2.out, hrel.out.lo⟩
          case measure => rw [HRG2.out.left_eq, HRG.out.left_eq]; exact HLT.out
        | word z =>
          have HNO := Lib.hid (hno _ hm (fun m e => by cases e))
          rw [hm] at his
          obtain ⟨rfl, -⟩ : cv = _ ∧ _ := his
          clear hat hat' hv hv' hlk hlt hrg2 hg2 hs2 hrow2 hbl2 hno hkey hm
          go_wp2_with fail
          go_roundw
          case rel => exact Lib.hid ⟨⟨_, _, ss, HRG2.out, HROW2.out, HMC.out.step_no HNO.out, by have h1 := HCN.out; have h2 := HLT.out; omega⟩, HBL2.out, hrel.out.lo⟩
          case measure => rw [HRG2.out.left_eq, HRG.out.left_eq]; exact HLT.out
        | mac m =>
          have HYES : Hid (Mx.isMacS s.means x) := Lib.hid ⟨m, hm⟩
          rw [hm] at his
          obtain ⟨km, rfl, -⟩ := his
          have HROW3 := Lib.hid (World.ownsRow.alloc HROW2.out (.cells #[encStr x] 9))
          obtain ⟨i0, hi, hz0, hz1, hz2⟩ := info_parts Mx.info_str
          clear hat hat' hv hv' hlk hlt hrg2 hg2 hs2 hrow2 hbl2 hno hkey hm
          have hb5 : Hid (W5.heap.size ≤ (w2.alloc (.cells #[encStr x] 9)).heap.size) := Lib.hid (by have := HBL2.out.size; simp; omega)
          have HC1 : Hid (∀ j u, [encStr x][j]? = some u → (w2.alloc (.cells #[encStr x] 9)).cell? ((⟨w2.heap.size, 0, none⟩ : Addr).add j) = some u) := Lib.hid (new_cells (heap_alloc_new w2 _))
          have HC2 : Hid (∀ u ∈ [encStr x], u.oneCell' = true) := Lib.hid (by intro u hu; rw [List.mem_singleton] at hu; subst hu; rfl)
          have HC3 : Hid (ss.length + 1 ≤ maxLen) := Lib.hid (by have := HCN.out; have := HLT.out; unfold maxLen; omega)
          have HC4 : Hid ((ss.length + 1) * 16 ≤ 140737488355328) := Lib.hid (by have := HCN.out; omega)
          go_wp2_with (at_builtin; refine wpList_append_own_at _ rfl _ _ 30 rfl W5.heap.size 9 i0 (.string ⟨#[]⟩) 1 16 Tryz.underlying30 hi hz0 hz1 hz2 rfl (by decide) _ _ _ rfl HROW3.out ⟨w2.heap.size, 0, none⟩ 1 1 [encStr x] rfl rfl HC1.out HC2.out HC3.out HC4.out hb5.out ?_; intro v1 w3 own1 gr1 hn1 loc1)
          have h1 : (w2.alloc (.cells #[encStr x] 9)).heap.size = w2.heap.size + 1 := by simp
          have hrg3 := (HRG2.out.alloc (.cells #[encStr x] 9)).kept gr1 (row_ne_low HROW3.out hmbl) (row_ne_iter HROW3.out (HRG2.out.alloc _))
          have I3 : Hid (Mx.MLp w W5 s mb nn D r v1 w3) := Lib.hid ⟨⟨_, _, ss ++ [x], hrg3, by rw [List.length_append, List.map_append]; exact own1, HMC.out.step_yes HLK.out HAT.out HYES.out, by have h1 := HCN.out; have h2 := HLT.out; simp; omega⟩, HBL2.out.trans ⟨gr1.os, gr1.tape, gr1.output, by have := gr1.size; omega, fun k hk => (gr1.block k (by have := HBL2.out.size; omega) (row_ne_low HROW3.out hk)).trans (Below.heap_alloc w2 _ k (by have := HBL2.out.size; omega))⟩, hrel.out.lo⟩
          have HRG3 := Lib.hid hrg3
          clear own1 gr1 hn1 loc1 hrg3 h1
          go_roundw
          case rel => exact I3
          case measure => rw [HRG3.out.left_eq, HRG.out.left_eq]; exact HLT.out
  · have HNO := Lib.hid hno
    have hrg := run_range_nilMap (P := Tryz.prog) W5 45 9 60 Tryz.underlying45
    have hnx : ∀ ty, (Instr.next (.pointer (some ⟨W5.heap.size, 0, none⟩)) false ty).run Tryz.prog (W5.alloc (.mapIter none 0 #[] 0)) = _ := fun ty => run_next_nilMap W5 ty 0 0 #[]
    have CS := Lib.hid (fun W => sort_row (.slice none 0 0) W5.heap.size [] W (World.ownsRow_nil _ _ _ _) (by simp))
    clear hno
    go_wp2_with fail
    refine wp_loop_rounds 1 ?_
    rw [rounds_succ]
    go_wp2_with fail
    refine (CS.out _).mono ?_; rintro e w7 ⟨rfl, -, gr7⟩
    have hlow : ∀ k, k < W5.heap.size → w7.heap[k]? = W5.heap[k]? := fun k hk => (gr7.block k (by simp; omega) (fun e => by cases e)).trans (Below.heap_alloc W5 _ k hk)
    have HB7 : Hid (Below W5.heap.size W5 w7) := Lib.hid ⟨gr7.os, gr7.tape, gr7.output, by have := gr7.size; simp at this; omega, hlow⟩
    have K7 := Lib.hid ((hlow _ (Array.getElem?_eq_some_iff.1 K5.out).1).trans K5.out)
    obtain ⟨⟨d0, d1, d2, d3⟩, ⟨f0, f1, f2, f3⟩, dl⟩ := blk4 K7.out
    obtain ⟨⟨y0, y1, y2, y3⟩, -, yl⟩ := blk4 ((hlow _ (Array.getElem?_eq_some_iff.1 KF.out).1).trans KF.out)
    clear gr7 hlow hrg hnx
    go_wp2_with fail
    go_still_tail 3, hmx
    go_wp2_with fail
    have h4 := set4 K7.out (.int .i64 fc) (.string fn) (.int .i64 fl) (.int .i64 fo)
    have hBB := (B1.out.trans (B5.out.mono B1.out.size)).trans (HB7.out.mono (by have h1 := B1.out.size; have h2 := B5.out.size; omega))
    have BB := below4 hBB (Nat.le_refl w.heap.size) (.int .i64 fc) (.string fn) (.int .i64 fl) (.int .i64 fo)
    obtain ⟨⟨q0, q1, q2, q3⟩, -, -⟩ := blk4 h4
    refine bodyPost_ret (v := .tuple #[.slice none 0 0, .agg #[.int .i64 fc, .string fn, .int .i64 fl, .int .i64 fo]]) (by simp [results, Tryz.results13, go_sem, q0, q1, q2, q3]) rfl ⟨_, [], rfl, ⟨[], List.nodup_nil, by simp, by simp, fun x => ?_⟩, World.ownsRow_nil _ _ _ _, BB.drew⟩
    constructor
    · intro h; simp at h
    · rintro ⟨-, h1, s, h2, -⟩
      exact absurd ⟨h1, s, h2⟩ HNO.out
end Go.Proofs.YtnhcjgnohnedaaaGreatDoor
