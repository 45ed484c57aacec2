/-
  The words of the language, rising.
  Contracts of package lex: the longest sign ahead; names, numerals, strings.
  A contract of sort.Search laid at this dump, by the library's theorem.
-/
import Derived.Test.YtmfbnlaohlnljaaGreatDoorLxM3
import Derived.Test.YtmfbnlaohlnljaaGreatDoorLxD
import Derived.Shelf.SlSorted.Search
import Derived.Test.YtmfbnlaohlnljaaGreatDoorProg
namespace Go.Proofs.YtmfbnlaohlnljaaGreatDoor
namespace Lx
def wds : List (List UInt8) := [[97, 98, 115],
  [97, 108, 115, 111],
  [97, 110, 100],
  [97, 110, 103, 108, 101],
  [98, 101, 103, 105, 110, 99, 104, 97, 114],
  [98, 101, 103, 105, 110, 103, 114, 111, 117, 112],
  [98, 111, 111, 108, 101, 97, 110],
  [99, 104, 97, 114],
  [99, 108, 105, 112],
  [99, 111, 100, 101],
  [99, 111, 110, 116, 114, 111, 108, 115],
  [99, 111, 115, 100],
  [99, 117, 114, 108],
  [99, 121, 99, 108, 101],
  [100, 101, 99, 105, 109, 97, 108],
  [100, 101, 102],
  [100, 105, 114],
  [100, 105, 114, 101, 99, 116, 105, 111, 110],
  [100, 111, 116, 112, 114, 111, 100],
  [100, 114, 97, 119],
  [101, 108, 115, 101],
  [101, 108, 115, 101, 105, 102],
  [101, 110, 100, 99, 104, 97, 114],
  [101, 110, 100, 100, 101, 102],
  [101, 110, 100, 102, 111, 114],
  [101, 110, 100, 103, 114, 111, 117, 112],
  [101, 118, 101, 110, 99, 108, 105, 112],
  [101, 118, 101, 110, 102, 105, 108, 108],
  [101, 120, 105, 116, 105, 102],
  [102, 97, 108, 115, 101],
  [102, 105],
  [102, 105, 108, 108],
  [102, 108, 111, 111, 114],
  [102, 111, 114],
  [102, 111, 114, 101, 118, 101, 114],
  [105, 100, 101, 110, 116, 105, 116, 121],
  [105, 102],
  [105, 110, 118, 101, 114, 115, 101],
  [107, 101, 114, 110],
  [107, 110, 111, 119, 110],
  [108, 101, 110, 103, 116, 104],
  [108, 101, 116],
  [108, 105, 103, 116, 97, 98, 108, 101],
  [109, 101, 115, 115, 97, 103, 101],
  [109, 111, 100],
  [110, 111, 116],
  [110, 117, 109, 101, 114, 105, 99],
  [111, 100, 100],
  [111, 102],
  [111, 114],
  [112, 97, 105, 114],
  [112, 97, 116, 104],
  [112, 101, 110],
  [112, 101, 110, 99, 105, 114, 99, 108, 101],
  [112, 101, 110, 115, 113, 117, 97, 114, 101],
  [112, 105, 99, 107, 117, 112],
  [112, 111, 105, 110, 116],
  [112, 111, 115, 116, 99, 111, 110, 116, 114, 111, 108],
  [112, 114, 101, 99, 111, 110, 116, 114, 111, 108],
  [114, 101, 118, 101, 114, 115, 101],
  [114, 111, 116, 97, 116, 101, 100],
  [115, 97, 118, 101],
  [115, 99, 97, 108, 101, 100],
  [115, 104, 105, 102, 116, 101, 100],
  [115, 104, 111, 119],
  [115, 105, 110, 100],
  [115, 108, 97, 110, 116, 101, 100],
  [115, 113, 114, 116],
  [115, 116, 101, 112],
  [115, 116, 114, 105, 110, 103],
  [115, 117, 98, 112, 97, 116, 104],
  [116, 101, 110, 115, 105, 111, 110],
  [116, 114, 97, 110, 115, 102, 111, 114, 109],
  [116, 114, 97, 110, 115, 102, 111, 114, 109, 101, 100],
  [116, 114, 117, 101],
  [117, 110, 99, 108, 105, 112],
  [117, 110, 107, 110, 111, 119, 110],
  [117, 110, 116, 105, 108],
  [119, 105, 116, 104, 105, 110, 107],
  [120, 112, 97, 114, 116],
  [120, 115, 99, 97, 108, 101, 100],
  [120, 120, 112, 97, 114, 116],
  [120, 121, 112, 97, 114, 116],
  [121, 112, 97, 114, 116],
  [121, 115, 99, 97, 108, 101, 100],
  [121, 120, 112, 97, 114, 116],
  [121, 121, 112, 97, 114, 116]]
theorem wds_len : wds.length = 87 := rfl
end Lx
end Go.Proofs.YtmfbnlaohlnljaaGreatDoor

namespace Go.Proofs.YtmfbnlaohlnljaaGreatDoor
open Go.RowKit

def strsV (l : List (List UInt8)) : Array Value := (l.map fun s => Value.string ⟨s.toArray⟩).toArray
theorem strsV_size (l : List (List UInt8)) : (strsV l).size = l.length := by simp [strsV]
theorem strsV_get (l : List (List UInt8)) (k : Nat) (h : k < l.length) : (strsV l)[k]? = some (.string ⟨(l.getD k []).toArray⟩) := by
  simp [strsV, List.getD, List.getElem?_eq_getElem h]
/-- What the world keeps: the library's table, the signs, the words. -/
structure EnvL (w : World) : Prop extends Env w where
  sg : ∃ t fr, w.heap[1]? = some (.cells (strsV Lx.sgs) t fr)
  wd : ∃ t fr, w.heap[0]? = some (.cells (strsV Lx.wds) t fr)
theorem EnvL.below {w w' : World} (h : EnvL w) (hb : Below w.heap.size w w') : EnvL w' := by
  refine ⟨h.toEnv.below hb, ?_, ?_⟩
  · obtain ⟨t, fr, ht⟩ := h.sg
    exact ⟨t, fr, (hb.block _ (Array.getElem?_eq_some_iff.1 ht).1).trans ht⟩
  · obtain ⟨t, fr, ht⟩ := h.wd
    exact ⟨t, fr, (hb.block _ (Array.getElem?_eq_some_iff.1 ht).1).trans ht⟩

theorem run_index_strs {P : Program} (t e : TypeId) (n : Nat) (A : Array Value) (v : Value) (k : Nat) (h : P.underlying t = some (.array n e)) (ha : ∀ w, (isAgg e).run P w = .ok false w) (hz : ∀ w, (sizeOf e).run P w = .ok 1 w)
    (hk : k < n) (hv : A[k]? = some v) (w : World) : (Instr.index t (.agg A) (.int .i64 (k : Int))).run P w = .ok v w := by
  have h2 : ((0 : Int) ≤ (k : Int) ∧ (k : Int) < n) := by omega
  simp [Instr.index, asIntOf, run_underlying h, h2, hz, part, ha, hv]
  omega

set_option maxRecDepth 100000 in
set_option maxHeartbeats 1000000 in
theorem signAhead_any (s : ByteArray) (w : World) (he : EnvL w) :
    Calls Tryz.prog 50 #[.string s] w fun e w' => e = .returned (.string ⟨(Lx.sgn s.data.toList).toArray⟩) ∧ w = w' := by
  obtain ⟨tt, fr, hg⟩ := he.sg
  obtain ⟨A, hA⟩ : ∃ A, A = strsV Lx.sgs := ⟨_, rfl⟩
  rw [← hA] at hg
  have hsz : A.size = 31 := by rw [hA]; rfl
  have HI : Hid (∀ k : Nat, k < 31 → ∀ w, (Instr.index 125 (.agg A) (.int .i64 (k : Int))).run Tryz.prog w = .ok (.string ⟨(Lx.sgs.getD k []).toArray⟩) w) := fun k hk w =>
    run_index_strs _ 9 31 A _ k Tryz.underlying125 Tryz.isAgg9 Tryz.sizeOf9 hk (by rw [hA]; exact strsV_get Lx.sgs k hk) w
  clear hA he
  have H1 : Hid (∀ k : Nat, k < 31 → (∀ i, i < k → (Lx.sgs.getD i []).isPrefixOf s.data.toList = false) → (Lx.sgs.getD k []).isPrefixOf s.data.toList = true → Lx.sgn s.data.toList = Lx.sgs.getD k []) := fun k => Lx.sgn_hit s.data.toList k
  have H2 : Hid ((∀ i, i < 31 → (Lx.sgs.getD i []).isPrefixOf s.data.toList = false) → Lx.sgn s.data.toList = []) := Lx.sgn_none s.data.toList
  obtain ⟨G, hG⟩ : ∃ G : Nat → List UInt8, G = fun k => Lx.sgs.getD k [] := ⟨_, rfl⟩
  have hGk : ∀ k, Lx.sgs.getD k [] = G k := fun k => by rw [hG]
  simp only [hGk] at HI H1 H2
  clear hG hGk
  obtain ⟨R, hR⟩ : ∃ R, R = Lx.sgn s.data.toList := ⟨_, rfl⟩
  rw [← hR] at H1 H2 ⊢
  clear hR
  have hin : (Tryz.prog.info? 125).map (·.size) = some 31 := by kernel_rfl
  rw [← hsz] at hin
  have HZ := Lib.hid hsz
  have HG := Lib.hid hg
  have HN := Lib.hid hin
  clear hsz hg hin
  go_enter Tryz.func50, Tryz.ntmps50
  go_wp2_with (refine wpList_load_row rfl 125 _ rfl 1 rfl tt _ fr _ HG.out Tryz.underlying125 rfl HN.out ?_)
  go_loop [6] (fun vi => ∃ k : Nat, vi = .int .i64 k ∧ k ≤ 31 ∧ Hid (∀ i, i < k → (G i).isPrefixOf s.data.toList = false)) (fun vi => 31 - (intOf vi).toNat)
  case atStart => exact ⟨0, rfl, by omega, fun i h => by omega⟩
  case round =>
    obtain ⟨k, rfl, hk, hall⟩ := hrel
    by_cases hlt : k < 31
    · have hix := HI.out k hlt
      cases hp : (G k).isPrefixOf s.data.toList
      · have HP := Lib.hid hp
        clear hp
        go_wp2_with fail
        refine (hasPrefix_any _ _ _).mono ?_; rintro e w' ⟨rfl, rfl⟩
        have hb : Lib.hasPrefix s.data.toList (⟨(G k).toArray⟩ : ByteArray).data.toList = false := by simpa [Lib.hasPrefix] using HP.out
        simp only [hb]
        clear hb
        go_wp2_with fail
        go_round
        case rel =>
          refine ⟨k + 1, by go_num, by omega, fun i hi => ?_⟩
          by_cases e : i = k
          · rw [e]; exact HP.out
          · exact hall.out i (by omega)
        case measure => simp [intOf]; omega
      · have HS := Lib.hid (H1.out k hlt hall.out hp)
        have HP := Lib.hid hp
        clear hp
        go_wp2_with fail
        refine (hasPrefix_any _ _ _).mono ?_; rintro e w' ⟨rfl, rfl⟩
        have hb : Lib.hasPrefix s.data.toList (⟨(G k).toArray⟩ : ByteArray).data.toList = true := by simpa [Lib.hasPrefix] using HP.out
        simp only [hb]
        clear hb
        go_wp2_with fail
        go_ret
        exact ⟨by rw [HS.out]; rfl, rfl⟩
    · obtain rfl : k = 31 := by omega
      have HS := Lib.hid (H2.out hall.out)
      go_wp2_with fail
      go_ret
      exact ⟨by rw [HS.out]; rfl, rfl⟩
end Go.Proofs.YtmfbnlaohlnljaaGreatDoor

namespace Go.Proofs
open Go.Shelf
def Tryz.search16_ren : Go.Shelf.Ren := ⟨fun | 16 => 48 | n => n, fun | 3 => 3 | 35 => 95 | 4 => 4 | 38 => 117 | n => n, fun | n => n⟩
theorem Tryz.search16 : Go.Proofs.SlLaysO.n16 Tryz.prog Tryz.search16_ren := {
  mixed := by kernel_rfl
  f16 := Tryz.func48.trans (congrArg some (by kernel_rfl))
  t3 := Tryz.underlying3
  a3 := Tryz.isAgg3
  z3 := Tryz.sizeOf3
  v3 := Tryz.zeroValue3
  t4 := Tryz.underlying4
  a4 := Tryz.isAgg4
  z4 := Tryz.sizeOf4
  v4 := Tryz.zeroValue4
  t35 := Tryz.underlying95
  a35 := Tryz.isAgg95
  z35 := Tryz.sizeOf95
  v35 := Tryz.zeroValue95
  t38 := Tryz.underlying117
  a38 := Tryz.isAgg117
  z38 := Tryz.sizeOf117
  v38 := Tryz.zeroValue117 }
end Go.Proofs
