/-
  The walk of LexWords: it returns true at any string.
-/
-- LAW 03
import Derived.Test.YtcgiibjkonleeaaDoorLxZ3
import Derived.Test.YtcgiibjkonleeaaDoorLxS
namespace Go.Proofs.YtcgiibjkonleeaaDoor
open Go.RowKit

set_option maxRecDepth 100000 in
set_option maxHeartbeats 8000000 in
theorem lwords_any (s : ByteArray) (w : World) (he : EnvL w) :
    Calls Tryd.prog 3 #[.string s] w fun e w' => e = .returned (.bool true) ∧ Below w.heap.size w w' := by
  have HE := Lib.hid he
  have HA := Lib.hid (fun W (hW : EnvL W) => lawake_any W hW)
  have C1 := Lib.hid (words_any w he)
  have C2 := Lib.hid (fun W => rwords_any W)
  have C3 := Lib.hid (fun W (hW : EnvL W) => word_any s W hW)
  have C4 := Lib.hid (fun W => rword_any s W)
  have C5 := Lib.hid (fun W (hW : EnvL W) => sign_any s W hW)
  have C6 := Lib.hid (fun W => rsign_any s W)
  have HWL : Hid (Lx.wds.length = 87) := (by decide +kernel : Lx.wds.length = 87)
  generalize decide (s.data.toList ∈ Lx.wds) = b1 at C3 C4
  generalize decide (s.data.toList ∈ Lx.sgs) = b2 at C5 C6
  generalize Lx.wds = WDS at C1 C2 HWL
  clear he
  go_enter Tryd.func3, Tryd.ntmps3
  go_wp2_with fail
  refine C1.out.mono ?_; rintro e w1 ⟨rfl, hg, hb⟩
  have B1 := Lib.hid hb
  have HG := Lib.hid hg
  have hgl := (Array.getElem?_eq_some_iff.1 hg).1
  clear hb hg
  go_wp2_with fail
  refine (C2.out _).mono ?_; rintro e w2 ⟨hb, v, rfl, own⟩
  have B2 := Lib.hid (B1.out.trans (hb.mono B1.out.size))
  have HG2 := Lib.hid ((hb.block w.heap.size hgl).trans HG.out)
  obtain ⟨A, c, rfl, hc⟩ := own.at
  rw [HWL.out] at hc ⊢
  have HC := Lib.hid hc
  clear hb own hc HG
  go_wp2_with fail
  go_loopg [15] 88 (fun k vi wr => ∃ i : Nat, vi = .int .i64 i ∧ i ≤ 87 ∧ 87 - i < k ∧ Hid (Below w2.heap.size w2 wr))
  case atStart => exact ⟨0, rfl, by omega, by omega, Below.refl _ _⟩
  case round =>
    obtain ⟨i, rfl, hk, hm, hbl⟩ := hrel
    by_cases hlt : i < 87
    · obtain ⟨g, rfl, -, hgl2, hcell0⟩ := HC.out i hlt
      have hadd := addr_row' g i
      have hadd2 := addr_row' w.heap.size i
      have hcell : wr.cell? ⟨g, i, none⟩ = some (.string ⟨(WDS.getD i []).toArray⟩) := (hbl.out.cell (p := ⟨g, i, none⟩) hgl2).trans hcell0
      have hcell2 : wr.cell? ⟨w.heap.size, i, none⟩ = some (.string ⟨(WDS.getD i []).toArray⟩) := by
        rw [hbl.out.cell (p := ⟨w.heap.size, i, none⟩) (Array.getElem?_eq_some_iff.1 HG2.out).1, cell_of_row _ _ i _ _ _ HG2.out]
        exact strsV_get WDS i (by rw [HWL.out]; exact hlt)
      clear hcell0
      generalize WDS.getD i [] = z at hcell hcell2
      go_wp2_with fail
      go_quiet (fail)
      go_wp2_with fail
      go_roundg (87 - i)
      case measure => exact hm
      case rel => exact ⟨i + 1, by go_num, by omega, by omega, below_drewN hbl.out _⟩
    · have B3 := Lib.hid (B2.out.trans (hbl.out.mono B2.out.size))
      clear HC HG2 hbl
      go_wp2_with fail
      refine (C3.out _ (HE.out.below B3.out)).mono ?_; rintro e w3 ⟨rfl, hb⟩
      have B4 := Lib.hid (B3.out.trans (hb.mono B3.out.size))
      clear hb
      go_wp2_with fail
      refine (C4.out _).mono ?_; rintro e w4 ⟨rfl, hb⟩
      have B5 := Lib.hid (B4.out.trans (hb.mono B4.out.size))
      clear hb
      go_wp2_with fail
      refine (C5.out _ (HE.out.below B5.out)).mono ?_; rintro e w5 ⟨rfl, rfl⟩
      go_wp2_with fail
      refine (C6.out _).mono ?_; rintro e w6 ⟨rfl, hb⟩
      have B6 := Lib.hid (B5.out.trans (hb.mono B5.out.size))
      clear hb
      go_wp2_with fail
      refine (HA.out _ (HE.out.below B6.out)).mono ?_; rintro e w7 ⟨rfl, hb⟩
      have B7 := Lib.hid (B6.out.trans (hb.mono B6.out.size))
      clear hb
      go_wp2_with fail
      go_ret
      exact ⟨rfl, B7.out⟩
end Go.Proofs.YtcgiibjkonleeaaDoor
