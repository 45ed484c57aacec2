/-
  The walk of LexTexts: it returns true at any tokens.
-/
import Derived.Test.YtcgiibjkonleeaaGreatDoorLrG
namespace Go.Proofs.YtcgiibjkonleeaaGreatDoor
open Go.RowKit

set_option maxRecDepth 100000 in
set_option maxHeartbeats 8000000 in
theorem ltexts_any (A : Option Addr) (c : Nat) (l : List Tv) (w : World) (he : EnvL w) (h1 : TokSl w w.heap.size A l) (hl : l.length ≤ 9223372036854775807) (hf : ∀ x ∈ l, x.fit) :
    Calls Tryz.prog 4 #[.slice A l.length c] w fun e w' => e = .returned (.bool true) ∧ Below w.heap.size w w' := by
  have HE := Lib.hid he
  have HA := Lib.hid (fun W (hW : EnvL W) => lawake_any W hW)
  have C1 := Lib.hid (lshort_any A c l w h1 hl hf)
  have C2 := Lib.hid (fun W (hW : EnvL W) (hs : TokSl W W.heap.size A l) (hn : l.length ≤ 400) => text_any' A c l W hW hs (by omega) hf)
  have C3 := Lib.hid (fun W (hs : TokSl W W.heap.size A l) (hn : l.length ≤ 400) => rtextT_any A c l W hs hn hf)
  obtain ⟨TS, hTS⟩ : ∃ TS : ByteArray, TS = ⟨(textS l).toArray⟩ := ⟨_, rfl⟩
  obtain ⟨TE, hTE⟩ : ∃ TE, TE = textE l := ⟨_, rfl⟩
  rw [← hTS, ← hTE] at C2 C3
  have H1 := Lib.hid h1
  generalize hL : l.length = n at *
  clear he h1 hf hTS hTE hL
  go_enter Tryz.func4, Tryz.ntmps4
  go_wp2_with fail
  refine C1.out.mono ?_; rintro e w1 ⟨⟨b, rfl, hn⟩, hb⟩
  have B1 := Lib.hid hb
  have hz1 := hb.size
  clear hb
  cases b
  case false =>
    clear hn
    go_wp2_with fail
    refine (HA.out _ (HE.out.below B1.out)).mono ?_; rintro e w2 ⟨rfl, hb⟩
    go_wp2_with fail
    go_ret
    exact ⟨rfl, B1.out.trans (hb.mono B1.out.size)⟩
  have hn4 := hn rfl
  clear hn
  have S1 := Lib.hid (H1.out.below B1.out)
  go_wp2_with fail
  refine (C2.out _ (HE.out.below B1.out) (S1.out.more hz1) hn4).mono ?_; rintro e w2 ⟨rfl, hb⟩
  have B2 := Lib.hid (B1.out.trans (hb.mono B1.out.size))
  have S2 := Lib.hid (H1.out.below B2.out)
  have hz2 := B2.out.size
  clear hb
  go_wp2_with fail
  refine (C3.out _ (S2.out.more hz2) hn4).mono ?_; rintro e w3 ⟨rfl, hb⟩
  have B3 := Lib.hid (B2.out.trans (hb.mono B2.out.size))
  clear hb
  go_wp2_with fail
  refine (HA.out _ (HE.out.below B3.out)).mono ?_; rintro e w4 ⟨rfl, hb⟩
  go_wp2_with fail
  go_ret
  exact ⟨rfl, B3.out.trans (hb.mono B3.out.size)⟩
end Go.Proofs.YtcgiibjkonleeaaGreatDoor
