/-
  Contracts of the reference of layer 3: the sign with which a string begins.
  Contracts of the reference of layer 3: the token with which a string begins: names.
  The chapter's examples hold: awake returns true, in every world that keeps what the library reads.
  Numbers that lie in blocks that can be written (of XPower.lean, by itself).
-/
import Derived.Test.YtnhcjgnohnedaaaGreatDoorLrH
import Derived.Test.YtnhcjgnohnedaaaGreatDoorLxI
import Derived.Test.YtnhcjgnohnedaaaGreatDoorLxM2
namespace Go.Proofs.YtnhcjgnohnedaaaGreatDoor
open Go.RowKit

namespace Lx
/-- The longer of two, if it fits. -/
def bst (l b x : List UInt8) : List UInt8 := if b.length < x.length ∧ x.isPrefixOf l = true then x else b
theorem bst_keep (l x : List UInt8) (hx : x.isPrefixOf l = true) : ∀ L : List (List UInt8), (∀ y ∈ L, ¬ (x.length < y.length ∧ x.isPrefixOf y = true)) → L.foldl (bst l) x = x
  | [], _ => rfl
  | y :: L, h => by
    have e : bst l x y = x := by
      unfold bst
      rw [if_neg]
      rintro ⟨h1, h2⟩
      refine h y (by simp) ⟨h1, ?_⟩
      rw [List.isPrefixOf_iff_prefix] at hx h2 ⊢
      exact List.prefix_of_prefix_length_le hx h2 (by omega)
    rw [List.foldl_cons, e]
    exact bst_keep l x hx L fun z hz => h z (by simp [hz])
theorem bst_find (l : List UInt8) : ∀ L : List (List UInt8), L.Pairwise (fun x y => ¬ (x.length < y.length ∧ x.isPrefixOf y = true)) → (∀ x ∈ L, x ≠ []) → L.foldl (bst l) [] = ((L.find? fun s => s.isPrefixOf l).getD [])
  | [], _, _ => rfl
  | x :: L, hp, hn => by
    rw [List.foldl_cons, List.find?_cons]
    obtain ⟨h1, h2⟩ := List.pairwise_cons.1 hp
    cases hx : x.isPrefixOf l
    · have e : bst l [] x = [] := by unfold bst; rw [if_neg (by simp [hx])]
      rw [e]
      exact bst_find l L h2 fun y hy => hn y (by simp [hy])
    · have e : bst l [] x = x := by unfold bst; rw [if_pos ⟨List.length_pos_iff.2 (hn x (by simp)), hx⟩]
      rw [e]
      exact bst_keep l x hx L h1
theorem sgT_sgs : pg [] sgT = sgs := by decide +kernel
theorem sgs_pair : sgs.Pairwise (fun x y => ¬ (x.length < y.length ∧ x.isPrefixOf y = true)) := by decide +kernel
theorem sgs_ne : ∀ x ∈ sgs, x ≠ [] := fun x hx => List.ne_nil_of_length_pos (sgs_small x hx).1
theorem sgn_fold (l : List UInt8) : sgs.foldl (bst l) [] = sgn l := bst_find l sgs sgs_pair sgs_ne
theorem bst_yes (l b x : List UInt8) (h1 : b.length < x.length) (h2 : x.length ≤ l.length) (h3 : l.take x.length = x) : bst l b x = x := by
  unfold bst
  rw [if_pos ⟨h1, by rw [List.isPrefixOf_iff_prefix]; exact ⟨l.drop x.length, by have := List.take_append_drop x.length l; rw [h3] at this; exact this⟩⟩]
theorem bst_no (l b x : List UInt8) (h : ¬ (b.length < x.length) ∨ ¬ (x.length ≤ l.length) ∨ l.take x.length ≠ x) : bst l b x = b := by
  unfold bst
  rw [if_neg]
  rintro ⟨h1, h2⟩
  obtain ⟨h3, h4⟩ := prefix_take h2
  rcases h with h | h | h
  · exact h h1
  · exact h h3
  · exact h h4
end Lx

set_option maxRecDepth 100000 in
set_option maxHeartbeats 8000000 in
theorem rsgn_any (s : ByteArray) (w : World) (hs : s.size ≤ maxLen) :
    Calls Tryz.prog 87 #[.string s] w fun e w' => e = .returned (.string ⟨(Lx.sgn s.data.toList).toArray⟩) ∧ Below w.heap.size w w' := by
  have HP := Lib.hid (rparts_any Lx.sgT w (by rw [Lx.sgT_len]; decide))
  unfold PartsOf at HP
  obtain ⟨l, hl⟩ : ∃ l, l = s.data.toList := ⟨_, rfl⟩
  have hn : l.length = s.size := by rw [hl]; exact Lib.size_eq s ▸ rfl
  have HTK : Hid (∀ n, n ≤ s.size → s.extract 0 n = ⟨(l.take n).toArray⟩) := fun n h => by
    conv => lhs; rw [ba_list' s]
    rw [← hl, ext_head]
  rw [← hl, ← Lx.sgn_fold]
  rw [Lx.sgT_sgs] at HP
  have HPL : Hid (Lx.sgs.length = 31) := Lx.sgs_len
  have HSM : Hid (∀ x ∈ Lx.sgs, x.length ≤ 4) := fun x hx => (Lx.sgs_small x hx).2.1
  obtain ⟨R, hR⟩ : ∃ R : ByteArray, R = ⟨(Lx.sgs.foldl (Lx.bst l) []).toArray⟩ := ⟨_, rfl⟩
  rw [← hR]
  have HR := Lib.hid hR
  generalize Lx.sgs = P at HP HPL HSM HR
  unfold maxLen at hs
  clear hl hR
  go_enter Tryz.func87, Tryz.ntmps87
  go_wp2_with fail
  refine HP.out.mono ?_; rintro e w1 ⟨hb, v, rfl, own⟩
  obtain ⟨A, c, rfl, hc⟩ := own.at
  rw [HPL.out] at hc ⊢
  have HC := Lib.hid hc
  have B1 := Lib.hid hb
  clear own hc hb
  go_wp2_with fail
  go_loop [3, 8] (fun vb vi => ∃ (k : Nat) (b : List UInt8) (B : ByteArray), vi = .int .i64 k ∧ vb = .string B ∧ k ≤ 31 ∧ B.size ≤ 4 ∧ Hid (B = ⟨b.toArray⟩ ∧ b = (P.take k).foldl (Lx.bst l) [])) (fun _ vi => 31 - (intOf vi).toNat)
  case atStart => exact ⟨0, [], ⟨#[]⟩, rfl, rfl, by omega, by decide, rfl, rfl⟩
  case round =>
    obtain ⟨k, b, B, rfl, rfl, hk, hB4, hbb⟩ := hrel
    by_cases hlt : k < 31
    · obtain ⟨g, rfl, -, -, hcell⟩ := HC.out k hlt
      have hadd := addr_row' g k
      have hk2 : k < P.length := by rw [HPL.out]; exact hlt
      have hx4 : (P.getD k []).length ≤ 4 := HSM.out _ (by simp [List.getD, List.getElem?_eq_getElem hk2])
      have HNX : Hid ((P.take (k + 1)).foldl (Lx.bst l) [] = Lx.bst l b (P.getD k [])) := by
        show _ = _
        rw [List.take_succ_eq_append_getElem hk2, List.foldl_append, ← hbb.out.2]
        simp [List.getD, List.getElem?_eq_getElem hk2]
      generalize P.getD k [] = x at hcell hx4 HNX
      have hbs : B.size = b.length := by rw [hbb.out.1]; rfl
      obtain ⟨X, hX⟩ : ∃ X : ByteArray, X = ⟨x.toArray⟩ := ⟨_, rfl⟩
      have hxs : X.size = x.length := by rw [hX]; rfl
      rw [← hX] at hcell
      have HX := Lib.hid hX
      have KEEP : Hid (Lx.bst l b x = b → ∃ (k' : Nat) (b' : List UInt8) (B' : ByteArray), Value.int .i64 ((k : Int) + 1) = .int .i64 k' ∧ (Value.string B : Value) = .string B' ∧ k' ≤ 31 ∧ B'.size ≤ 4 ∧ Hid (B' = ⟨b'.toArray⟩ ∧ b' = (P.take k').foldl (Lx.bst l) [])) := fun h => ⟨k + 1, b, B, by go_num, rfl, by omega, hB4, hbb.out.1, by rw [HNX.out, h]⟩
      have TAKE : Hid (Lx.bst l b x = x → ∃ (k' : Nat) (b' : List UInt8) (B' : ByteArray), Value.int .i64 ((k : Int) + 1) = .int .i64 k' ∧ (Value.string X : Value) = .string B' ∧ k' ≤ 31 ∧ B'.size ≤ 4 ∧ Hid (B' = ⟨b'.toArray⟩ ∧ b' = (P.take k').foldl (Lx.bst l) [])) := fun h => ⟨k + 1, x, X, by go_num, rfl, by omega, by omega, HX.out, by rw [HNX.out, h]⟩
      have HZ : Hid (X.size = x.length ∧ B.size = b.length) := ⟨hxs, hbs⟩
      clear hX hxs hbs
      by_cases h1 : B.size < X.size
      · by_cases h2 : X.size ≤ s.size
        · have hext := HTK.out X.size h2
          obtain ⟨T, hT⟩ : ∃ T : ByteArray, T = ⟨(l.take X.size).toArray⟩ := ⟨_, rfl⟩
          rw [← hT] at hext
          by_cases h3 : T = X
          · have HY := Lib.hid (TAKE.out (Lx.bst_yes l b x (by have := HZ.out; omega) (by have := HZ.out; omega) (by
              have h5 := congrArg (fun z : ByteArray => z.data.toList) (hT.symm.trans (h3.trans HX.out))
              simp only at h5
              rw [← HZ.out.1]; exact h5)))
            subst h3
            clear hT
            go_wp2_with fail
            exact ⟨HY.out, by simp [intOf]; omega⟩
          · have h3' : (T.toList == X.toList) = false := by
              rw [Lib.toList_data, Lib.toList_data]; simp only [beq_eq_false_iff_ne, ne_eq]; intro h; exact h3 (by rw [ba_list' T, ba_list' X, h])
            have HY := Lib.hid (KEEP.out (Lx.bst_no l b x (Or.inr (Or.inr (fun h => h3 (hT.trans ((by rw [HZ.out.1, h] : (⟨(l.take X.size).toArray⟩ : ByteArray) = ⟨x.toArray⟩).trans HX.out.symm)))))))
            clear hT
            go_wp2_with fail
            exact ⟨HY.out, by simp [intOf]; omega⟩
        · have HY := Lib.hid (KEEP.out (Lx.bst_no l b x (Or.inr (Or.inl (by have := HZ.out; omega)))))
          go_wp2_with fail
          exact ⟨HY.out, by simp [intOf]; omega⟩
      · have HY := Lib.hid (KEEP.out (Lx.bst_no l b x (Or.inl (by have := HZ.out; omega))))
        go_wp2_with fail
        exact ⟨HY.out, by simp [intOf]; omega⟩
    · have HF : Hid (B = R) := by
        have hk31 : k = 31 := by omega
        have h2 := hbb.out.2
        rw [List.take_of_length_le (by rw [HPL.out]; omega)] at h2
        show _ = _
        rw [hbb.out.1, h2, HR.out]
      go_wp2_with fail
      go_ret
      exact ⟨by rw [HF.out]; rfl, B1.out⟩
end Go.Proofs.YtnhcjgnohnedaaaGreatDoor

namespace Go.Proofs.YtnhcjgnohnedaaaGreatDoor
open Go.RowKit

/-- What the reference's one returns. -/
def roneV (o : Lx.One) (l : List UInt8) : Value :=
  if o.e = 0 then .tuple #[tokV o.t 0 0, .int .i64 o.n, faultV 0 [] 0 0] else .tuple #[tokV ⟨0, [], 0, 0⟩ 0 0, .int .i64 0, faultV o.e (l.take (min o.n 40)) 0 0]
set_option maxRecDepth 100000 in
set_option maxHeartbeats 4000000 in
theorem rone_name (l : List UInt8) (w : World) (hl : l.length ≤ 20000) (h0 : 0 < Lx.runN Lx.letter l) (h40 : Lx.runN Lx.letter l ≤ 40) :
    Calls Tryz.prog 49 #[.string ⟨l.toArray⟩] w fun e w' => e = .returned (roneV ⟨⟨0, l.take (Lx.runN Lx.letter l), 0, 0⟩, Lx.runN Lx.letter l, 0⟩ l) ∧ Below w.heap.size w w' := by
  have HL := Lib.hid (fun W => rletters_any ⟨l.toArray⟩ W (by rw [ba_size]; unfold maxLen; omega))
  have hle := Lx.runN_le Lx.letter l
  simp only at HL
  have hx := ext_head l (Lx.runN Lx.letter l)
  obtain ⟨n, hn⟩ : ∃ n, n = Lx.runN Lx.letter l := ⟨_, rfl⟩
  rw [← hn] at HL hle hx h0 h40 ⊢
  obtain ⟨s, hs⟩ : ∃ s : ByteArray, s = ⟨l.toArray⟩ := ⟨_, rfl⟩
  have hz : s.size = l.length := by rw [hs]; rfl
  rw [← hs] at HL hx ⊢
  rw [← hz] at hle hl
  obtain ⟨T, hT⟩ : ∃ T : ByteArray, T = ⟨(l.take n).toArray⟩ := ⟨_, rfl⟩
  rw [← hT] at hx
  have HT := Lib.hid hT
  clear hn hs hz hT
  go_enter Tryz.func49, Tryz.ntmps49
  go_wp2_with fail
  refine (HL.out _).mono ?_; rintro e w' ⟨rfl, rfl⟩
  go_wp2_with fail
  exact bodyPost_ret (v := roneV ⟨⟨0, l.take n, 0, 0⟩, n, 0⟩ l) (by simp [results, Tryz.results49, go_sem, roneV, tokV, faultV]; exact HT.out) rfl ⟨rfl, ((Below.refl _ _).alloc (Nat.le_refl _) _).alloc (by simp) _⟩
set_option maxRecDepth 100000 in
set_option maxHeartbeats 4000000 in
theorem rone_long (l : List UInt8) (w : World) (hl : l.length ≤ 20000) (h40 : 40 < Lx.runN Lx.letter l) :
    Calls Tryz.prog 49 #[.string ⟨l.toArray⟩] w fun e w' => e = .returned (roneV (Lx.One.bad (Lx.runN Lx.letter l) 3) l) ∧ Below w.heap.size w w' := by
  have HL := Lib.hid (fun W => rletters_any ⟨l.toArray⟩ W (by rw [ba_size]; unfold maxLen; omega))
  have hle := Lx.runN_le Lx.letter l
  simp only at HL
  have hx := ext_head l (Lx.runN Lx.letter l)
  obtain ⟨n, hn⟩ : ∃ n, n = Lx.runN Lx.letter l := ⟨_, rfl⟩
  rw [← hn] at HL hle hx h40 ⊢
  obtain ⟨s, hs⟩ : ∃ s : ByteArray, s = ⟨l.toArray⟩ := ⟨_, rfl⟩
  have hz : s.size = l.length := by rw [hs]; rfl
  have HFX : Hid (∀ W, Calls Tryz.prog 84 #[.string ⟨(l.take n).toArray⟩] W fun e w' => e = .returned (.string ⟨(l.take (min n 40)).toArray⟩) ∧ W = w') := fun W => by
    have := rfirst_any ⟨(l.take n).toArray⟩ W (by rw [ba_size, List.length_take]; unfold maxLen; omega)
    rw [ba_size, ext_head, List.length_take, show min (min n l.length) 40 = min n 40 by omega, List.take_take, show min (min n 40) n = min n 40 by omega] at this
    exact this
  rw [← hs] at HL hx ⊢
  rw [← hz] at hle hl
  obtain ⟨T, hT⟩ : ∃ T : ByteArray, T = ⟨(l.take n).toArray⟩ := ⟨_, rfl⟩
  obtain ⟨F, hF⟩ : ∃ F : ByteArray, F = ⟨(l.take (min n 40)).toArray⟩ := ⟨_, rfl⟩
  rw [← hT] at hx HFX
  rw [← hF] at HFX
  have HF := Lib.hid hF
  clear hn hs hz hT hF
  go_enter Tryz.func49, Tryz.ntmps49
  go_wp2_with fail
  refine (HL.out _).mono ?_; rintro e w' ⟨rfl, rfl⟩
  go_wp2_with fail
  refine (HFX.out _).mono ?_; rintro e w' ⟨rfl, rfl⟩
  go_wp2_with fail
  exact bodyPost_ret (v := roneV (Lx.One.bad n 3) l) (by simp [results, Tryz.results49, go_sem, roneV, tokV, faultV, Lx.One.bad]; exact HF.out) rfl ⟨rfl, ((Below.refl _ _).alloc (Nat.le_refl _) _).alloc (by simp) _⟩
end Go.Proofs.YtnhcjgnohnedaaaGreatDoor

namespace Go.Proofs.YtnhcjgnohnedaaaGreatDoor
open Go.RowKit

/-- A number that lies in a block. -/
structure NumAt (w : World) (b : Nat) (x y : Int) : Prop where
  c0 : w.cell? ⟨b, 0, none⟩ = some (.int .i64 x)
  c1 : w.cell? ⟨b, 1, none⟩ = some (.int .i64 y)
  lt : b < w.heap.size
theorem NumAt.below {w w' : World} {b : Nat} {x y : Int} (h : NumAt w b x y) (hb : Below w.heap.size w w') : NumAt w' b x y :=
  ⟨by rw [(bcell hb).1 _ _ h.lt]; exact h.c0, by rw [(bcell hb).1 _ _ h.lt]; exact h.c1, Nat.lt_of_lt_of_le h.lt hb.size⟩
theorem NumAt.alloc {w : World} {b : Nat} {x y : Int} (h : NumAt w b x y) (o : Obj) : NumAt (w.alloc o) b x y :=
  h.below ((Below.refl _ _).alloc (Nat.le_refl _) o)
theorem numAt_new (w : World) (x y : Int) (t : TypeId) : NumAt (w.alloc (.cells #[.int .i64 x, .int .i64 y] t)) w.heap.size x y :=
  ⟨by simp [go_sem], by simp [go_sem], by simp⟩

theorem aw_valid (w : World) : Calls Tryz.prog 110 #[.agg #[.int .i64 (-3), .int .i64 2]] w fun e w' => e = .returned (.bool true) ∧ Below w.heap.size w w' := by
  have h := valid_any (-3) 2 w (by omega) (by omega) (by omega) (by omega)
  rwa [show Nm.vld (-3) 2 = true by decide +kernel] at h

end Go.Proofs.YtnhcjgnohnedaaaGreatDoor

namespace Go.Proofs.YtnhcjgnohnedaaaGreatDoor
open Go.RowKit

/-- A number that lies in a block that can be written. -/
structure NumFr (w : World) (b : Nat) (x y : Int) : Prop extends NumAt w b x y where
  f0 : w.frozen? ⟨b, 0, none⟩ = false
  f1 : w.frozen? ⟨b, 1, none⟩ = false
theorem NumFr.below {w w' : World} {b : Nat} {x y : Int} (h : NumFr w b x y) (hb : Below w.heap.size w w') : NumFr w' b x y :=
  ⟨h.toNumAt.below hb, by rw [(bcell hb).2 _ _ h.lt]; exact h.f0, by rw [(bcell hb).2 _ _ h.lt]; exact h.f1⟩
theorem NumFr.alloc {w : World} {b : Nat} {x y : Int} (h : NumFr w b x y) (o : Obj) : NumFr (w.alloc o) b x y :=
  h.below ((Below.refl _ _).alloc (Nat.le_refl _) o)
theorem numFr_new (w : World) (x y : Int) (t : TypeId) : NumFr (w.alloc (.cells #[.int .i64 x, .int .i64 y] t)) w.heap.size x y :=
  ⟨numAt_new w x y t, by simp [go_sem], by simp [go_sem]⟩
theorem NumFr.setSame {w : World} {b : Nat} {x y : Int} (h : NumFr w b x y) (x' y' : Int) : NumFr ((w.setCell ⟨b, 0, none⟩ (.int .i64 x')).setCell ⟨b, 1, none⟩ (.int .i64 y')) b x' y' := by
  have e01 : (⟨b, 1, none⟩ : Addr) ≠ ⟨b, 0, none⟩ := by simp
  have e10 : (⟨b, 0, none⟩ : Addr) ≠ ⟨b, 1, none⟩ := by simp
  refine ⟨⟨?_, ?_, ?_⟩, ?_, ?_⟩
  · rw [World.cell?_setCell_other _ _ _ _ e01]; exact World.cell?_setCell_same _ _ _ h.c0
  · exact World.cell?_setCell_same _ _ _ ((World.cell?_setCell_other _ _ _ _ e10).trans h.c1)
  · simpa using h.lt
  · simpa [go_sem] using h.f0
  · simpa [go_sem] using h.f1
theorem NumFr.setOther {w : World} {b c : Nat} {x y : Int} (h : NumFr w b x y) (hbc : c ≠ b) (u v : Value) : NumFr ((w.setCell ⟨c, 0, none⟩ u).setCell ⟨c, 1, none⟩ v) b x y := by
  refine ⟨⟨?_, ?_, ?_⟩, ?_, ?_⟩
  · rw [World.cell?_setCell_other _ _ _ _ (by simp <;> omega), World.cell?_setCell_other _ _ _ _ (by simp <;> omega)]; exact h.c0
  · rw [World.cell?_setCell_other _ _ _ _ (by simp <;> omega), World.cell?_setCell_other _ _ _ _ (by simp <;> omega)]; exact h.c1
  · simpa using h.lt
  · simpa [go_sem] using h.f0
  · simpa [go_sem] using h.f1

theorem belP {w a b : World} (h : Hid (Below w.heap.size w a)) (hb : Below a.heap.size a b) : Hid (Below w.heap.size w b) := h.out.trans (hb.mono h.out.size)
end Go.Proofs.YtnhcjgnohnedaaaGreatDoor
