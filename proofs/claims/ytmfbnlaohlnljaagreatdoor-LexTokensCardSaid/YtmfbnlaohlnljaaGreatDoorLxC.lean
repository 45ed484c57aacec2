/-
  Contracts of package lex: the reader goes past bytes.
-/
import Derived.Test.YtmfbnlaohlnljaaGreatDoorLxB
namespace Go.Proofs.YtmfbnlaohlnljaaGreatDoor
open Go.RowKit

/-- The reader lies in block b: what is still to be read, and where it is. -/
def RdB (w : World) (b : Nat) (l : List UInt8) (ln cl : Int) : Prop := w.heap[b]? = some (.cells #[.string ⟨l.toArray⟩, .int .i64 ln, .int .i64 cl] 48 (0, 0))
theorem RdB.lt {w : World} {b : Nat} {l : List UInt8} {ln cl : Int} (h : RdB w b l ln cl) : b < w.heap.size := (Array.getElem?_eq_some_iff.1 h).1
theorem RdB.at_ {w : World} {b : Nat} {l : List UInt8} {ln cl : Int} (h : RdB w b l ln cl) :
    w.cell? ⟨b, 0, none⟩ = some (.string ⟨l.toArray⟩) ∧ w.cell? ⟨b, 1, none⟩ = some (.int .i64 ln) ∧ w.cell? ⟨b, 2, none⟩ = some (.int .i64 cl) ∧
    w.frozen? ⟨b, 0, none⟩ = false ∧ w.frozen? ⟨b, 1, none⟩ = false ∧ w.frozen? ⟨b, 2, none⟩ = false := by
  unfold RdB at h
  refine ⟨?_, ?_, ?_, ?_, ?_, ?_⟩
  · rw [cell_of_row w b 0 _ _ _ h]; rfl
  · rw [cell_of_row w b 1 _ _ _ h]; rfl
  · rw [cell_of_row w b 2 _ _ _ h]; rfl
  all_goals simp [World.frozen?, h]
theorem heap_set (w : World) (b i : Nat) (v : Value) (cs : Array Value) (t : TypeId) (h : w.heap[b]? = some (.cells cs t (0, 0))) : (w.setCell ⟨b, i, none⟩ v).heap[b]? = some (.cells (cs.setIfInBounds i v) t (0, 0)) := by
  simp [World.setCell, Array.getElem?_modify, h]
theorem RdB.set0 {w : World} {b : Nat} {l : List UInt8} {ln cl : Int} (h : RdB w b l ln cl) (m : List UInt8) : RdB (w.setCell ⟨b, 0, none⟩ (.string ⟨m.toArray⟩)) b m ln cl := heap_set w b 0 _ _ _ h
theorem RdB.set1 {w : World} {b : Nat} {l : List UInt8} {ln cl : Int} (h : RdB w b l ln cl) (n : Int) : RdB (w.setCell ⟨b, 1, none⟩ (.int .i64 n)) b l n cl := heap_set w b 1 _ _ _ h
theorem RdB.set2 {w : World} {b : Nat} {l : List UInt8} {ln cl : Int} (h : RdB w b l ln cl) (n : Int) : RdB (w.setCell ⟨b, 2, none⟩ (.int .i64 n)) b l ln n := heap_set w b 2 _ _ _ h
theorem grown_refl (w : World) (r : Option Nat) : w.grownBy w r := ⟨rfl, rfl, rfl, Nat.le_refl _, fun _ _ _ => rfl⟩
theorem grown_trans {a b c : World} {r : Option Nat} (h : a.grownBy b r) (k : b.grownBy c r) : a.grownBy c r :=
  ⟨k.os.trans h.os, k.tape.trans h.tape, k.output.trans h.output, Nat.le_trans h.size k.size, fun i hi hn => (k.block i (Nat.lt_of_lt_of_le hi h.size) hn).trans (h.block i hi hn)⟩
theorem grown_set {a w : World} {b i : Nat} (h : a.grownBy w (some b)) (v : Value) : a.grownBy (w.setCell ⟨b, i, none⟩ v) (some b) :=
  ⟨h.os, h.tape, h.output, by simpa [World.setCell] using h.size, fun j hj hn => (Below.heap_setCell w ⟨b, i, none⟩ v j (fun e => hn (by rw [e]))).trans (h.block j hj hn)⟩
theorem grown_of {a w : World} (h : Below a.heap.size a w) (r : Option Nat) : a.grownBy w r := ⟨h.os, h.tape, h.output, h.size, fun i hi _ => h.block i hi⟩
theorem below_grown {B : Nat} {a w w' : World} {b : Nat} (h : Below B a w) (hg : w.grownBy w' (some b)) (hB : B ≤ w.heap.size) (hb : B ≤ b) : Below B a w' :=
  h.grown hg hB (fun k hk => by injection hk with e; omega)
theorem RdB.kept {w w' : World} {b : Nat} {l : List UInt8} {ln cl : Int} (h : RdB w b l ln cl) (hb : Below w.heap.size w w') : RdB w' b l ln cl := (hb.block b h.lt).trans h

theorem adv_bd (l : List UInt8) : ∀ p : Int × Int, 1 ≤ p.1 → 1 ≤ p.2 → 1 ≤ (Lx.adv l p).1 ∧ 1 ≤ (Lx.adv l p).2 ∧ (Lx.adv l p).1 ≤ p.1 + l.length ∧ (Lx.adv l p).2 ≤ p.2 + l.length := by
  induction l with
  | nil => intro p h1 h2; simp [Lx.adv_nil]; omega
  | cons c l ih =>
    intro p h1 h2
    rw [Lx.adv_cons]
    have hc : 1 ≤ (Lx.advC c p).1 ∧ 1 ≤ (Lx.advC c p).2 ∧ (Lx.advC c p).1 ≤ p.1 + 1 ∧ (Lx.advC c p).2 ≤ p.2 + 1 := by unfold Lx.advC; split <;> simp <;> omega
    have := ih (Lx.advC c p) hc.1 hc.2.1
    simp only [List.length_cons]
    omega
theorem adv_step (l : List UInt8) (k : Nat) (p : Int × Int) (hk : k < l.length) : Lx.adv (l.take (k + 1)) p = Lx.advC (l.getD k 0) (Lx.adv (l.take k) p) := by
  rw [take_at l k hk, Lx.adv_append]; rfl
theorem ext_list (l : List UInt8) (a b : Nat) : (⟨l.toArray⟩ : ByteArray).extract a b = ⟨((l.take b).drop a).toArray⟩ := by
  apply ByteArray.ext
  simp [ByteArray.data_extract, List.extract_toArray, List.extract_eq_take_drop, List.drop_take]
theorem ba_size (l : List UInt8) : (⟨l.toArray⟩ : ByteArray).size = l.length := rfl
theorem ext_tail (l : List UInt8) (a : Nat) : (⟨l.toArray⟩ : ByteArray).extract a l.length = ⟨(l.drop a).toArray⟩ := by rw [ext_list, List.take_length]
theorem ext_head (l : List UInt8) (a : Nat) : (⟨l.toArray⟩ : ByteArray).extract 0 a = ⟨(l.take a).toArray⟩ := by rw [ext_list, List.drop_zero]

set_option maxHeartbeats 2000000 in
theorem pass_any (b : Nat) (l : List UInt8) (ln cl : Int) (n : Nat) (w : World) (hr : RdB w b l ln cl) (hn : n ≤ l.length) (h1 : 1 ≤ ln) (h2 : 1 ≤ cl) (h3 : ln + l.length ≤ 20001) (h4 : cl + l.length ≤ 20001) :
    Calls Tryz.prog 56 #[.pointer (some ⟨b, 0, none⟩), .int .i64 n] w fun e w' => e = .returned (.tuple #[]) ∧ RdB w' b (l.drop n) (Lx.adv (l.take n) (ln, cl)).1 (Lx.adv (l.take n) (ln, cl)).2 ∧ w.grownBy w' (some b) := by
  obtain ⟨s, hs⟩ : ∃ s : ByteArray, s = ⟨l.toArray⟩ := ⟨_, rfl⟩
  have hsz : s.size = l.length := by rw [hs]; rfl
  have HZ := Lib.hid hsz
  have hn' : n ≤ s.size := by omega
  have hs2 : s.size ≤ 20001 := by omega
  have HG : Hid (∀ k (h : k < s.size), s[k] = l.getD k 0) := fun k h => by rw [ba_get s k h, hs]
  have HX : Hid (s.extract n s.size = ⟨(l.drop n).toArray⟩) := by rw [hs]; exact ext_tail l n
  have HR := Lib.hid hr
  have HS := Lib.hid hs
  clear hr hsz hs
  go_enter Tryz.func56, Tryz.ntmps56
  go_wp2
  go_loopw [6] (fun vi wr => ∃ (k : Nat) (a c : Int), vi = .int .i64 k ∧ k ≤ n ∧ RdB wr b l a c ∧ Hid ((a, c) = Lx.adv (l.take k) (ln, cl)) ∧ 1 ≤ a ∧ 1 ≤ c ∧ a ≤ 20001 ∧ c ≤ 20001 ∧ w.grownBy wr (some b)) (fun vi _ => n - (intOf vi).toNat)
  case atStart => exact ⟨0, ln, cl, rfl, by omega, HR.out, rfl, h1, h2, by omega, by omega, grown_refl _ _⟩
  case round =>
    obtain ⟨k, a, c, rfl, hk, hb, hp, b1, b2, b3, b4, hg⟩ := hrel
    have HB := Lib.hid hb
    have c0 := hb.at_.1
    rw [← HS.out] at c0
    obtain ⟨-, c1, c2, f0, f1, f2⟩ := hb.at_
    clear hb
    by_cases hlt : k < n
    · have hks : k < s.size := by omega
      have hst := adv_step l k (ln, cl) (by rw [← HZ.out]; exact hks)
      have hbd := adv_bd (l.take (k + 1)) (ln, cl) h1 h2
      have hlen : (l.take (k + 1)).length = k + 1 := by rw [List.length_take, ← HZ.out]; omega
      rw [hlen] at hbd
      rw [← hp.out, ← HG.out k hks] at hst
      have HT := Lib.hid hst
      have HD := Lib.hid hbd
      clear hst hbd hlen
      have hc256 := s[k].toNat_lt
      by_cases hc : s[k].toNat = 10
      · have hcc : s[k] = 10 := by rw [← UInt8.toNat_inj]; simpa using hc
        have e10 : ((s[k].toNat : Int) == 10) = true := by rw [hc]; rfl
        have ht : Lx.adv (l.take (k + 1)) (ln, cl) = (a + 1, 1) := by rw [HT.out, Lx.advC, if_pos hcc]
        have HD2 : Hid (1 ≤ a + 1 ∧ a + 1 ≤ 20001) := by have := HD.out; rw [ht] at this; simp only at this; constructor <;> omega
        have HT2 := Lib.hid ht
        clear hc hcc ht
        go_wp2
        go_roundw
        case rel => exact ⟨k + 1, a + 1, 1, by go_num, by omega, ((HB.out.set2 _).set1 _).set2 _, HT2.out.symm, by omega, by omega, by have := HD2.out; omega, by omega, grown_set (grown_set (grown_set hg _) _) _⟩
        case measure => simp [intOf]; omega
      · have hcc : s[k] ≠ 10 := fun e => hc (by rw [e]; rfl)
        have e10 : ((s[k].toNat : Int) == 10) = false := u8_ne (by omega)
        have ht : Lx.adv (l.take (k + 1)) (ln, cl) = (a, c + 1) := by rw [HT.out, Lx.advC, if_neg hcc]
        have HD2 : Hid (1 ≤ c + 1 ∧ c + 1 ≤ 20001) := by have := HD.out; rw [ht] at this; simp only at this; constructor <;> omega
        have HT2 := Lib.hid ht
        clear hc hcc ht
        go_wp2
        go_roundw
        case rel => exact ⟨k + 1, a, c + 1, by go_num, by omega, HB.out.set2 _, HT2.out.symm, by omega, by omega, by omega, by have := HD2.out; omega, grown_set hg _⟩
        case measure => simp [intOf]; omega
    · obtain rfl : k = n := by omega
      go_wp2
      go_end0
      have e1 := congrArg Prod.fst hp.out
      have e2 := congrArg Prod.snd hp.out
      simp only at e1 e2
      refine ⟨rfl, ?_, grown_set hg _⟩
      rw [← e1, ← e2, HX.out]
      exact HB.out.set0 _
end Go.Proofs.YtmfbnlaohlnljaaGreatDoor
