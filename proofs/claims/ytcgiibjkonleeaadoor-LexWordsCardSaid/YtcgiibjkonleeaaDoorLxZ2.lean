/-
  Contracts of the reference of layer 3: the words, rising.
-/
-- LAW 03
import Derived.Test.YtcgiibjkonleeaaDoorLxZ
import Derived.Deep.RegionLawGrows
namespace Go.Proofs.YtcgiibjkonleeaaDoor
open Go.RowKit

namespace Lx
/-- Where a word is put in, from place n down. -/
def posN (a : List (List UInt8)) (w : List UInt8) : Nat → Nat
  | 0 => 0
  | n + 1 => if (!Op.bytesLess (a.getD n []) w) = true ∧ (!a.getD n [] == w) = true then posN a w n else n + 1
theorem posN_le (a : List (List UInt8)) (w : List UInt8) : ∀ n, posN a w n ≤ n
  | 0 => Nat.le_refl _
  | n + 1 => by unfold posN; split; exact Nat.le_succ_of_le (posN_le a w n); exact Nat.le_refl _
/-- A word put into words that rise. -/
def ins1 (a : List (List UInt8)) (w : List UInt8) : List (List UInt8) := a.take (posN a w a.length) ++ w :: a.drop (posN a w a.length)
theorem ins1_len (a : List (List UInt8)) (w : List UInt8) : (ins1 a w).length = a.length + 1 := by
  have := posN_le a w a.length
  simp [ins1]; omega
theorem wds_ins : (pg [] wdT).foldl ins1 [] = wds := by decide +kernel
theorem wdT_parts : (pg [] wdT).length = 87 := by decide +kernel
theorem ins_len (l : List (List UInt8)) : ∀ a : List (List UInt8), (l.foldl ins1 a).length = a.length + l.length := by
  induction l with
  | nil => intro a; simp
  | cons x l ih => intro a; rw [List.foldl_cons, ih, ins1_len, List.length_cons]; omega
end Lx

set_option maxRecDepth 100000 in
theorem step_str1 {w : World} {ops : Array Oper} {o : Oper} {a : Act} {K : Act → World → Prop} {Q : Exit → Act → World → Prop} {E : Prop} (hgd : o.guard = none) (s x : Operand)
    (ho : o.op = .call { callee := .builtin .append, args := #[s, x], argTypes := #[22, 22] }) (base h : Nat) (y : List UInt8) (hs : a.eval s = .slice (some ⟨h, 0, none⟩) 1 1) (hb : w.heap[h]? = some (.cells #[.string ⟨y.toArray⟩] 9 (0, 0))) (hbh : base ≤ h)
    (m : List (List UInt8)) (n c : Nat) (A : Option Addr) (hx : a.eval x = .slice A n c) (hn : m.length = n) (hA : A = none → c = 0 ∧ m = []) (hm : ∀ ad, A = some ad → ∀ j u, (strL m)[j]? = some u → w.cell? (ad.add j) = some u) (hl : m.length ≤ 1000)
    (hK : ∀ v' w', StrOwn w' base v' (y :: m) → w.grownBy w' (some h) → K (a.put o.dst v') w') : if Region.wanted o (yielded ops a.tmps) = true then Oper.wp Tryd.prog o a w K Q else E := by
  obtain ⟨i0, hi, hz0, hz1, hz2⟩ := info_parts info_str
  have hw : Region.wanted o (yielded ops a.tmps) = true := by simp [Region.wanted, hgd]
  rw [if_pos hw]
  have hlt := (Array.getElem?_eq_some_iff.1 hb).1
  have hown : w.ownsRow base 9 1 (.slice (some ⟨h, 0, none⟩) 1 1) 1 [.string ⟨y.toArray⟩] := ⟨rfl, .inr ⟨h, 1, _, rfl, hbh, hb, Nat.le_refl _, by decide, rfl, rfl⟩⟩
  subst hn
  cases A with
  | none =>
    obtain ⟨rfl, rfl⟩ := hA rfl
    have hrun := run_append_owned_none (P := Tryd.prog) (w := w) base 22 o.type 9 i0 1 Tryd.underlying22 hi _ _ _ hown
    unfold Oper.wp
    simp [execOp, ho, resolve, invoke, builtin, hs, hx, hrun, Result.andThen]
    exact hK _ w hown (grown_refl w _)
  | some ad =>
    obtain ⟨v', w', hrun, r1, r2, _⟩ := run_append_own (P := Tryd.prog) w base 22 o.type 9 i0 (.string ⟨#[]⟩) 1 16 Tryd.underlying22 hi hz0 hz1 hz2 rfl (by decide) _ _ _ hown ad m.length c (strL m) (by simp [strL]) (hm ad rfl) (strL_one m) (by unfold maxLen; omega) (by omega) (by omega)
    unfold Oper.wp
    simp [execOp, ho, resolve, invoke, builtin, hs, hx, hrun, Result.andThen]
    refine hK _ _ ?_ r2
    unfold StrOwn
    rw [List.length_cons, List.map_cons, Nat.add_comm]
    exact r1
set_option maxRecDepth 100000 in
theorem step_str2 {w : World} {ops : Array Oper} {o : Oper} {a : Act} {K : Act → World → Prop} {Q : Exit → Act → World → Prop} {E : Prop} (hgd : o.guard = none) (s x : Operand)
    (ho : o.op = .call { callee := .builtin .append, args := #[s, x], argTypes := #[22, 22] }) (l : List (List UInt8)) (n : Nat) (A : Option Addr) (hs : a.eval s = .slice A n n) (hn : l.length = n) (hA : A = none → l = [])
    (hm : ∀ ad, A = some ad → ∀ j u, (strL l)[j]? = some u → w.cell? (ad.add j) = some u) (base : Nat) (v : Value) (m : List (List UInt8)) (hx : a.eval x = v) (hown : StrOwn w base v m) (hm0 : 0 < m.length) (hl : l.length + m.length ≤ 1000)
    (hK : ∀ v' w', StrOwn w' w.heap.size v' (l ++ m) → w.grownBy w' none → K (a.put o.dst v') w') : if Region.wanted o (yielded ops a.tmps) = true then Oper.wp Tryd.prog o a w K Q else E := by
  obtain ⟨i0, hi, hz0, hz1, hz2⟩ := info_parts info_str
  obtain ⟨A1, c1, rfl, hc⟩ := hown.at
  obtain ⟨g, rfl, -, -, -⟩ := hc 0 hm0
  refine step_append_grows hgd s x _ ho 9 i0 (.string ⟨#[]⟩) 1 16 Tryd.underlying22 hi hz0 hz1 hz2 rfl (by decide) A n n (strL l) hs (fun e => by rw [hA e] at hn; simp at hn; omega) (by simp [strL, hn]) hm ⟨g, 0, none⟩ m.length c1 (strL m) hx (by simp [strL]) ?_ (strL_one m) (by omega) (by unfold maxLen; omega) (by omega) ?_
  · intro j u hu
    have hj : j < m.length := by have := (List.getElem?_eq_some_iff.1 hu).1; simpa [strL] using this
    obtain ⟨g', e, -, -, hcell⟩ := hc j hj
    injection e with e; injection e with e; subst e
    rw [addr_row', hcell, ← hu]
    simp [strL, List.getD, List.getElem?_eq_getElem hj]
  · intro v' w' h1 h2
    refine hK v' w' ?_ h2
    unfold StrOwn
    rw [List.length_append, List.map_append, hn]
    exact h1
end Go.Proofs.YtcgiibjkonleeaaDoor
