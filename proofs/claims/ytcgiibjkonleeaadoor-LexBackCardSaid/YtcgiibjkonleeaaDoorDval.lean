/-
  Plain mathematics of decimal digits: the number that a list of digits is.
-/
import Derived.Test.YtcgiibjkonleeaaDoorMath2
namespace Go.Proofs.YtcgiibjkonleeaaDoor
def dvalFrom (acc : Nat) (l : List UInt8) : Nat := l.foldl (fun a c => 10 * a + (c.toNat - 48)) acc
def dval (l : List UInt8) : Nat := dvalFrom 0 l
theorem dval_snoc (l : List UInt8) (c : UInt8) : dval (l ++ [c]) = 10 * dval l + (c.toNat - 48) := by simp [dval, dvalFrom]
/-- Are all bytes decimal digits? -/
def dig (l : List UInt8) : Bool := l.all fun c => decide (48 ≤ c.toNat) && decide (c.toNat ≤ 57)
theorem dvalFrom_lt (l : List UInt8) : ∀ acc, dig l = true → dvalFrom acc l < (acc + 1) * 10 ^ l.length := by
  induction l with
  | nil => intro acc _; simp [dvalFrom]
  | cons c t ih =>
    intro acc h
    simp only [dig, List.all_cons, Bool.and_eq_true, decide_eq_true_eq] at h
    obtain ⟨⟨h1, h2⟩, h3⟩ := h
    have := ih (10 * acc + (c.toNat - 48)) h3
    have e : dvalFrom acc (c :: t) = dvalFrom (10 * acc + (c.toNat - 48)) t := rfl
    rw [e, List.length_cons, Nat.pow_succ]
    refine Nat.lt_of_lt_of_le this ?_
    rw [Nat.mul_comm (10 ^ t.length) 10, ← Nat.mul_assoc]
    exact Nat.mul_le_mul_right _ (by omega)
theorem dval_lt (l : List UInt8) (h : dig l = true) : dval l < 10 ^ l.length := by simpa [dval] using dvalFrom_lt l 0 h
theorem dval_lt14 (l : List UInt8) (h : dig l = true) (hl : l.length ≤ 14) : dval l < 100000000000000 :=
  Nat.lt_of_lt_of_le (dval_lt l h) (Nat.le_trans (Nat.pow_le_pow_right (by omega) hl) (by decide))
theorem dig_snoc (l : List UInt8) (c : UInt8) : dig (l ++ [c]) = (dig l && (decide (48 ≤ c.toNat) && decide (c.toNat ≤ 57))) := by simp [dig]
theorem dig_append (a b : List UInt8) : dig (a ++ b) = (dig a && dig b) := by simp [dig]
theorem dig_take (l : List UInt8) (k : Nat) (h : dig l = true) : dig (l.take k) = true := by
  unfold dig at h ⊢
  rw [List.all_eq_true] at h ⊢
  exact fun c hc => h c (List.mem_of_mem_take hc)
theorem getD_at (l : List UInt8) (k : Nat) (hk : k < l.length) : l.getD k 0 = l[k] := by simp [List.getD, List.getElem?_eq_getElem hk]
theorem dig_at (l : List UInt8) (k : Nat) (hk : k < l.length) (h : dig l = true) : 48 ≤ (l.getD k 0).toNat ∧ (l.getD k 0).toNat ≤ 57 := by
  unfold dig at h
  rw [List.all_eq_true] at h
  have := h l[k] (List.getElem_mem hk)
  rw [getD_at l k hk]
  simpa using this
theorem take_at (l : List UInt8) (k : Nat) (hk : k < l.length) : l.take (k + 1) = l.take k ++ [l.getD k 0] := by
  rw [List.take_succ_eq_append_getElem hk, getD_at l k hk]
theorem pow5 (k : Nat) (h : k ≤ 5) : 1 ≤ 10 ^ k ∧ 10 ^ k ≤ 100000 :=
  ⟨Nat.one_le_pow _ _ (by omega), Nat.le_trans (Nat.pow_le_pow_right (by omega) h) (by decide)⟩
end Go.Proofs.YtcgiibjkonleeaaDoor
