/-
  Contracts of package lex: Same; slices of tokens.
-/
import Derived.Test.YtnhcjgnohnedaaaGreatDoorLxN
namespace Go.Proofs.YtnhcjgnohnedaaaGreatDoor
open Go.RowKit

/-- A token as it lies in memory. -/
structure Tv where
  k : Int
  t : ByteArray
  p : Int
  q : Int
  a : Int
  c : Int
def TokAt (w : World) (E : Addr) (x : Tv) : Prop :=
  w.cell? E = some (.int .i64 x.k) ∧ w.cell? ⟨E.block, E.off + 1, none⟩ = some (.string x.t) ∧ w.cell? ⟨E.block, E.off + 2, none⟩ = some (.int .i64 x.p) ∧ w.cell? ⟨E.block, E.off + 3, none⟩ = some (.int .i64 x.q) ∧
  w.cell? ⟨E.block, E.off + 4, none⟩ = some (.int .i64 x.a) ∧ w.cell? ⟨E.block, E.off + 5, none⟩ = some (.int .i64 x.c)
/-- A slice of tokens, below block B. -/
def TokSl (w : World) (B : Nat) (A : Option Addr) (l : List Tv) : Prop :=
  0 < l.length → ∃ ad, A = some ad ∧ ad.block < B ∧ ∀ j x, l[j]? = some x → TokAt w (ad.add (j * 6)) x
theorem block_of_add (a : Addr) (n : Nat) : (a.add n).block = a.block := by unfold Addr.add; split <;> rfl
theorem TokAt.keep {w w' : World} {E : Addr} {x : Tv} (h : TokAt w E x) (hk : ∀ p : Addr, p.block = E.block → w'.cell? p = w.cell? p) : TokAt w' E x := by
  obtain ⟨h0, h1, h2, h3, h4, h5⟩ := h
  exact ⟨(hk E rfl).trans h0, (hk ⟨_, _, none⟩ rfl).trans h1, (hk ⟨_, _, none⟩ rfl).trans h2, (hk ⟨_, _, none⟩ rfl).trans h3, (hk ⟨_, _, none⟩ rfl).trans h4, (hk ⟨_, _, none⟩ rfl).trans h5⟩
theorem TokAt.below {w w' : World} {B : Nat} {E : Addr} {x : Tv} (h : TokAt w E x) (hb : Below B w w') (hB : E.block < B) : TokAt w' E x :=
  h.keep fun p hp => hb.cell (by omega)
theorem TokSl.below {w w' : World} {B : Nat} {A : Option Addr} {l : List Tv} (h : TokSl w B A l) (hb : Below B w w') : TokSl w' B A l := fun hn => by
  obtain ⟨ad, e, hB, hc⟩ := h hn
  exact ⟨ad, e, hB, fun j x hj => (hc j x hj).below hb (by rw [block_of_add]; exact hB)⟩
theorem TokSl.more {w : World} {B B' : Nat} {A : Option Addr} {l : List Tv} (h : TokSl w B A l) (hB : B ≤ B') : TokSl w B' A l := fun hn => by
  obtain ⟨ad, e, hb, hc⟩ := h hn
  exact ⟨ad, e, by omega, hc⟩

/-- Are two tokens the same, but for their positions? -/
def sameTv (x y : Tv) : Bool := decide (x.k = y.k ∧ x.t = y.t ∧ x.p = y.p ∧ x.q = y.q)
def sameTvs : List Tv → List Tv → Bool
  | [], [] => true
  | x :: l, y :: m => sameTv x y && sameTvs l m
  | _, _ => false
theorem sameTvs_iff : ∀ (l m : List Tv), sameTvs l m = true ↔ (l.length = m.length ∧ ∀ (i : Nat) (x y : Tv), l[i]? = some x → m[i]? = some y → sameTv x y = true)
  | [], [] => by simp [sameTvs]
  | [], _ :: _ => by simp [sameTvs]
  | _ :: _, [] => by simp [sameTvs]
  | x :: l, y :: m => by
    simp only [sameTvs, Bool.and_eq_true, sameTvs_iff l m, List.length_cons]
    constructor
    · rintro ⟨h1, h2, h3⟩
      refine ⟨by omega, fun i a b ha hb => ?_⟩
      cases i with
      | zero => simp at ha hb; subst ha hb; exact h1
      | succ i => exact h3 i a b (by simpa using ha) (by simpa using hb)
    · rintro ⟨h2, h3⟩
      exact ⟨h3 0 x y rfl rfl, by omega, fun i a b ha hb => h3 (i + 1) a b (by simpa using ha) (by simpa using hb)⟩

end Go.Proofs.YtnhcjgnohnedaaaGreatDoor
