/-
  Contracts of package lex: Tokens.
  Contracts of package lex: numbers in decimals; tokens that are valid.
  Contracts of package lex: tokens that are valid.
-/
import Derived.Test.YtnhcjgnohnedaaaGreatDoorLxI
import Derived.OwnWalk
import Derived.WalkSpells
import Derived.Test.YtnhcjgnohnedaaaGreatDoorLxH
import Derived.WalkLawsBesides
namespace Go.Proofs.YtnhcjgnohnedaaaGreatDoor
open Go.RowKit

def tpCells (t : Lx.Tp) : List Value := [.int .i64 t.kind, .string ⟨t.text.toArray⟩, .int .i64 t.p, .int .i64 t.q, .int .i64 t.line, .int .i64 t.col]
def rowOf (l : List Lx.Tp) : List Value := l.flatMap tpCells
theorem rowOf_snoc (l : List Lx.Tp) (t : Lx.Tp) : rowOf (l ++ [t]) = rowOf l ++ tpCells t := by simp [rowOf]
/-- A slice of tokens of the call's own. -/
def Toks (w : World) (B : Nat) (v : Value) (l : List Lx.Tp) : Prop := w.ownsRow B 41 6 v l.length (rowOf l)
theorem heap_inj {w : World} {g : Nat} {c1 c2 : Array Value} {t1 t2 : TypeId} {f1 f2 : Nat × Nat} (h1 : w.heap[g]? = some (.cells c1 t1 f1)) (h2 : w.heap[g]? = some (.cells c2 t2 f2)) : t1 = t2 := by
  rw [h1] at h2; injection h2 with h2; injection h2
theorem Toks.ne {w : World} {B : Nat} {v : Value} {l : List Lx.Tp} (h : Toks w B v l) {g : Nat} {cs : Array Value} {t : TypeId} {f : Nat × Nat} (hg : w.heap[g]? = some (.cells cs t f)) (ht : t ≠ 41) : v.ownBlock ≠ some g := by
  rcases h.2 with ⟨rfl, -⟩ | ⟨g', cap, cur, rfl, -, hh, -⟩
  · simp [Value.ownBlock]
  · intro e
    have e2 : g' = g := by simpa [Value.ownBlock] using e
    subst e2
    exact ht (heap_inj hg hh)
theorem Toks.grown {w w' : World} {B : Nat} {v : Value} {l : List Lx.Tp} (h : Toks w B v l) {b : Nat} (hg : w.grownBy w' (some b)) (hne : v.ownBlock ≠ some b) : Toks w' B v l := World.ownsRow.kept h hg (Or.inr hne)
theorem Toks.alloc {w : World} {B : Nat} {v : Value} {l : List Lx.Tp} (h : Toks w B v l) (o : Obj) : Toks (w.alloc o) B v l := World.ownsRow.alloc h o
theorem Toks.below {w w' : World} {B : Nat} {v : Value} {l : List Lx.Tp} (h : Toks w B v l) (hb : Below w.heap.size w w') : Toks w' B v l :=
  World.ownsRow.kept h (grown_of hb none) (by cases hv : v.ownBlock <;> simp)
/-- What Tokens returns. -/
def TokensOf (R : Lx.Res) (w : World) (e : Ending) (w' : World) : Prop :=
  Below w.heap.size w w' ∧ match R with
  | .ok l => ∃ v, e = .returned (.tuple #[v, faultV 0 [] 0 0]) ∧ Toks w' w.heap.size v l ∧ l.length ≤ 20000
  | .bad c nm a b => e = .returned (.tuple #[.slice none 0 0, faultV c nm a b])

theorem info_tok : (Tryz.prog.info? 41).map (fun i => (i.zero, i.size, i.bytes)) = some (some (.agg #[.int .i64 0, .string ⟨#[]⟩, .int .i64 0, .int .i64 0, .int .i64 0, .int .i64 0]), 6, 56) := by kernel_rfl

end Go.Proofs.YtnhcjgnohnedaaaGreatDoor

namespace Go.Proofs.YtnhcjgnohnedaaaGreatDoor
open Go.RowKit

namespace Lx
/-- Is it a number in decimals? -/
def decB (p q : Int) : Bool := Nm.vld p q && (decide (0 ≤ p) && (decide (p / q < 1000000000) && decide (100000 % q = 0)))
/-- Is it a valid token? -/
def vldT (k : Int) (t : List UInt8) (p q : Int) : Bool :=
  if k = 2 then t.isEmpty && decB p q
  else if ¬ (p = 0 ∧ q = 0) then false
  else if k = 0 then !t.isEmpty && (decide (t.length ≤ 40) && allB letter t)
  else if k = 1 then decide (t ∈ wds)
  else if k = 3 then decide (t.length ≤ 100) && allB quot t
  else if k = 4 then decide (t ∈ sgs)
  else false
end Lx

theorem vld_pos {p q : Int} (h : Nm.vld p q = true) : 1 ≤ q ∧ q ≤ 2147483647 ∧ -2147483647 ≤ p ∧ p ≤ 2147483647 := by
  unfold Nm.vld at h; simp only [decide_eq_true_eq] at h; exact ⟨h.1, h.2.1, h.2.2.1, h.2.2.2.1⟩

set_option maxHeartbeats 2000000 in
theorem decimal_no (p q : Int) (w : World) (h1 : -9223372036854775808 ≤ p) (h2 : p ≤ 9223372036854775807) (h3 : -9223372036854775808 ≤ q) (h4 : q ≤ 9223372036854775807) (hv : Nm.vld p q = false) :
    Calls Tryz.prog 75 #[.agg #[.int .i64 p, .int .i64 q]] w fun e w' => e = .returned (.bool false) ∧ Below w.heap.size w w' := by
  have HV := Lib.hid (fun W => valid_any p q W h1 h2 h3 h4)
  rw [hv] at HV
  clear hv
  go_enter Tryz.func75, Tryz.ntmps75
  go_wp2_with fail
  refine (HV.out _).mono ?_; rintro e w' ⟨rfl, hb⟩
  have hB := ((Below.refl w.heap.size w).alloc (Nat.le_refl _) _).trans (hb.mono (by simp))
  have BB := Lib.hid hB
  clear hb hB
  go_wp2_with fail
  go_ret
  exact ⟨rfl, BB.out⟩

theorem blk2 {w : World} {b : Nat} {t : TypeId} {c0 c1 : Value} (h : w.heap[b]? = some (.cells #[c0, c1] t (0, 0))) :
    (w.cell? ⟨b, 0, none⟩ = some c0 ∧ w.cell? ⟨b, 1, none⟩ = some c1) ∧ b < w.heap.size :=
  ⟨⟨cell_of_row w b 0 _ _ _ h, cell_of_row w b 1 _ _ _ h⟩, (Array.getElem?_eq_some_iff.1 h).1⟩

set_option maxHeartbeats 4000000 in
theorem decimal_yes (p q : Int) (w : World) (hv : Nm.vld p q = true) :
    Calls Tryz.prog 75 #[.agg #[.int .i64 p, .int .i64 q]] w fun e w' => e = .returned (.bool (Lx.decB p q)) ∧ Below w.heap.size w w' := by
  obtain ⟨q1, q2, p1, p2⟩ := vld_pos hv
  have HV := Lib.hid (fun W => valid_any p q W (by omega) (by omega) (by omega) (by omega))
  obtain ⟨b, hb⟩ : ∃ b, b = Lx.decB p q := ⟨_, rfl⟩
  rw [← hb]
  unfold Lx.decB at hb
  rw [hv] at HV hb
  clear hv
  have hpq : 0 ≤ p → 0 ≤ p / q ∧ p / q ≤ p := fun h => ⟨Int.ediv_nonneg h (by omega), Int.ediv_le_self q h⟩
  have hmq : 0 ≤ 100000 % q ∧ 100000 % q < q := ⟨Int.emod_nonneg _ (by omega), Int.emod_lt_of_pos _ (by omega)⟩
  by_cases a1 : 0 ≤ p
  · obtain ⟨e1, e2⟩ := hpq a1
    have d1 : decide (0 ≤ p) = true := decide_eq_true a1
    by_cases a2 : p / q < 1000000000
    · by_cases a3 : 100000 % q = 0
      · obtain rfl : b = true := by rw [hb]; simp [a1, a2, a3]
        have d3 : ((100000 % q) == 0) = true := by simpa using a3
        have HA := Lib.hid a3
        clear a3 hb hpq
        go_enter Tryz.func75, Tryz.ntmps75
        go_wp2_with fail
        refine (HV.out _).mono ?_; rintro e w' ⟨rfl, hb⟩
        have h2 := (hb.block w.heap.size (by simp)).trans (heap_alloc_new w _)
        have BB := Lib.hid (((Below.refl w.heap.size w).alloc (Nat.le_refl _) (.cells #[.int .i64 p, .int .i64 q] 39)).trans (hb.mono (by simp)))
        obtain ⟨⟨z0, z1⟩, hlt⟩ := blk2 h2
        clear hb h2
        go_wp2_with fail
        go_ret
        exact ⟨rfl, BB.out⟩
      · obtain rfl : b = false := by rw [hb]; simp [a1, a2, a3]
        have d3 : ((100000 % q) == 0) = false := by simpa using a3
        clear a3 hb hpq
        go_enter Tryz.func75, Tryz.ntmps75
        go_wp2_with fail
        refine (HV.out _).mono ?_; rintro e w' ⟨rfl, hb⟩
        have h2 := (hb.block w.heap.size (by simp)).trans (heap_alloc_new w _)
        have BB := Lib.hid (((Below.refl w.heap.size w).alloc (Nat.le_refl _) (.cells #[.int .i64 p, .int .i64 q] 39)).trans (hb.mono (by simp)))
        obtain ⟨⟨z0, z1⟩, hlt⟩ := blk2 h2
        clear hb h2
        go_wp2_with fail
        go_ret
        exact ⟨rfl, BB.out⟩
    · obtain rfl : b = false := by rw [hb]; simp [a1, a2]
      have d2 : decide (p / q < 1000000000) = false := decide_eq_false a2
      clear hb hpq
      go_enter Tryz.func75, Tryz.ntmps75
      go_wp2_with fail
      refine (HV.out _).mono ?_; rintro e w' ⟨rfl, hb⟩
      have h2 := (hb.block w.heap.size (by simp)).trans (heap_alloc_new w _)
      have BB := Lib.hid (((Below.refl w.heap.size w).alloc (Nat.le_refl _) (.cells #[.int .i64 p, .int .i64 q] 39)).trans (hb.mono (by simp)))
      obtain ⟨⟨z0, z1⟩, hlt⟩ := blk2 h2
      clear hb h2
      go_wp2_with fail
      go_ret
      exact ⟨rfl, BB.out⟩
  · obtain rfl : b = false := by rw [hb]; simp [a1]
    have d1 : decide (0 ≤ p) = false := decide_eq_false a1
    clear hb hpq
    go_enter Tryz.func75, Tryz.ntmps75
    go_wp2_with fail
    refine (HV.out _).mono ?_; rintro e w' ⟨rfl, hb⟩
    have h2 := (hb.block w.heap.size (by simp)).trans (heap_alloc_new w _)
    have BB := Lib.hid (((Below.refl w.heap.size w).alloc (Nat.le_refl _) (.cells #[.int .i64 p, .int .i64 q] 39)).trans (hb.mono (by simp)))
    obtain ⟨⟨z0, z1⟩, hlt⟩ := blk2 h2
    clear hb h2
    go_wp2_with fail
    go_ret
    exact ⟨rfl, BB.out⟩
theorem decimal_b (p q : Int) (w : World) (h1 : -9223372036854775808 ≤ p) (h2 : p ≤ 9223372036854775807) (h3 : -9223372036854775808 ≤ q) (h4 : q ≤ 9223372036854775807) :
    Calls Tryz.prog 75 #[.agg #[.int .i64 p, .int .i64 q]] w fun e w' => e = .returned (.bool (Lx.decB p q)) ∧ Below w.heap.size w w' := by
  cases hv : Nm.vld p q
  · have e : Lx.decB p q = false := by unfold Lx.decB; rw [hv]; rfl
    rw [e]; exact decimal_no p q w h1 h2 h3 h4 hv
  · exact decimal_yes p q w hv
end Go.Proofs.YtnhcjgnohnedaaaGreatDoor

namespace Go.Proofs.YtnhcjgnohnedaaaGreatDoor
open Go.RowKit

theorem ba_list (t : ByteArray) : t = ⟨t.data.toList.toArray⟩ := by simp
set_option maxHeartbeats 2000000 in
theorem valid_nz (k p q a c : Int) (t : ByteArray) (w : World) (hk : k ≠ 2) (h0 : ¬ (p = 0 ∧ q = 0)) :
    Calls Tryz.prog 43 #[.agg #[.int .i64 k, .string t, .int .i64 p, .int .i64 q, .int .i64 a, .int .i64 c]] w fun e w' => e = .returned (.bool false) ∧ Below w.heap.size w w' := by
  have k2 : (k == 2) = false := by simpa using hk
  clear hk
  by_cases hp : p = 0
  · have hq : (q == 0) = false := by simp; exact fun e => h0 ⟨hp, e⟩
    subst hp
    clear h0
    go_enter Tryz.func43, Tryz.ntmps43
    go_wp2_with fail
    go_ret
    exact ⟨rfl, (Below.refl _ _).alloc (Nat.le_refl _) _⟩
  · have hp2 : (p == 0) = false := by simpa using hp
    clear h0 hp
    go_enter Tryz.func43, Tryz.ntmps43
    go_wp2_with fail
    go_ret
    exact ⟨rfl, (Below.refl _ _).alloc (Nat.le_refl _) _⟩

set_option maxHeartbeats 2000000 in
theorem valid_num_no (p q a c : Int) (t : ByteArray) (w : World) (ht : t.toList.isEmpty = false) :
    Calls Tryz.prog 43 #[.agg #[.int .i64 2, .string t, .int .i64 p, .int .i64 q, .int .i64 a, .int .i64 c]] w fun e w' => e = .returned (.bool (false)) ∧ Below w.heap.size w w' := by
  go_enter Tryz.func43, Tryz.ntmps43
  go_wp2_with fail
  go_ret
  exact ⟨rfl, (Below.refl _ _).alloc (Nat.le_refl _) _⟩

set_option maxHeartbeats 2000000 in
theorem valid_num (p q a c : Int) (t : ByteArray) (w : World) (h1 : -9223372036854775808 ≤ p) (h2 : p ≤ 9223372036854775807) (h3 : -9223372036854775808 ≤ q) (h4 : q ≤ 9223372036854775807) (ht : t.toList.isEmpty = true) :
    Calls Tryz.prog 43 #[.agg #[.int .i64 2, .string t, .int .i64 p, .int .i64 q, .int .i64 a, .int .i64 c]] w fun e w' => e = .returned (.bool (Lx.decB p q)) ∧ Below w.heap.size w w' := by
  have HD := Lib.hid (fun W => decimal_b p q W h1 h2 h3 h4)
  generalize Lx.decB p q = b at *
  go_enter Tryz.func43, Tryz.ntmps43
  go_wp2_with fail
  refine (HD.out _).mono ?_; rintro e w' ⟨rfl, hb⟩
  have BB := Lib.hid (((Below.refl w.heap.size w).alloc (Nat.le_refl _) _).trans (hb.mono (by simp)))
  clear hb
  go_wp2_with fail
  go_ret
  exact ⟨rfl, BB.out⟩

set_option maxHeartbeats 2000000 in
theorem valid_name_e (a c : Int) (t : ByteArray) (w : World) (ht : t.toList.isEmpty = true) :
    Calls Tryz.prog 43 #[.agg #[.int .i64 0, .string t, .int .i64 0, .int .i64 0, .int .i64 a, .int .i64 c]] w fun e w' => e = .returned (.bool (false)) ∧ Below w.heap.size w w' := by
  go_enter Tryz.func43, Tryz.ntmps43
  go_wp2_with fail
  go_ret
  exact ⟨rfl, (Below.refl _ _).alloc (Nat.le_refl _) _⟩

set_option maxHeartbeats 2000000 in
theorem valid_name_l (a c : Int) (t : ByteArray) (w : World) (ht : t.toList.isEmpty = false) (hl : 40 < t.size) :
    Calls Tryz.prog 43 #[.agg #[.int .i64 0, .string t, .int .i64 0, .int .i64 0, .int .i64 a, .int .i64 c]] w fun e w' => e = .returned (.bool (false)) ∧ Below w.heap.size w w' := by
  go_enter Tryz.func43, Tryz.ntmps43
  go_wp2_with fail
  go_ret
  exact ⟨rfl, (Below.refl _ _).alloc (Nat.le_refl _) _⟩

set_option maxHeartbeats 2000000 in
theorem valid_name (a c : Int) (t : ByteArray) (w : World) (ht : t.toList.isEmpty = false) (hl : t.size ≤ 40) :
    Calls Tryz.prog 43 #[.agg #[.int .i64 0, .string t, .int .i64 0, .int .i64 0, .int .i64 a, .int .i64 c]] w fun e w' => e = .returned (.bool (Lx.allB Lx.letter t.data.toList)) ∧ Below w.heap.size w w' := by
  have HA := Lib.hid (fun W => all_letter t.data.toList W (by have := Lib.size_eq t; omega))
  rw [← ba_list t] at HA
  generalize Lx.allB Lx.letter t.data.toList = b at *
  go_enter Tryz.func43, Tryz.ntmps43
  go_wp2_with fail
  refine (HA.out _).mono ?_; rintro e w' ⟨rfl, rfl⟩
  go_wp2_with fail
  go_ret
  exact ⟨rfl, (Below.refl _ _).alloc (Nat.le_refl _) _⟩

set_option maxHeartbeats 2000000 in
theorem valid_text (a c : Int) (t : ByteArray) (w : World) (hl : t.size ≤ 100) :
    Calls Tryz.prog 43 #[.agg #[.int .i64 3, .string t, .int .i64 0, .int .i64 0, .int .i64 a, .int .i64 c]] w fun e w' => e = .returned (.bool (Lx.allB Lx.quot t.data.toList)) ∧ Below w.heap.size w w' := by
  have HA := Lib.hid (fun W => all_quot t.data.toList W (by have := Lib.size_eq t; omega))
  rw [← ba_list t] at HA
  generalize Lx.allB Lx.quot t.data.toList = b at *
  go_enter Tryz.func43, Tryz.ntmps43
  go_wp2_with fail
  refine (HA.out _).mono ?_; rintro e w' ⟨rfl, rfl⟩
  go_wp2_with fail
  go_ret
  exact ⟨rfl, (Below.refl _ _).alloc (Nat.le_refl _) _⟩

set_option maxHeartbeats 2000000 in
theorem valid_text_l (a c : Int) (t : ByteArray) (w : World) (hl : 100 < t.size) :
    Calls Tryz.prog 43 #[.agg #[.int .i64 3, .string t, .int .i64 0, .int .i64 0, .int .i64 a, .int .i64 c]] w fun e w' => e = .returned (.bool (false)) ∧ Below w.heap.size w w' := by
  go_enter Tryz.func43, Tryz.ntmps43
  go_wp2_with fail
  go_ret
  exact ⟨rfl, (Below.refl _ _).alloc (Nat.le_refl _) _⟩

set_option maxHeartbeats 2000000 in
theorem valid_word (a c : Int) (t : ByteArray) (w : World) (he : EnvL w) :
    Calls Tryz.prog 43 #[.agg #[.int .i64 1, .string t, .int .i64 0, .int .i64 0, .int .i64 a, .int .i64 c]] w fun e w' => e = .returned (.bool (decide (t.data.toList ∈ Lx.wds))) ∧ Below w.heap.size w w' := by
  have HW := Lib.hid (fun W (hW : EnvL W) => word_any t W hW)
  have HE := Lib.hid he
  generalize decide (t.data.toList ∈ Lx.wds) = b at *
  clear he
  go_enter Tryz.func43, Tryz.ntmps43
  go_wp2_with fail
  refine (HW.out _ (by exact HE.out.below ((Below.refl _ _).alloc (Nat.le_refl _) _))).mono ?_; rintro e w' ⟨rfl, hb⟩
  have BB := Lib.hid (((Below.refl w.heap.size w).alloc (Nat.le_refl _) _).trans (hb.mono (by simp)))
  clear hb
  go_wp2_with fail
  go_ret
  exact ⟨rfl, BB.out⟩

set_option maxHeartbeats 2000000 in
theorem valid_sign (a c : Int) (t : ByteArray) (w : World) (he : EnvL w) :
    Calls Tryz.prog 43 #[.agg #[.int .i64 4, .string t, .int .i64 0, .int .i64 0, .int .i64 a, .int .i64 c]] w fun e w' => e = .returned (.bool (decide (t.data.toList ∈ Lx.sgs))) ∧ Below w.heap.size w w' := by
  have HW := Lib.hid (fun W (hW : EnvL W) => sign_any t W hW)
  have HE := Lib.hid he
  generalize decide (t.data.toList ∈ Lx.sgs) = b at *
  clear he
  go_enter Tryz.func43, Tryz.ntmps43
  go_wp2_with fail
  refine (HW.out _ (by exact HE.out.below ((Below.refl _ _).alloc (Nat.le_refl _) _))).mono ?_; rintro e w' ⟨rfl, rfl⟩
  go_wp2_with fail
  go_ret
  exact ⟨rfl, (Below.refl _ _).alloc (Nat.le_refl _) _⟩

set_option maxHeartbeats 2000000 in
theorem valid_none (k a c : Int) (t : ByteArray) (w : World) (hk : k ≠ 0 ∧ k ≠ 1 ∧ k ≠ 2 ∧ k ≠ 3 ∧ k ≠ 4) :
    Calls Tryz.prog 43 #[.agg #[.int .i64 k, .string t, .int .i64 0, .int .i64 0, .int .i64 a, .int .i64 c]] w fun e w' => e = .returned (.bool (false)) ∧ Below w.heap.size w w' := by
  have k0 : (k == 0) = false := by simp; omega
  have k1 : (k == 1) = false := by simp; omega
  have k2 : (k == 2) = false := by simp; omega
  have k3 : (k == 3) = false := by simp; omega
  have k4 : (k == 4) = false := by simp; omega
  clear hk
  go_enter Tryz.func43, Tryz.ntmps43
  go_wp2_with fail
  go_ret
  exact ⟨rfl, (Below.refl _ _).alloc (Nat.le_refl _) _⟩


theorem isEmpty_list (t : ByteArray) : t.toList.isEmpty = t.data.toList.isEmpty := by rw [Lib.toList_data]
/-- Valid says what the chapter says, of any token. -/
theorem lvalid_any (k p q a c : Int) (t : ByteArray) (w : World) (he : EnvL w) (h1 : -9223372036854775808 ≤ p) (h2 : p ≤ 9223372036854775807) (h3 : -9223372036854775808 ≤ q) (h4 : q ≤ 9223372036854775807) (_ht : t.size ≤ maxLen) :
    Calls Tryz.prog 43 #[.agg #[.int .i64 k, .string t, .int .i64 p, .int .i64 q, .int .i64 a, .int .i64 c]] w fun e w' => e = .returned (.bool (Lx.vldT k t.data.toList p q)) ∧ Below w.heap.size w w' := by
  have hsz : t.data.toList.length = t.size := Lib.size_eq t
  unfold Lx.vldT
  by_cases k2 : k = 2
  · subst k2; rw [if_pos rfl]
    cases hx : t.data.toList.isEmpty
    · exact valid_num_no p q a c t w (by rw [isEmpty_list]; exact hx)
    · exact valid_num p q a c t w h1 h2 h3 h4 (by rw [isEmpty_list]; exact hx)
  rw [if_neg k2]
  by_cases h0 : p = 0 ∧ q = 0
  case neg => rw [if_pos h0]; exact valid_nz k p q a c t w k2 h0
  rw [if_neg (fun h => h h0)]
  obtain ⟨rfl, rfl⟩ := h0
  by_cases k0 : k = 0
  · subst k0; rw [if_pos rfl]
    cases hx : t.data.toList.isEmpty
    · by_cases hl : t.size ≤ 40
      · have e : (!false && (decide (t.data.toList.length ≤ 40) && Lx.allB Lx.letter t.data.toList)) = Lx.allB Lx.letter t.data.toList := by rw [decide_eq_true (by omega)]; rfl
        rw [e]; exact valid_name a c t w (by rw [isEmpty_list]; exact hx) hl
      · have e : (!false && (decide (t.data.toList.length ≤ 40) && Lx.allB Lx.letter t.data.toList)) = false := by rw [decide_eq_false (by omega)]; rfl
        rw [e]; exact valid_name_l a c t w (by rw [isEmpty_list]; exact hx) (by omega)
    · exact valid_name_e a c t w (by rw [isEmpty_list]; exact hx)
  rw [if_neg k0]
  by_cases k1 : k = 1
  · subst k1; rw [if_pos rfl]; exact valid_word a c t w he
  rw [if_neg k1]
  by_cases k3 : k = 3
  · subst k3; rw [if_pos rfl]
    by_cases hl : t.size ≤ 100
    · rw [decide_eq_true (by omega), Bool.true_and]; exact valid_text a c t w hl
    · rw [decide_eq_false (by omega), Bool.false_and]; exact valid_text_l a c t w (by omega)
  rw [if_neg k3]
  by_cases k4 : k = 4
  · subst k4; rw [if_pos rfl]; exact valid_sign a c t w he
  rw [if_neg k4]
  exact valid_none k a c t w ⟨k0, k1, k2, k3, k4⟩
end Go.Proofs.YtnhcjgnohnedaaaGreatDoor
