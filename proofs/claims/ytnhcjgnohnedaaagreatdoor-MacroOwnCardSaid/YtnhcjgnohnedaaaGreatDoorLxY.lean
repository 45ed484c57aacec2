/-
  The chapter's examples of macros, as a plain function answers them.
  Contracts of the reference of layer 3: parts of a string between blanks; is a string one of them.
-/
import Derived.Test.YtnhcjgnohnedaaaGreatDoorMxXj
import Derived.Test.YtnhcjgnohnedaaaGreatDoorLxH
import Derived.Test.YtnhcjgnohnedaaaGreatDoorLxN
import Derived.Laws.AppendOwnNone
namespace Go.Proofs.YtnhcjgnohnedaaaGreatDoor
open Go.RowKit Go.Sort

def mw1 : List UInt8 := [100, 101, 102, 32, 116, 119, 105, 99, 101, 40, 101, 120, 112, 114, 32, 120, 41, 61, 120, 43, 120, 32, 101, 110, 100, 100, 101, 102, 59, 32, 121, 61, 116, 119, 105, 99, 101, 40, 50, 41, 42, 51, 59]
def mw2 : List UInt8 := [108, 101, 116, 32, 97, 108, 115, 111, 61, 101, 110, 100, 103, 114, 111, 117, 112, 59, 32, 98, 101, 103, 105, 110, 103, 114, 111, 117, 112, 32, 115, 97, 118, 101, 32, 102, 105, 108, 108, 59, 32, 102, 105, 108, 108, 61, 49, 59, 32, 97, 108, 115, 111, 59, 32, 102, 105, 108, 108, 32, 112, 59]
def mw3 : List UInt8 := [101, 110, 100, 103, 114, 111, 117, 112]
def mw4 : List UInt8 := [100, 101, 102, 32, 98, 61, 99, 32, 101, 110, 100, 100, 101, 102, 59, 32, 100, 101, 102, 32, 97, 61, 32, 101, 110, 100, 100, 101, 102, 59]
def mw5 : List UInt8 := [97, 43, 98]
def mw6 : List UInt8 := [59, 32, 121, 32, 61, 32, 40, 32, 50, 32, 41, 32, 43, 32, 40, 32, 50, 32, 41, 32, 42, 32, 51, 32, 59]
def mw7 : List UInt8 := [98, 43, 97]
def tokOf (s : List UInt8) : List Lx.Tp := match Lx.toks s (1, 1) with | .ok l => l | .bad _ _ _ _ => []
def tokIs (s : List UInt8) : Bool := match Lx.toks s (1, 1) with | .ok _ => true | .bad _ _ _ _ => false
theorem tokOf_ok (s : List UInt8) (h : tokIs s = true) : Lx.toks s (1, 1) = .ok (tokOf s) := by
  unfold tokIs at h
  unfold tokOf
  cases hr : Lx.toks s (1, 1) with
  | ok l => rfl
  | bad a b c d => rw [hr] at h; cases h
/-- The tokens of a string, as they are read. -/
def tvOf (s : List UInt8) : List Tv := (tokOf s).map Tv.of
theorem mw1_ok : tokIs mw1 = true := by decide +kernel
theorem mw2_ok : tokIs mw2 = true := by decide +kernel
theorem mw3_ok : tokIs mw3 = true := by decide +kernel
theorem mw4_ok : tokIs mw4 = true := by decide +kernel
theorem mw5_ok : tokIs mw5 = true := by decide +kernel
theorem mw6_ok : tokIs mw6 = true := by decide +kernel
theorem mw7_ok : tokIs mw7 = true := by decide +kernel
def fitB (t : Lx.Tp) : Bool := decide (-9223372036854775808 ≤ t.p ∧ t.p ≤ 9223372036854775807 ∧ -9223372036854775808 ≤ t.q ∧ t.q ≤ 9223372036854775807 ∧ t.text.length ≤ 100000)
theorem fit_tv (s : List UInt8) (h : (tokOf s).all fitB = true) : ∀ x ∈ tvOf s, x.fit := fit_of _ (fun t ht => by
  have := List.all_eq_true.1 h t ht
  unfold fitB at this
  exact of_decide_eq_true this)
theorem mw1_fit : ∀ x ∈ tvOf mw1, x.fit := fit_tv _ (by decide +kernel)
theorem mw2_fit : ∀ x ∈ tvOf mw2, x.fit := fit_tv _ (by decide +kernel)
theorem mw3_fit : ∀ x ∈ tvOf mw3, x.fit := fit_tv _ (by decide +kernel)
theorem mw4_fit : ∀ x ∈ tvOf mw4, x.fit := fit_tv _ (by decide +kernel)
theorem mw5_fit : ∀ x ∈ tvOf mw5, x.fit := fit_tv _ (by decide +kernel)
theorem mx1_f : Mx.expandF (tvOf mw1) = Mx.noFlt := by kernel_rfl
theorem mx2_f : Mx.expandF (tvOf mw2) = Mx.noFlt := by kernel_rfl
theorem mx3_f : Mx.expandF (tvOf mw3) = ⟨11, ⟨#[101, 110, 100, 103, 114, 111, 117, 112]⟩, 1, 1⟩ := by kernel_rfl
theorem mx4_f : Mx.expandF (tvOf mw4) = Mx.noFlt := by kernel_rfl
theorem mx1_same : sameTvs (Mx.expandO (tvOf mw1)) (tvOf mw6) = true := by decide +kernel
theorem mx1_len : (Mx.expandO (tvOf mw1)).length ≤ 1000000000 := by decide +kernel
theorem mx2_len : (Mx.expandO (tvOf mw2)).length = 13 := by decide +kernel
def kindAt (l : List Tv) (i : Nat) : Option Int := l[i]?.map Tv.k
theorem mx2_k4 : kindAt (Mx.expandO (tvOf mw2)) 4 = some 0 := by decide +kernel
theorem mx2_k10 : kindAt (Mx.expandO (tvOf mw2)) 10 = some 1 := by decide +kernel
theorem mx5_ok : Mx.renOk (tvOf mw5) ⟨#[97]⟩ ⟨#[98]⟩ = true := by decide +kernel
theorem mx5_same : sameTvs ((tvOf mw5).map (Mx.rn ⟨#[97]⟩ ⟨#[98]⟩)) (tvOf mw7) = true := by decide +kernel
theorem mx4_all : (tvOf mw4).all Tv.ok = true := by decide +kernel
def okIs {α : Type} (r : Mx.Res α) : Bool := match r with | .ok _ _ => true | .bad _ => false
def meanAt {α : Type} (r : Mx.Res α) (x : ByteArray) : Mx.Mean := match r with | .ok _ s => s.means x | .bad _ => .var
theorem mx4_ok : okIs (Mx.expanded (tvOf mw4)) = true := by decide +kernel
theorem mx4_at (x : ByteArray) : meanAt (Mx.expanded (tvOf mw4)) x = if x = ⟨#[97]⟩ then .mac ⟨[], []⟩ else if x = ⟨#[98]⟩ then .mac ⟨[], [⟨⟨0, ⟨#[99]⟩, 0, 0, 1, 7⟩, 0, false⟩]⟩ else if x.data.toList ∈ Lx.wds then .word x else .var := by kernel_rfl
theorem two_macs (l : List Tv) (M1 M2 : Mx.Mac) (hall : l.all Tv.ok = true) (hok : okIs (Mx.expanded l) = true) (hat : ∀ x : ByteArray, meanAt (Mx.expanded l) x = if x = ⟨#[97]⟩ then .mac M1 else if x = ⟨#[98]⟩ then .mac M2 else if x.data.toList ∈ Lx.wds then .word x else .var)
    (L : List (List UInt8)) (h : Mx.IsMacros l L) : L = [[97], [98]].mergeSort leB := by
  obtain ⟨ns, hnd, hL, -, hm⟩ := h
  rw [hL]
  refine mergeSort_of_perm ((List.perm_ext_iff_of_nodup hnd (by decide)).2 (fun x => ?_))
  rw [hm x]
  clear hm hL hnd
  revert hok hat
  generalize Mx.expanded l = r
  intro hok hat
  cases r with
  | bad f => cases hok
  | ok u s =>
    unfold meanAt at hat
    dsimp only at hat
    constructor
    · rintro ⟨-, -, s', hs', m, hmac⟩
      injection hs' with _ e
      subst e
      rw [hat] at hmac
      by_cases e1 : (⟨x.toArray⟩ : ByteArray) = ⟨#[97]⟩
      · have e3 := congrArg (fun b : ByteArray => b.data.toList) e1
        simp at e3; subst e3; simp
      · rw [if_neg e1] at hmac
        by_cases e2 : (⟨x.toArray⟩ : ByteArray) = ⟨#[98]⟩
        · have e3 := congrArg (fun b : ByteArray => b.data.toList) e2
          simp at e3; subst e3; simp
        · rw [if_neg e2] at hmac
          split at hmac <;> cases hmac
    · intro hx
      have hx' : x = [97] ∨ x = [98] := by simpa using hx
      have hsz : x.length ≤ maxLen := by rcases hx' with rfl | rfl <;> (unfold maxLen; simp)
      refine ⟨hsz, hall, s, rfl, ?_⟩
      rcases hx' with rfl | rfl
      · exact ⟨_, (hat _).trans (if_pos rfl)⟩
      · exact ⟨_, (hat _).trans ((if_neg (by decide)).trans (if_pos rfl))⟩
theorem mx4_mac (L : List (List UInt8)) (h : Mx.IsMacros (tvOf mw4) L) : L.length = 2 ∧ L[0]? = some [97] := by
  rw [two_macs _ _ _ mx4_all mx4_ok mx4_at L h]
  constructor
  · simp
  · rw [show ([[97], [98]] : List (List UInt8)).mergeSort leB = [[97], [98]] by first | exact List.mergeSort_of_pairwise (by simp [leB]; decide) | exact List.mergeSort_of_sorted (by simp [leB]) | simp [List.mergeSort, leB]]; rfl
end Go.Proofs.YtnhcjgnohnedaaaGreatDoor

namespace Go.Proofs.YtnhcjgnohnedaaaGreatDoor
open Go.RowKit

namespace Lx
/-- Parts between single blanks; cur: what of the first is read. -/
def pg : List UInt8 → List UInt8 → List (List UInt8)
  | cur, [] => [cur]
  | cur, c :: t => if c = 32 then cur :: pg [] t else pg (cur ++ [c]) t
theorem pg_len : ∀ (t cur : List UInt8), 1 ≤ (pg cur t).length ∧ (pg cur t).length ≤ t.length + 1
  | [], cur => by simp [pg]
  | c :: t, cur => by
    unfold pg
    have h1 := pg_len t []
    have h2 := pg_len t (cur ++ [c])
    split <;> simp only [List.length_cons] <;> omega
end Lx
theorem info_str : (Tryz.prog.info? 9).map (fun i => (i.zero, i.size, i.bytes)) = some (some (.string ⟨#[]⟩), 1, 16) := by kernel_rfl
/-- A slice of strings of the call's own. -/
def StrOwn (w : World) (B : Nat) (v : Value) (l : List (List UInt8)) : Prop := w.ownsRow B 9 1 v l.length (l.map fun s => Value.string ⟨s.toArray⟩)
theorem StrOwn.alloc {w : World} {B : Nat} {v : Value} {l : List (List UInt8)} (h : StrOwn w B v l) (o : Obj) : StrOwn (w.alloc o) B v l := World.ownsRow.alloc h o
theorem StrOwn.below {w w' : World} {B : Nat} {v : Value} {l : List (List UInt8)} (h : StrOwn w B v l) (hb : Below w.heap.size w w') : StrOwn w' B v l :=
  World.ownsRow.kept h (grown_of hb none) (by cases hv : v.ownBlock <;> simp)

theorem addr_row' (g m : Nat) : (⟨g, 0, none⟩ : Addr).add m = ⟨g, m, none⟩ := by unfold Addr.add; split <;> simp_all
def strL (l : List (List UInt8)) : List Value := l.map fun s => Value.string ⟨s.toArray⟩
theorem strL_one (l : List (List UInt8)) : ∀ u ∈ strL l, u.oneCell' = true := by
  intro u hu
  obtain ⟨s, -, rfl⟩ := List.mem_map.1 hu
  rfl
/-- Strings appended to strings of the call's own. -/
theorem wpList_append_str {w : World} {ops : Array Oper} {rest : List Oper} {o : Oper} {a : Act} {Q : Exit → Act → World → Prop} (hgd : o.guard = none) (s x : Operand)
    (ho : o.op = .call { callee := .builtin .append, args := #[s, x], argTypes := #[30, 30] }) (base : Nat) (v : Value) (l m : List (List UInt8)) (hs : a.eval s = v) (hown : StrOwn w base v l)
    (c : Nat) (A : Option Addr) (hx : a.eval x = .slice A m.length c) (hA : A = none → c = 0 ∧ m = []) (hm : ∀ ad, A = some ad → ∀ j u, (strL m)[j]? = some u → w.cell? (ad.add j) = some u) (hl : l.length + m.length ≤ 1000000) (hbase : base ≤ w.heap.size)
    (h : ∀ v' w', StrOwn w' base v' (l ++ m) → w.grownBy w' v.ownBlock → wpList Tryz.prog ops Q rest (a.put o.dst v') w') : wpList Tryz.prog ops Q (o :: rest) a w := by
  obtain ⟨i0, hi, hz0, hz1, hz2⟩ := info_parts info_str
  have hown' : w.ownsRow base 9 1 v l.length (strL l) := hown
  cases A with
  | none =>
    obtain ⟨rfl, rfl⟩ := hA rfl
    exact wpList_append_own_none hgd s x _ ho base 9 i0 1 Tryz.underlying30 hi v l.length (strL l) hs hown' hx (h v w (by rw [List.append_nil]; exact hown) (grown_refl _ _))
  | some ad =>
    refine wpList_append_own w hgd s x _ ho base 9 i0 (.string ⟨#[]⟩) 1 16 Tryz.underlying30 hi hz0 hz1 hz2 rfl (by decide) v l.length (strL l) hs hown' ad m.length c (strL m) hx (by simp [strL]) (hm ad rfl) (strL_one m) (by unfold maxLen; omega) (by omega) hbase ?_
    intro v' w' h1 h2 _
    refine h v' w' ?_ h2
    unfold StrOwn
    rw [List.length_append, List.map_append]
    exact h1
/-- What holds at each round of parts' loop. -/
structure PRnd (w : World) (l : List UInt8) (k : Nat) (v : Value) (wr : World) (acc : List (List UInt8)) (f i : Nat) : Prop where
  own : StrOwn wr w.heap.size v acc
  bel : Below w.heap.size w wr
  fi : f ≤ i
  il : i ≤ l.length + 1
  fin : l.length + 1 - i < k
  len : acc.length ≤ i
  eq : i ≤ l.length → acc ++ Lx.pg ((l.drop f).take (i - f)) (l.drop i) = Lx.pg [] l
  end_ : i = l.length + 1 → acc = Lx.pg [] l

/-- What parts returns. -/
def PartsOf (l : List UInt8) (w : World) (e : Ending) (w' : World) : Prop := Below w.heap.size w w' ∧ ∃ v, e = .returned v ∧ StrOwn w' w.heap.size v (Lx.pg [] l)

set_option maxRecDepth 100000 in
set_option maxHeartbeats 4000000 in
theorem rparts_any (l : List UInt8) (w : World) (hl : l.length ≤ 10000) : Calls Tryz.prog 45 #[.string ⟨l.toArray⟩] w (PartsOf l w) := by
  obtain ⟨s, hs⟩ : ∃ s : ByteArray, s = ⟨l.toArray⟩ := ⟨_, rfl⟩
  have hz : s.size = l.length := by rw [hs]; rfl
  have HB : Hid (∀ k (h : k < s.size), s[k] = l.getD k 0) := fun k h => by rw [ba_get s k h, hs]
  have HX : Hid (∀ f i, i ≤ l.length → s.extract f i = ⟨((l.drop f).take (i - f)).toArray⟩) := fun f i hi => by
    rw [hs, ext_list, List.drop_take]
  rw [← hs]
  clear hs
  have HL := Lib.hid hl
  obtain ⟨i0, hi, hz0, hz1, hz2⟩ := info_parts info_str
  go_enter Tryz.func45, Tryz.ntmps45
  go_wp2_with fail
  go_loopg [3, 4, 5] (l.length + 3) (fun k v vf vi wr => ∃ acc f i, vf = .int .i64 (f : Nat) ∧ vi = .int .i64 (i : Nat) ∧ Hid (PRnd w l k v wr acc f i))
  case atStart => exact ⟨[], 0, 0, rfl, rfl, World.ownsRow_nil _ _ _ _, Below.refl _ _, Nat.le_refl _, by omega, by omega, by simp, by simp, by intro h; omega⟩
  case round =>
    obtain ⟨acc, f, i, rfl, rfl, hrd⟩ := hrel
    have H := hrd
    have hsz := H.out.bel.size
    have hil := H.out.il
    have hfi := H.out.fi
    have hac := H.out.len
    by_cases h1 : i = l.length + 1
    · have e := H.out.end_ h1
      clear hrd
      go_wp2_with fail
      go_ret
      exact ⟨H.out.bel, u3, rfl, by rw [← e]; exact H.out.own⟩
    by_cases h2 : i = l.length
    · subst h2
      have EX := HX.out f l.length (by omega)
      have NW : Hid (∀ v' w', StrOwn w' w.heap.size v' (acc ++ [(l.drop f).take (l.length - f)]) → (wr.alloc (.cells #[.string (s.extract f l.length)] 9)).grownBy w' u3.ownBlock → PRnd w l (l.length + 1 - l.length) v' w' (acc ++ [(l.drop f).take (l.length - f)]) (l.length + 1) (l.length + 1)) := by
        intro v' w' o g
        have e := H.out.eq (by omega)
        have hfin := H.out.fin
        refine ⟨o, (H.out.bel.alloc hsz _).grown g (by simp; omega) (fun k hk => (H.out.own.lt k hk).1), Nat.le_refl _, by omega, by omega, by simp; omega, fun h => by omega, fun _ => by rw [← e, List.drop_length]; rfl⟩
      have HF := Lib.hid H.out.fin
      have OW := Lib.hid (H.out.own.alloc (.cells #[.string (s.extract f l.length)] 9))
      have CN : Hid (∀ ad : Addr, (some ⟨wr.heap.size, 0, none⟩ : Option Addr) = some ad → ∀ j u, (strL [(l.drop f).take (l.length - f)])[j]? = some u → (wr.alloc (.cells #[.string (s.extract f l.length)] 9)).cell? (ad.add j) = some u) := by
        intro ad e j u hu
        injection e with e
        subst e
        rw [addr_row']
        have := cell_of_row _ _ j _ _ _ (heap_alloc_new wr (.cells #[.string (s.extract f l.length)] 9))
        rw [this, EX]
        simpa [strL] using hu
      clear hrd EX
      go_wp2_with (at_builtin; refine wpList_append_str rfl _ _ rfl w.heap.size u3 acc [(l.drop f).take (l.length - f)] rfl OW.out 1 (some ⟨wr.heap.size, 0, none⟩) rfl (fun e => by cases e) CN.out ?o4 ?o5 ?_)
      case o4 => simp; omega
      case o5 => simp; omega
      intro v' w' o g
      have NW2 := Lib.hid (NW.out v' w' o g)
      clear o g NW OW CN
      go_wp2_with fail
      go_roundg (l.length + 1 - l.length)
      case measure => exact HF.out
      case rel => exact ⟨_, _, _, by go_num, by go_num, NW2.out⟩
    have hlt : i < s.size := by omega
    have eC0 : l.drop i = l.getD i 0 :: l.drop (i + 1) := by rw [List.drop_eq_getElem_cons (by omega)]; simp [List.getD, List.getElem?_eq_getElem (show i < l.length by omega)]
    have hb := HB.out i hlt
    have HBI : Hid (s[i] = l.getD i 0) := hb
    by_cases h3 : l.getD i 0 = 32
    · have eC : Lx.pg ((l.drop f).take (i - f)) (l.drop i) = (l.drop f).take (i - f) :: Lx.pg [] (l.drop (i + 1)) := by rw [eC0, Lx.pg, if_pos h3]
      have hc : (s[i].toNat : Int) = 32 := by rw [hb, h3]; rfl
      clear eC0 hb h3
      have EX := HX.out f i (by omega)
      have NW : Hid (∀ v' w', StrOwn w' w.heap.size v' (acc ++ [(l.drop f).take (i - f)]) → (wr.alloc (.cells #[.string (s.extract f i)] 9)).grownBy w' u3.ownBlock → PRnd w l (l.length + 1 - i) v' w' (acc ++ [(l.drop f).take (i - f)]) (i + 1) (i + 1)) := by
        intro v' w' o g
        have e := H.out.eq (by omega)
        have hfin := H.out.fin
        refine ⟨o, (H.out.bel.alloc hsz _).grown g (by simp; omega) (fun k hk => (H.out.own.lt k hk).1), Nat.le_refl _, by omega, by omega, by simp; omega, fun h => by rw [← e, eC]; simp, fun h => by omega⟩
      have HF := Lib.hid H.out.fin
      have OW := Lib.hid (H.out.own.alloc (.cells #[.string (s.extract f i)] 9))
      have CN : Hid (∀ ad : Addr, (some ⟨wr.heap.size, 0, none⟩ : Option Addr) = some ad → ∀ j u, (strL [(l.drop f).take (i - f)])[j]? = some u → (wr.alloc (.cells #[.string (s.extract f i)] 9)).cell? (ad.add j) = some u) := by
        intro ad e j u hu
        injection e with e
        subst e
        rw [addr_row']
        have := cell_of_row _ _ j _ _ _ (heap_alloc_new wr (.cells #[.string (s.extract f i)] 9))
        rw [this, EX]
        simpa [strL] using hu
      clear hrd EX
      go_wp2_with (at_builtin; go_loud (refine wpList_append_str rfl _ _ rfl w.heap.size u3 acc [(l.drop f).take (i - f)] rfl OW.out 1 (some ⟨wr.heap.size, 0, none⟩) rfl (fun e => by cases e) CN.out ?o4 ?o5 ?_))
      case o4 => simp; omega
      case o5 => simp; omega
      intro v' w' o g
      have NW2 := Lib.hid (NW.out v' w' o g)
      clear o g NW OW CN
      go_wp2_with fail
      go_roundg (l.length + 1 - i)
      case measure => exact HF.out
      case rel => exact ⟨_, _, _, by go_num, by go_num, NW2.out⟩
    · have eC : Lx.pg ((l.drop f).take (i - f)) (l.drop i) = Lx.pg ((l.drop f).take (i + 1 - f)) (l.drop (i + 1)) := by
        rw [eC0, Lx.pg, if_neg h3]
        congr 1
        rw [show i + 1 - f = i - f + 1 by omega, List.take_succ_eq_append_getElem (by rw [List.length_drop]; omega)]
        simp [List.getD, List.getElem?_eq_getElem (show i < l.length by omega), show f + (i - f) = i by omega]
      have hc : ((s[i].toNat : Int) == 32) = false := by
        have hn : (l.getD i 0).toNat ≠ 32 := fun e => h3 (UInt8.toNat_inj.1 e)
        rw [hb, beq_eq_false_iff_ne]
        omega
      have NW : Hid (PRnd w l (l.length + 1 - i) u3 wr acc f (i + 1)) := by
        have e := H.out.eq (by omega)
        exact ⟨H.out.own, H.out.bel, by omega, by omega, by omega, by omega, fun _ => by rw [← e, eC], fun h => by omega⟩
      have HF := Lib.hid H.out.fin
      clear hrd eC eC0 hb h3
      go_wp2_with fail
      go_roundg (l.length + 1 - i)
      case measure => exact HF.out
      case rel => exact ⟨_, _, _, by go_num, by go_num, NW.out⟩

theorem ba_list' (t : ByteArray) : t = ⟨t.data.toList.toArray⟩ := by simp
theorem StrOwn.at {w : World} {B : Nat} {v : Value} {l : List (List UInt8)} (h : StrOwn w B v l) : ∃ A c, v = .slice A l.length c ∧ ∀ k, k < l.length → ∃ g, A = some ⟨g, 0, none⟩ ∧ B ≤ g ∧ g < w.heap.size ∧ w.cell? ⟨g, k, none⟩ = some (.string ⟨(l.getD k []).toArray⟩) := by
  rcases h.2 with ⟨rfl, h0⟩ | ⟨g, cap, cur, rfl, hB, hg, hn, hc, hs, ht⟩
  · rw [h0]; exact ⟨none, 0, rfl, fun k hk => by omega⟩
  · refine ⟨some ⟨g, 0, none⟩, cap, rfl, fun k hk => ⟨g, rfl, hB, (Array.getElem?_eq_some_iff.1 hg).1, ?_⟩⟩
    have := World.ownsRow.cells h (g := g) rfl k (.string ⟨(l.getD k []).toArray⟩) (by simp [List.getD, List.getElem?_eq_getElem hk])
    rwa [addr_row'] at this

set_option maxRecDepth 100000 in
set_option maxHeartbeats 4000000 in
theorem ramong_any (x : ByteArray) (l : List UInt8) (w : World) (hl : l.length ≤ 10000) :
    Calls Tryz.prog 30 #[.string x, .string ⟨l.toArray⟩] w fun e w' => e = .returned (.bool (decide (x.data.toList ∈ Lx.pg [] l))) ∧ Below w.heap.size w w' := by
  have HP := Lib.hid (rparts_any l)
  obtain ⟨s, hs⟩ : ∃ s : ByteArray, s = ⟨l.toArray⟩ := ⟨_, rfl⟩
  rw [← hs] at HP ⊢
  obtain ⟨P, hP⟩ : ∃ P, P = Lx.pg [] l := ⟨_, rfl⟩
  unfold PartsOf at HP
  rw [← hP] at HP ⊢
  have HPL : Hid (P.length ≤ 10001) := by have := (Lx.pg_len l []).2; rw [← hP] at this; unfold Hid; omega
  have HL := Lib.hid hl
  obtain ⟨r, hr⟩ : ∃ r, r = decide (x.data.toList ∈ P) := ⟨_, rfl⟩
  have HR := Lib.hid hr
  rw [← hr]
  clear hr hP hs hl
  go_enter Tryz.func30, Tryz.ntmps30
  go_wp2_with fail
  refine (HP.out w HL.out).mono ?_; rintro e w1 ⟨hb, v, rfl, own⟩
  obtain ⟨A, c, rfl, hc⟩ := own.at
  have HC := Lib.hid hc
  have B1 := Lib.hid hb
  have hpl := HPL.out
  clear own hc hb
  go_wp2_with fail
  go_loop [10] (fun vi => ∃ k : Nat, vi = .int .i64 k ∧ k ≤ P.length ∧ Hid (∀ j, j < k → P.getD j [] ≠ x.data.toList)) (fun vi => P.length - (intOf vi).toNat)
  case atStart => exact ⟨0, rfl, by omega, fun j h => by omega⟩
  case round =>
    obtain ⟨k, rfl, hk, hall⟩ := hrel
    by_cases hlt : k < P.length
    · obtain ⟨g, rfl, -, -, hcell⟩ := HC.out k hlt
      have CC := Lib.hid hcell
      have hadd := addr_row' g k
      obtain ⟨y, hy⟩ : ∃ y : ByteArray, y = ⟨(P.getD k []).toArray⟩ := ⟨_, rfl⟩
      rw [← hy] at hcell
      have HY := Lib.hid hy
      by_cases hxy : x = y
      · clear hy CC
        subst hxy
        go_wp2_with fail
        go_ret
        refine ⟨ret_bool ?_, B1.out⟩
        rw [HR.out]
        exact (decide_eq_true (by rw [HY.out]; simp [List.getD, List.getElem?_eq_getElem hlt])).symm
      · have hne : (x.toList == y.toList) = false := by
          rw [Lib.toList_data, Lib.toList_data]; simp only [beq_eq_false_iff_ne, ne_eq]; intro h; exact hxy (by rw [ba_list' x, ba_list' y, h])
        have NW : Hid (∀ j, j < k + 1 → P.getD j [] ≠ x.data.toList) := fun j hj => by
          by_cases e : j = k
          · rw [e]; intro h; apply hxy; rw [HY.out, h]
          · exact hall.out j (by omega)
        clear hy CC
        go_wp2_with fail
        go_round
        case rel => exact ⟨k + 1, by go_num, by omega, NW.out⟩
        case measure => simp [intOf]; omega
    · have HE : Hid (r = false) := by
        rw [HR.out]
        refine decide_eq_false fun hm => ?_
        obtain ⟨j, hj, e⟩ := List.getElem_of_mem hm
        exact hall.out j (by omega) (by simpa [List.getD, List.getElem?_eq_getElem hj] using e)
      go_wp2_with fail
      go_ret
      exact ⟨ret_bool HE.out.symm, B1.out⟩
end Go.Proofs.YtnhcjgnohnedaaaGreatDoor
