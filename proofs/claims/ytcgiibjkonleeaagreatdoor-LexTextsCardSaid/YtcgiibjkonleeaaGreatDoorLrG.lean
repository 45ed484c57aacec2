/-
  Contracts of the reference of layer 3: tokens as they are written; Text.
-/
import Derived.Test.YtcgiibjkonleeaaGreatDoorLrD
import Derived.Test.YtcgiibjkonleeaaGreatDoorLxBa
import Derived.Test.YtcgiibjkonleeaaGreatDoorLxY
import Derived.Lib.AppendStr
import Derived.Lib.BufferRead
import Derived.Laws.IdiomStrings
namespace Go.Proofs.YtcgiibjkonleeaaGreatDoor
open Go.RowKit Go.Lib

set_option maxHeartbeats 4000000 in
theorem rspelled_any (k p q a c : Int) (t : ByteArray) (w : World) (h1 : -9223372036854775808 ≤ p) (h2 : p ≤ 9223372036854775807) (h3 : -9223372036854775808 ≤ q) (h4 : q ≤ 9223372036854775807) (h : Lx.vldT k t.data.toList p q = true) :
    Calls Tryz.prog 28 #[.agg #[.int .i64 k, .string t, .int .i64 p, .int .i64 q, .int .i64 a, .int .i64 c]] w fun e w' => e = .returned (.string ⟨(Lx.spell k t.data.toList p q).toArray⟩) ∧ Below w.heap.size w w' := by
  obtain ⟨s1, s2, s3⟩ := spell_short _ _ _ _ h
  have hsz : t.data.toList.length = t.size := Lib.size_eq t
  rw [hsz] at s1
  obtain ⟨S, hS⟩ : ∃ S : ByteArray, S = ⟨(Lx.spell k t.data.toList p q).toArray⟩ := ⟨_, rfl⟩
  rw [← hS]
  unfold Lx.spell at hS
  by_cases k2 : k = 2
  · have hd := s3 k2
    subst k2
    rw [if_pos rfl] at hS
    have HA := Lib.hid (fun W => rdig_any p q W h1 h2 h3 h4)
    rw [hd, if_pos rfl] at HA
    unfold digV at HA
    rw [← hS] at HA
    clear hS s1 s2 s3 hd h
    go_enter Tryz.func28, Tryz.ntmps28
    go_wp2_with fail
    refine (HA.out _).mono ?_; rintro e w' ⟨rfl, hb⟩
    have BB := Lib.hid (((Below.refl w.heap.size w).alloc (Nat.le_refl _) (.cells #[.int .i64 2, .string t, .int .i64 p, .int .i64 q, .int .i64 a, .int .i64 c] 38)).trans (hb.mono (by simp)))
    clear hb
    go_wp2_with fail
    go_ret
    exact ⟨rfl, BB.out⟩
  · rw [if_neg k2] at hS
    have f2 : (k == 2) = false := by simpa using k2
    by_cases k3 : k = 3
    · subst k3
      rw [if_pos rfl] at hS
      have HS : Hid ((⟨#[34]⟩ : ByteArray) ++ t ++ ⟨#[34]⟩ = S) := by
        show _ = _
        rw [hS]; apply ByteArray.ext; simp
      have z1 : ((⟨#[34]⟩ : ByteArray) ++ t).size ≤ 200 := by rw [ByteArray.size_append]; show 1 + t.size ≤ 200; omega
      clear hS s2 s3 h
      go_enter Tryz.func28, Tryz.ntmps28
      go_wp2_with fail
      go_ret
      exact ⟨by rw [← HS.out]; rfl, (Below.refl _ _).alloc (Nat.le_refl _) _⟩
    · have f3 : (k == 3) = false := by simpa using k3
      rw [if_neg k3, ← ba_list] at hS
      subst hS
      clear s2 s3 h
      go_enter Tryz.func28, Tryz.ntmps28
      go_wp2_with fail
      go_ret
      exact ⟨rfl, (Below.refl _ _).alloc (Nat.le_refl _) _⟩

def bytL (l : List UInt8) : List Value := l.map fun b => Value.int .u8 b.toNat
/-- A row of bytes of the call's own. -/
def BytOwn (w : World) (B : Nat) (v : Value) (l : List UInt8) : Prop := w.ownsRow B 5 1 v l.length (bytL l)
theorem BytOwn.below {w w' : World} {B : Nat} {v : Value} {l : List UInt8} (h : BytOwn w B v l) (hb : Below w.heap.size w w') : BytOwn w' B v l :=
  World.ownsRow.kept h (grown_of hb none) (by cases hv : v.ownBlock <;> simp)
theorem BytOwn.ne {w : World} {B : Nat} {v : Value} {l : List UInt8} (h : BytOwn w B v l) {g : Nat} {cs : Array Value} {t : TypeId} {f : Nat × Nat} (hg : w.heap[g]? = some (.cells cs t f)) (ht : t ≠ 5) : v.ownBlock ≠ some g := by
  rcases h.2 with ⟨rfl, -⟩ | ⟨g', cap, cur, rfl, -, hh, -⟩
  · simp [Value.ownBlock]
  · intro e
    have e2 : g' = g := by simpa [Value.ownBlock] using e
    subst e2
    exact ht (heap_inj hg hh)
theorem info_u8 : (Tryz.prog.info? 5).map (fun i => (i.zero, i.size, i.bytes)) = some (some (.int .u8 0), 1, 1) := by kernel_rfl
theorem BytOwn.conv {w : World} {B : Nat} {v : Value} {l : List UInt8} (h : BytOwn w B v l) : (convert 49 9 v).run Tryz.prog w = .ok (.string ⟨l.toArray⟩) w := by
  rcases h.2 with ⟨rfl, h0⟩ | ⟨g, cap, cur, rfl, hB, hg, hn, hc, hs, ht⟩
  · obtain rfl := List.eq_nil_of_length_eq_zero h0
    exact run_convert_nil_bytes w _ _ 5 0 Tryz.underlying49 Tryz.underlying5 Tryz.underlying9
  · refine run_convert_bytes_back w _ _ 5 _ _ l Tryz.underlying49 Tryz.underlying5 Tryz.underlying9 fun j hj => ?_
    exact World.ownsRow.cells h (g := g) rfl j _ (by simp [bytL, List.getElem?_eq_getElem hj])
set_option maxRecDepth 100000 in
theorem wpList_append_b1 {w : World} {ops : Array Oper} {rest : List Oper} {o : Oper} {a : Act} {Q : Exit → Act → World → Prop} (hgd : o.guard = none) (s x : Operand)
    (ho : o.op = .call { callee := .builtin .append, args := #[s, x], argTypes := #[49, 49] }) (base : Nat) (v : Value) (l : List UInt8) (hs : a.eval s = v) (hown : BytOwn w base v l)
    (g : Nat) (b : UInt8) (hx : a.eval x = .slice (some ⟨g, 0, none⟩) 1 1) (hg : w.heap[g]? = some (.cells #[.int .u8 b.toNat] 5 (0, 0))) (hl : l.length ≤ 1000000) (hbase : base ≤ w.heap.size)
    (h : ∀ v' w', BytOwn w' base v' (l ++ [b]) → w.grownBy w' v.ownBlock → wpList Tryz.prog ops Q rest (a.put o.dst v') w') : wpList Tryz.prog ops Q (o :: rest) a w := by
  obtain ⟨i0, hi, hz0, hz1, hz2⟩ := info_parts info_u8
  refine wpList_append_own w hgd s x _ ho base 5 i0 (.int .u8 0) 1 1 Tryz.underlying49 hi hz0 hz1 hz2 rfl (by decide) v l.length (bytL l) hs hown ⟨g, 0, none⟩ 1 1 [.int .u8 b.toNat] hx rfl ?_ (by intro u hu; simp at hu; subst hu; rfl) (by unfold maxLen; omega) (by omega) hbase ?_
  · intro j u hu
    rw [addr_row', cell_of_row _ _ j _ _ _ hg]
    simpa using hu
  · intro v' w' h1 h2 _
    refine h v' w' ?_ h2
    unfold BytOwn bytL
    rw [List.length_append, List.map_append]
    exact h1
set_option maxRecDepth 100000 in
theorem wpList_append_bs {w : World} {ops : Array Oper} {rest : List Oper} {o : Oper} {a : Act} {Q : Exit → Act → World → Prop} (hgd : o.guard = none) (s x : Operand)
    (ho : o.op = .call { callee := .builtin .append, args := #[s, x], argTypes := #[49, 9] }) (base : Nat) (v : Value) (l : List UInt8) (hs : a.eval s = v) (hown : BytOwn w base v l)
    (S : ByteArray) (hx : a.eval x = .string S) (hl : l.length + S.size ≤ 1000000) (hbase : base ≤ w.heap.size)
    (h : ∀ v' w', BytOwn w' base v' (l ++ S.data.toList) → w.grownBy w' v.ownBlock → wpList Tryz.prog ops Q rest (a.put o.dst v') w') : wpList Tryz.prog ops Q (o :: rest) a w := by
  obtain ⟨i0, hi, hz0, hz1, hz2⟩ := info_parts info_u8
  refine wpList_append_own_string w hgd s x _ _ ho base 5 i0 Tryz.underlying49 Tryz.underlying9 hi hz0 hz1 hz2 v l.length (bytL l) hs hown S hx (by unfold maxLen; omega) (by omega) hbase ?_
  intro v' w' h1 h2 _
  refine h v' w' ?_ h2
  have hsz : S.data.toList.length = S.size := Lib.size_eq S
  unfold BytOwn bytL
  rw [List.length_append, List.map_append, hsz]
  exact h1
/-- What holds at each round of Text's loop. -/
structure TRnd (w : World) (l : List Tv) (k : Nat) (v : Value) (wr : World) : Prop where
  own : BytOwn wr w.heap.size v (Lx.jn ((l.map Tv.sp).take k))
  bel : Below w.heap.size w wr
  len : (Lx.jn ((l.map Tv.sp).take k)).length ≤ 201 * k
  ok : ∀ (i : Nat) (x : Tv), i < k → l[i]? = some x → x.ok = true
set_option maxRecDepth 100000 in
set_option maxHeartbeats 16000000 in
theorem rtextT_any (A : Option Addr) (c : Nat) (l : List Tv) (w : World) (h1 : TokSl w w.heap.size A l) (hl : l.length ≤ 400) (hf : ∀ x ∈ l, x.fit) :
    Calls Tryz.prog 12 #[.slice A l.length c] w fun e w' => e = .returned (.tuple #[.string ⟨(textS l).toArray⟩, .int .i64 (textE l)]) ∧ Below w.heap.size w w' := by
  have H1 := Lib.hid h1
  have HF := Lib.hid hf
  obtain ⟨TS, hTS⟩ : ∃ TS : ByteArray, TS = ⟨(textS l).toArray⟩ := ⟨_, rfl⟩
  obtain ⟨TE, hTE⟩ : ∃ TE, TE = textE l := ⟨_, rfl⟩
  rw [← hTS, ← hTE]
  have HTS := Lib.hid hTS
  have HTE := Lib.hid hTE
  generalize hL : l.length = n at *
  have HL := Lib.hid hL
  clear h1 hf hL hTS hTE
  go_enter Tryz.func12, Tryz.ntmps12
  go_wp2_with fail
  go_loopw [4, 9] (fun vb v wr => ∃ k : Nat, v = .int .i64 k ∧ k ≤ n ∧ Hid (TRnd w l k vb wr)) (fun _ v _ => n - (intOf v).toNat)
  case atStart => exact ⟨0, rfl, by omega, ⟨World.ownsRow_nil _ _ _ _, Below.refl _ _, by simp [Lx.jn], fun i x h => by omega⟩⟩
  case round =>
    obtain ⟨k, rfl, hk, hrd⟩ := hrel
    have H := hrd
    have hB := H.out.bel
    clear hrd
    by_cases hlt : k < n
    · obtain ⟨ad1, rfl, hb1, at1⟩ := H1.out (by rw [HL.out]; omega); have hx : l[k]? = some (l[k]'(by rw [HL.out]; exact hlt)) := List.getElem?_eq_getElem _; have hmem : l[k]'(by rw [HL.out]; exact hlt) ∈ l := List.getElem_mem _; generalize l[k]'(by rw [HL.out]; exact hlt) = x at hx hmem; have tx := (at1 k x hx).below hB (by rw [block_of_add]; exact hb1); have g1 := block_of_add ad1 (k * 6); obtain ⟨⟨xb, xo, xs⟩, hE1⟩ : ∃ E, ad1.add (k * 6) = E := ⟨_, rfl⟩; rw [hE1] at tx g1; obtain ⟨x0, x1, x2, x3, x4, x5⟩ := tx; simp only at x0 x1 x2 x3 x4 x5 g1; have hsz := hB.size; have BB := Lib.hid hB; have hxb : xb < wr.heap.size := (by omega); have hk0 : (0 : Int) ≤ (k : Int) := (by omega); have hk1 : (k : Int) < (n : Int) := (by omega)
      have HX := Lib.hid hx
      have HMEM := Lib.hid hmem
      have fx := HF.out x hmem
      have HR := Lib.hid (fun W => rvalidT_any x.k x.p x.q x.a x.c x.t W fx.p1 fx.p2 fx.q1 fx.q2 fx.ts)
      have HSP := Lib.hid (fun W => rspelled_any x.k x.p x.q x.a x.c x.t W fx.p1 fx.p2 fx.q1 fx.q2)
      clear hx hmem at1 g1 hb1 hB fx
      cases hok : x.ok
      · have HBAD : Hid (TS = ⟨#[]⟩ ∧ TE = 2) := by
          have h5 : ¬ (l.all Tv.ok = true) := fun h => by have := List.all_eq_true.1 h x HMEM.out; rw [hok] at this; cases this
          exact ⟨by rw [HTS.out, textS, if_neg h5], by rw [HTE.out, textE, if_neg h5]⟩
        unfold Tv.ok at hok
        rw [hok] at HR
        clear hok HSP
        go_wp2_with fail
        refine (HR.out _).mono ?_; rintro e w1 ⟨rfl, hb⟩
        have B1 := Lib.hid ((BB.out.alloc hsz (.cells #[.int .i64 x.k, .string x.t, .int .i64 x.p, .int .i64 x.q, .int .i64 x.a, .int .i64 x.c] 38)).trans (hb.mono (by simp; omega)))
        clear hb x0 x1 x2 x3 x4 x5
        go_wp2_with fail
        go_ret2
        exact ⟨by rw [HBAD.out.1, HBAD.out.2]; rfl, B1.out⟩
      · have HOK := Lib.hid hok
        unfold Tv.ok at hok
        have hsp := (spell_short _ _ _ _ hok).2.1
        rw [hok] at HR
        have HS2 := Lib.hid (fun W => HSP.out W hok)
        obtain ⟨S, hS⟩ : ∃ S : ByteArray, S = ⟨x.sp.toArray⟩ := ⟨_, rfl⟩
        have HS : Hid (∀ W, Calls Tryz.prog 28 #[.agg #[.int .i64 x.k, .string x.t, .int .i64 x.p, .int .i64 x.q, .int .i64 x.a, .int .i64 x.c]] W fun e w' => e = .returned (.string S) ∧ Below W.heap.size W w') := fun W => by rw [hS]; exact HS2.out W
        have hSl : S.size ≤ 200 := by rw [hS]; exact hsp
        have HSS := Lib.hid hS
        clear hok HSP HS2 hsp hS
        go_wp2_with fail
        refine (HR.out _).mono ?_; rintro e w1 ⟨rfl, hb⟩
        have hz1 := hb.size
        simp at hz1
        have B1 := Lib.hid ((BB.out.alloc hsz (.cells #[.int .i64 x.k, .string x.t, .int .i64 x.p, .int .i64 x.q, .int .i64 x.a, .int .i64 x.c] 38)).trans (hb.mono (by simp; omega)))
        have K1 := Lib.hid ((hb.block wr.heap.size (by simp)).trans (heap_alloc_new wr (.cells #[.int .i64 x.k, .string x.t, .int .i64 x.p, .int .i64 x.q, .int .i64 x.a, .int .i64 x.c] 38)))
        have O1 := Lib.hid ((H.out.own.below (((Below.refl _ _).alloc (Nat.le_refl _) (.cells #[.int .i64 x.k, .string x.t, .int .i64 x.p, .int .i64 x.q, .int .i64 x.a, .int .i64 x.c] 38)).trans (hb.mono (by simp)))))
        clear hb x0 x1 x2 x3 x4 x5
        by_cases k0 : k = 0
        · have O2 : Hid (BytOwn w1 w.heap.size u4 []) := by
            have := O1.out
            rw [k0, List.take_zero] at this
            exact this
          obtain ⟨⟨z0, z1, z2, z3, z4, z5⟩, -, zl⟩ := blk6 K1.out
          go_wp2_with fail
          refine (HS.out _).mono ?_; rintro e w5 ⟨rfl, hb⟩
          have B5 := Lib.hid (B1.out.trans (hb.mono B1.out.size))
          have O5 := O2.out.below hb
          have hz5 := B5.out.size
          clear hb z0 z1 z2 z3 z4 z5 zl
          go_wp2_with (at_builtin; refine wpList_append_bs rfl _ _ rfl w.heap.size _ _ rfl O5 S rfl ?s1 ?s2 ?_)
          case s1 => (have := H.out.len; simp; omega)
          case s2 => exact hz5
          intro v6 w6 o6 g6
          have B6 := B5.out.grown g6 hz5 (fun k hk => (O5.lt k hk).1)
          have NW : Hid (TRnd w l (k + 1) v6 w6) := by
            have e1 : Lx.jn ((l.map Tv.sp).take (k + 1)) = [] ++ S.data.toList := by
              rw [jn_take _ k x.sp (by rw [List.getElem?_map, HX.out]; rfl), HSS.out]
              rw [if_pos k0, List.nil_append]
            refine ⟨by rw [e1]; first | exact o6 | simpa using o6, B6, ?_, fun i u hi hu => ?_⟩
            · have hSD : S.data.toList.length = S.size := Lib.size_eq S
              have := H.out.len
              rw [e1, List.length_append, hSD]; simp; omega
            · by_cases e : i = k
              · subst e; rw [HX.out] at hu; injection hu with hu; subst hu; exact HOK.out
              · exact H.out.ok i u (by omega) hu
          clear o6 g6 B6 O5
          go_wp2_with fail
          go_roundw
          case rel => exact ⟨k + 1, by go_num, by omega, NW.out⟩
          case measure => simp [intOf]; omega
        · have hk2 : (0 : Int) < (k : Int) := by omega
          have OA := (O1.out.below ((Below.refl _ _).alloc (Nat.le_refl _) (.cells #[.int .u8 32] 5)))
          have hz2 := B1.out.size
          go_wp2_with (at_builtin; refine wpList_append_b1 rfl _ _ rfl w.heap.size _ _ rfl OA w1.heap.size 32 rfl (heap_alloc_new w1 _) ?a1 ?a2 ?_)
          case a1 => have := H.out.len; omega
          case a2 => simp; omega
          intro v3 w3 o3 g3
          have B3 := Lib.hid ((B1.out.alloc hz2 (.cells #[.int .u8 32] 5)).grown g3 (by simp; omega) (fun k hk => (OA.lt k hk).1))
          have K3 := Lib.hid ((g3.block wr.heap.size (by simp; omega) (fun e => OA.ne (blk_alloc K1.out _) (by decide) e.symm)).trans (blk_alloc K1.out (.cells #[.int .u8 32] 5)))
          have O3 := Lib.hid o3
          clear o3 g3 OA
          obtain ⟨⟨z0, z1, z2, z3, z4, z5⟩, -, zl⟩ := blk6 K3.out
          go_wp2_with fail
          refine (HS.out _).mono ?_; rintro e w5 ⟨rfl, hb⟩
          have B5 := Lib.hid (B3.out.trans (hb.mono B3.out.size))
          have O5 := O3.out.below hb
          have hz5 := B5.out.size
          clear hb z0 z1 z2 z3 z4 z5 zl
          go_wp2_with (at_builtin; refine wpList_append_bs rfl _ _ rfl w.heap.size _ _ rfl O5 S rfl ?s1 ?s2 ?_)
          case s1 => (have := H.out.len; simp; omega)
          case s2 => exact hz5
          intro v6 w6 o6 g6
          have B6 := B5.out.grown g6 hz5 (fun k hk => (O5.lt k hk).1)
          have NW : Hid (TRnd w l (k + 1) v6 w6) := by
            have e1 : Lx.jn ((l.map Tv.sp).take (k + 1)) = (Lx.jn ((l.map Tv.sp).take k) ++ [32]) ++ S.data.toList := by
              rw [jn_take _ k x.sp (by rw [List.getElem?_map, HX.out]; rfl), HSS.out]
              rw [if_neg k0]; simp
            refine ⟨by rw [e1]; first | exact o6 | simpa using o6, B6, ?_, fun i u hi hu => ?_⟩
            · have hSD : S.data.toList.length = S.size := Lib.size_eq S
              have := H.out.len
              rw [e1, List.length_append, hSD]; simp; omega
            · by_cases e : i = k
              · subst e; rw [HX.out] at hu; injection hu with hu; subst hu; exact HOK.out
              · exact H.out.ok i u (by omega) hu
          clear o6 g6 B6 O5
          go_wp2_with fail
          go_roundw
          case rel => exact ⟨k + 1, by go_num, by omega, NW.out⟩
          case measure => simp [intOf]; omega
    · have hkn : k = n := by omega
      have hall : ∀ x ∈ l, x.ok = true := fun x hx => by
        obtain ⟨i, hi, rfl⟩ := List.getElem_of_mem hx
        exact H.out.ok i _ (by have := HL.out; omega) (List.getElem?_eq_getElem hi)
      have hjn : (l.map Tv.sp).take k = l.map Tv.sp := List.take_of_length_le (by rw [List.length_map, HL.out]; omega)
      have OW := H.out.own
      have hlen := H.out.len
      rw [hjn] at OW hlen
      have hTE2 : Hid (TE = if 20000 < (Lx.jn (l.map Tv.sp)).length then 3 else 0) := by rw [HTE.out, textE, if_pos (List.all_eq_true.2 hall)]; rfl
      have hTS2 : Hid (TS = ⟨(if 20000 < (Lx.jn (l.map Tv.sp)).length then [] else Lx.jn (l.map Tv.sp)).toArray⟩) := by rw [HTS.out, textS, if_pos (List.all_eq_true.2 hall)]; rfl
      have hcv := OW.conv
      obtain ⟨A4, c4, hv4⟩ : ∃ A c, u4 = .slice A (Lx.jn (l.map Tv.sp)).length c := by
        rcases OW.2 with ⟨rfl, h0⟩ | ⟨g, cap, cur, rfl, -⟩
        · exact ⟨none, 0, by rw [h0]⟩
        · exact ⟨_, _, rfl⟩
      have BB := Lib.hid hB
      generalize Lx.jn (l.map Tv.sp) = J at hTE2 hTS2 hcv hv4 hlen
      subst hv4
      clear OW hB hall hjn
      by_cases h20 : 20000 < J.length
      · go_wp2_with fail
        go_ret2
        exact ⟨by rw [hTS2.out, hTE2.out, if_pos h20, if_pos h20]; rfl, BB.out⟩
      · go_wp2_with fail
        go_ret2
        exact ⟨by rw [hTS2.out, hTE2.out, if_neg h20, if_neg h20]; rfl, BB.out⟩
end Go.Proofs.YtcgiibjkonleeaaGreatDoor
