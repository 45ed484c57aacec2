/-
  Contracts of package lex: Tokens.
-/
import Derived.Test.YtmfbnlaohlnljaaGreatDoorLxI
import Derived.OwnWalk
import Derived.WalkSpells
namespace Go.Proofs.YtmfbnlaohlnljaaGreatDoor
open Go.RowKit

def tpCells (t : Lx.Tp) : List Value := [.int .i64 t.kind, .string ⟨t.text.toArray⟩, .int .i64 t.p, .int .i64 t.q, .int .i64 t.line, .int .i64 t.col]
def rowOf (l : List Lx.Tp) : List Value := l.flatMap tpCells
theorem rowOf_snoc (l : List Lx.Tp) (t : Lx.Tp) : rowOf (l ++ [t]) = rowOf l ++ tpCells t := by simp [rowOf]
/-- A slice of tokens of the call's own. -/
def Toks (w : World) (B : Nat) (v : Value) (l : List Lx.Tp) : Prop := w.ownsRow B 43 6 v l.length (rowOf l)
theorem heap_inj {w : World} {g : Nat} {c1 c2 : Array Value} {t1 t2 : TypeId} {f1 f2 : Nat × Nat} (h1 : w.heap[g]? = some (.cells c1 t1 f1)) (h2 : w.heap[g]? = some (.cells c2 t2 f2)) : t1 = t2 := by
  rw [h1] at h2; injection h2 with h2; injection h2
theorem Toks.ne {w : World} {B : Nat} {v : Value} {l : List Lx.Tp} (h : Toks w B v l) {g : Nat} {cs : Array Value} {t : TypeId} {f : Nat × Nat} (hg : w.heap[g]? = some (.cells cs t f)) (ht : t ≠ 43) : v.ownBlock ≠ some g := by
  rcases h.2 with ⟨rfl, -⟩ | ⟨g', cap, cur, rfl, -, hh, -⟩
  · simp [Value.ownBlock]
  · intro e
    have e2 : g' = g := by simpa [Value.ownBlock] using e
    subst e2
    exact ht (heap_inj hg hh)
theorem Toks.grown {w w' : World} {B : Nat} {v : Value} {l : List Lx.Tp} (h : Toks w B v l) {b : Nat} (hg : w.grownBy w' (some b)) (hne : v.ownBlock ≠ some b) : Toks w' B v l := World.ownsRow.kept h hg (Or.inr hne)
theorem Toks.alloc {w : World} {B : Nat} {v : Value} {l : List Lx.Tp} (h : Toks w B v l) (o : Obj) : Toks (w.alloc o) B v l := World.ownsRow.alloc h o
theorem Toks.below {w w' : World} {B : Nat} {v : Value} {l : List Lx.Tp} (h : Toks w B v l) (hb : Below w.heap.size w w') : Toks w' B v l :=
  World.ownsRow.kept h (grown_of hb none) (by cases hv : v.ownBlock <;> simp)
/-- What Tokens returns. -/
def TokensOf (R : Lx.Res) (w : World) (e : Ending) (w' : World) : Prop :=
  Below w.heap.size w w' ∧ match R with
  | .ok l => ∃ v, e = .returned (.tuple #[v, faultV 0 [] 0 0]) ∧ Toks w' w.heap.size v l ∧ l.length ≤ 20000
  | .bad c nm a b => e = .returned (.tuple #[.slice none 0 0, faultV c nm a b])

theorem info_tok : (Tryz.prog.info? 43).map (fun i => (i.zero, i.size, i.bytes)) = some (some (.agg #[.int .i64 0, .string ⟨#[]⟩, .int .i64 0, .int .i64 0, .int .i64 0, .int .i64 0]), 6, 56) := by kernel_rfl

set_option maxRecDepth 100000 in
set_option maxHeartbeats 1000000 in
theorem tokens_long (s : ByteArray) (w : World) (hs : 20000 < s.size) (ws : s.size ≤ maxLen) :
    Calls Tryz.prog 10 #[.string s] w (TokensOf (.bad 3 [] 0 0) w) := by
  unfold maxLen at ws
  go_enter Tryz.func10, Tryz.ntmps10
  go_wp2
  exact bodyPost_ret (v := .tuple #[.slice none 0 0, faultV 3 [] 0 0]) (by simp [results, Tryz.results10, go_sem, faultV]) rfl ⟨(by repeat (first | exact Below.refl _ _ | refine Below.setCell ?_ (by first | (simp; done) | (simp; omega) | omega) _ | refine below_drewN ?_ _ | refine Below.alloc ?_ (by first | (simp; done) | (simp; omega) | omega) _ | refine Below.trans ?_ (hb.mono (by first | (simp; done) | (simp; omega) | omega)))), rfl⟩

/-- What holds at each round of Tokens' loop. -/
structure Round (w : World) (R : Lx.Res) (k : Nat) (v : Value) (wr : World) (acc : List Lx.Tp) (m : List UInt8) (q : Int × Int) : Prop where
  own : Toks wr w.heap.size v acc
  rd : Rd wr (w.heap.size + 1) m q
  eq : (Lx.toks m q).pre acc = R
  ahead : Ahead m
  fin : m.length < k
  len : acc.length + m.length ≤ 20000
  bel : Below w.heap.size w wr
  res : wr.heap[w.heap.size]? = some (.cells #[.int .i64 0, .string ⟨#[]⟩, .int .i64 0, .int .i64 0] 26 (0, 0))

set_option maxRecDepth 100000 in
set_option maxHeartbeats 4000000 in
theorem tokens_any (l : List UInt8) (w : World) (he : EnvL w) (hl : l.length ≤ 20000) :
    Calls Tryz.prog 10 #[.string ⟨l.toArray⟩] w (TokensOf (Lx.toks l (1, 1)) w) := by
  obtain ⟨s, hs⟩ : ∃ s : ByteArray, s = ⟨l.toArray⟩ := ⟨_, rfl⟩
  have hz : s.size = l.length := by rw [hs]; rfl
  obtain ⟨R, hR⟩ : ∃ R, R = Lx.toks l (1, 1) := ⟨_, rfl⟩
  rw [← hs, ← hR]
  have hl2 : s.size ≤ 20000 := by omega
  have HS := Lib.hid hs
  have HE := Lib.hid he
  have HR := Lib.hid hR
  have HL := Lib.hid hl
  clear hs hz hl he hR
  obtain ⟨i0, hi, hz0, hz1, hz2⟩ := info_parts info_tok
  go_enter Tryz.func10, Tryz.ntmps10
  go_wp2_with fail
  have rd0 : Rd ((w.alloc (.cells #[.int .i64 0, .string ⟨#[]⟩, .int .i64 0, .int .i64 0] 26)).alloc (.cells #[.string s, .int .i64 1, .int .i64 1] 48)) (w.heap.size + 1) l (1, 1) :=
    ⟨by rw [HS.out]; exact blk_new2 w _ _, by decide, by decide, by have := HL.out; simp; omega, by have := HL.out; simp; omega⟩
  refine (skip_any _ _ _ _ rd0).mono ?_; rintro e w1 ⟨rfl, m, q, hr, ht, ha, hm, hg⟩
  have Rnd : Hid (Round w R (l.length + 1) (.slice none 0 0) w1 [] m q) :=
    ⟨World.ownsRow_nil _ _ _ _, hr, by rw [Lx.Res.pre_nil, ← ht]; exact HR.out.symm, ha, by omega, by have := HL.out; simp; omega,
      below_grown (((Below.refl _ _).alloc (Nat.le_refl _) _).alloc (by simp) _) hg (by simp; omega) (by omega),
      (hg.block w.heap.size (by simp; omega) (by simp)).trans (blk_alloc (heap_alloc_new w _) _)⟩
  clear hr ht ha hm hg rd0
  go_wp2_with fail
  go_loopg [5] (l.length + 1) (fun k v wr => ∃ acc m q, Hid (Round w R k v wr acc m q))
  case atStart => exact ⟨_, _, _, Rnd.out⟩
  case round =>
    clear Rnd
    obtain ⟨acc, m, q, hrd⟩ := hrel
    have H := hrd
    have c0 := H.out.rd.blk.at_.1
    obtain ⟨rs, hrs⟩ : ∃ rs : ByteArray, rs = ⟨m.toArray⟩ := ⟨_, rfl⟩
    rw [← hrs] at c0
    have HRS := Lib.hid hrs
    obtain ⟨⟨x0, x1, x2, x3⟩, ⟨v0, v1, v2, v3⟩, hlt3⟩ := blk4 H.out.res
    have hsz := H.out.bel.size
    by_cases hm : m = []
    · have e1 : rs.toList.isEmpty = true := by rw [hrs, hm, Lib.toList_data]; rfl
      have hRR : R = .ok acc := by have := H.out.eq; rw [hm, Lx.toks_nil, Lx.Res.pre, List.append_nil] at this; exact this.symm
      have K3 := blk4 (set4 H.out.res (.int .i64 0) (.string ⟨#[]⟩) (.int .i64 0) (.int .i64 0))
      have KK := Lib.hid K3
      have HRR := Lib.hid hRR
      clear hrs hrd hRR K3
      go_wp2_with fail
      obtain ⟨⟨b0, b1, b2, b3⟩, -, -⟩ := KK.out
      have hlen := H.out.len
      rw [HRR.out]
      exact bodyPost_ret (v := .tuple #[u5, faultV 0 [] 0 0]) (by simp [results, Tryz.results10, go_sem, faultV, b0, b1, b2, b3]) rfl
        ⟨below4 H.out.bel (Nat.le_refl _) _ _ _ _, u5, rfl, H.out.own.grown (grown_set (grown_set (grown_set (grown_set (grown_refl _ _) _) _) _) _) (H.out.own.ne H.out.res (by decide)), by omega⟩
    · have e1 : rs.toList.isEmpty = false := by rw [hrs, Lib.toList_data]; simpa using hm
      obtain ⟨c, tl, hcm, hcb, hc37⟩ : ∃ c t, m = c :: t ∧ Lx.blank c = false ∧ c ≠ 37 := by
        rcases H.out.ahead with h | h
        · exact absurd h hm
        · exact h
      have hml := H.out.len
      have hfst := Lx.first_n m hm
      have HF : Hid (∀ W, EnvL W → Calls Tryz.prog 55 #[.string ⟨m.toArray⟩] W (OneOf (Lx.first m) W)) := fun W hW => first_any m W hW (by omega) hm
      have HEr := Lib.hid (HE.out.below H.out.bel)
      by_cases hbad : (Lx.first m).e = 0
      · have htk := Lx.toks_tok c tl q hcb hc37 (by rw [← hcm]; exact hbad)
        rw [← hcm] at htk
        have hline := Lx.first_line m hbad
        obtain ⟨o, ho⟩ : ∃ o, o = Lx.first m := ⟨_, rfl⟩
        rw [← ho] at hfst HF hbad htk hline
        obtain ⟨t, n, e⟩ := o
        simp only at hbad hfst htk hline
        subst hbad
        have hadv := Lx.adv_plain (m.take n) q hline
        have hnl : (m.take n).length = n := by rw [List.length_take]; omega
        rw [hnl] at hadv
        have heq : (Lx.toks (m.drop n) (Lx.adv (m.take n) q)).pre (acc ++ [⟨t, q.1, q.2⟩]) = R := by
          rw [hadv, ← H.out.eq, htk, Lx.Res.pre_cons]
        have HEQ := Lib.hid heq
        have HN := Lib.hid hfst
        clear heq hrs hrd htk hline ho hadv hnl hcm hcb hc37 hml hfst
        obtain ⟨ln, cl⟩ := q
        go_wp2_with fail
        refine (next_ok t n (w.heap.size + 1) m ln cl wr HEr.out H.out.rd (by have := H.out.len; omega) HN.out.2 HF.out).mono ?_; rintro e w2 ⟨rfl, hr2, hg2⟩
        simp only [tokV, faultV]
        have own2 := H.out.own.grown hg2 (H.out.own.ne H.out.rd.blk (by decide))
        have bel2 := below_grown H.out.bel hg2 hsz (by omega)
        have res2 := (hg2.block w.heap.size hlt3 (by simp)).trans H.out.res
        have O2 := Lib.hid own2
        have B2 := Lib.hid bel2
        have R2 := Lib.hid res2
        have RD2 := Lib.hid hr2
        have hsz2 := bel2.size
        have hrl := hr2.blk.lt
        have OWN : Hid (World.ownsRow (((w2.alloc (.cells #[.int .i64 t.kind, .string ⟨t.text.toArray⟩, .int .i64 t.p, .int .i64 t.q, .int .i64 ln, .int .i64 cl] 43)).alloc (.cells #[.int .i64 0, .string ⟨#[]⟩, .int .i64 0, .int .i64 0] 26)).alloc (.cells #[.int .i64 t.kind, .string ⟨t.text.toArray⟩, .int .i64 t.p, .int .i64 t.q, .int .i64 ln, .int .i64 cl] 43)) w.heap.size 43 6 u5 acc.length (rowOf acc)) := ((own2.alloc _).alloc _).alloc _
        clear hr2 hg2 own2 bel2 res2 x0 x1 x2 x3 v0 v1 v2 v3 c0 hsz
        go_wp2_with (at_builtin; refine wpList_append_own _ rfl _ _ 23 rfl w.heap.size 43 i0 (.agg #[.int .i64 0, .string ⟨#[]⟩, .int .i64 0, .int .i64 0, .int .i64 0, .int .i64 0]) 6 56 Tryz.underlying23 hi hz0 hz1 hz2 rfl (by decide) _ _ _ rfl OWN.out ⟨w2.heap.size + 1 + 1, 0, none⟩ 1 1 [.int .i64 t.kind, .string ⟨t.text.toArray⟩, .int .i64 t.p, .int .i64 t.q, .int .i64 ln, .int .i64 cl] rfl rfl ?c1 ?c2 ?c3 ?c4 ?c5 ?_)
        case c1 =>
          intro j u hj
          have hnew := heap_alloc_new ((w2.alloc (.cells #[.int .i64 t.kind, .string ⟨t.text.toArray⟩, .int .i64 t.p, .int .i64 t.q, .int .i64 ln, .int .i64 cl] 43)).alloc (.cells #[.int .i64 0, .string ⟨#[]⟩, .int .i64 0, .int .i64 0] 26)) (.cells #[.int .i64 t.kind, .string ⟨t.text.toArray⟩, .int .i64 t.p, .int .i64 t.q, .int .i64 ln, .int .i64 cl] 43)
          have hadd : (⟨w2.heap.size + 1 + 1, 0, none⟩ : Addr).add j = ⟨w2.heap.size + 1 + 1, j, none⟩ := by unfold Addr.add; split <;> simp_all
          rw [hadd]
          have := cell_of_row _ _ j _ _ _ hnew
          simp only [World.size_alloc] at this
          rw [this]
          simpa using hj
        case c2 => intro u hu; simp at hu; rcases hu with rfl | rfl | rfl | rfl | rfl | rfl <;> rfl
        case c3 => have := H.out.len; unfold maxLen; omega
        case c4 => have := H.out.len; omega
        case c5 => simp; omega
        · intro v' w3 hown' hgrow _
          have hn1 := O2.out.ne RD2.out.blk (by decide)
          have hn2 := O2.out.ne R2.out (by decide)
          have rd3 : Rd w3 (w.heap.size + 1) (m.drop n) (Lx.adv (m.take n) (ln, cl)) :=
            ⟨(hgrow.block _ (by simp; omega) (fun e => hn1 e.symm)).trans (blk_alloc (blk_alloc (blk_alloc RD2.out.blk _) _) _), RD2.out.b1, RD2.out.b2, RD2.out.b3, RD2.out.b4⟩
          have res3 := (hgrow.block w.heap.size (by simp; omega) (fun e => hn2 e.symm)).trans (blk_alloc (blk_alloc (blk_alloc R2.out _) _) _)
          have bel3 := (((B2.out.alloc B2.out.size _).alloc (by simp; omega) _).alloc (by simp; omega) _).grown hgrow (by simp; omega) (fun k hk => (O2.out.lt k hk).1)
          have own3 : Toks w3 w.heap.size v' (acc ++ [⟨t, ln, cl⟩]) := by
            unfold Toks
            rw [rowOf_snoc, List.length_append]
            exact hown'
          have O3 := Lib.hid own3
          have B3 := Lib.hid bel3
          have R3 := Lib.hid res3
          have RD3 := Lib.hid rd3
          clear hown' hgrow hn1 hn2 rd3 res3 bel3 own3 OWN
          go_wp2_with fail
          refine (skip_any _ _ _ _ RD3.out).mono ?_; rintro e w4 ⟨rfl, m', q', hr', ht', ha', hm', hg'⟩
          have RND : Hid (Round w R m.length v' w4 (acc ++ [⟨t, ln, cl⟩]) m' q') := by
            have h1 := H.out.len
            have h2 := HN.out
            rw [List.length_drop] at hm'
            refine ⟨O3.out.grown hg' (O3.out.ne RD3.out.blk (by decide)), hr', by rw [← ht']; exact HEQ.out, ha', by omega, by rw [List.length_append]; simp; omega, below_grown B3.out hg' B3.out.size (by omega), (hg'.block w.heap.size (by have := RD3.out.blk.lt; omega) (by simp)).trans R3.out⟩
          have HFIN : Hid (m.length < gk) := H.out.fin
          clear hr' ht' ha' hm' hg'
          go_wp2_with fail
          go_roundg (m.length)
          case measure => exact HFIN.out
          case rel => exact ⟨_, _, _, RND.out⟩
      · have htk := Lx.toks_bad c tl q hcb hc37 (by rw [← hcm]; exact hbad)
        rw [← hcm] at htk
        obtain ⟨o, ho⟩ : ∃ o, o = Lx.first m := ⟨_, rfl⟩
        rw [← ho] at hfst HF hbad htk
        have hbad2 : (o.e != 0) = true := by simpa using hbad
        have hbad3 : (o.e == 0) = false := by simpa using hbad
        have hRR : R = .bad o.e (m.take (min o.n 40)) q.1 q.2 := by rw [← H.out.eq, htk]; rfl
        have HRR := Lib.hid hRR
        have HN := Lib.hid hfst
        have HBD := Lib.hid hbad
        clear hrs hrd htk ho hcm hcb hc37 hml hfst hbad hRR
        go_wp2_with fail
        refine (next_bad o (w.heap.size + 1) m q.1 q.2 wr HEr.out H.out.rd.blk (by have := H.out.len; omega) HN.out.2 HF.out HBD.out).mono ?_; rintro e w2 ⟨rfl, hb⟩
        simp only [tokV, faultV]
        have res2 := (hb.block w.heap.size hlt3).trans H.out.res
        have bel2 := H.out.bel.trans (hb.mono hsz)
        have R2 := Lib.hid res2
        have B2 := Lib.hid bel2
        have hsz2 := bel2.size
        obtain ⟨⟨z0, z1, z2, z3⟩, ⟨y0, y1, y2, y3⟩, hlt4⟩ := blk4 res2
        clear hb res2 bel2 x0 x1 x2 x3 v0 v1 v2 v3 c0 hsz
        go_wp2_with fail
        go_region
        go_wp2_with fail
        obtain ⟨⟨b0, b1, b2, b3⟩, -, -⟩ := blk4 (blk_alloc (blk_alloc (set4 R2.out (.int .i64 o.e) (.string ⟨(m.take (min o.n 40)).toArray⟩) (.int .i64 q.1) (.int .i64 q.2)) (.cells #[.int .i64 0, .string ⟨#[]⟩, .int .i64 0, .int .i64 0, .int .i64 0, .int .i64 0] 43)) (.cells #[.int .i64 o.e, .string ⟨(m.take (min o.n 40)).toArray⟩, .int .i64 q.1, .int .i64 q.2] 26))
        rw [HRR.out]
        exact bodyPost_ret (v := .tuple #[.slice none 0 0, faultV o.e (m.take (min o.n 40)) q.1 q.2]) (by simp [results, Tryz.results10, go_sem, faultV, b0, b1, b2, b3]) rfl
          ⟨(((below4 B2.out (Nat.le_refl _) _ _ _ _).alloc (by simpa [World.setCell] using B2.out.size) _).alloc (by have := B2.out.size; simp [World.setCell]; omega) _).drew, rfl⟩
end Go.Proofs.YtmfbnlaohlnljaaGreatDoor
