/-
  Contracts of the reference of layer 3: the tokens of a string.
-/
import Derived.Test.YtnhcjgnohnedaaaGreatDoorLrS
import Derived.Test.YtnhcjgnohnedaaaGreatDoorLxN
namespace Go.Proofs.YtnhcjgnohnedaaaGreatDoor
open Go.RowKit

set_option maxRecDepth 100000 in
set_option maxHeartbeats 1000000 in
theorem rtokens_long (s : ByteArray) (w : World) (hs : 20000 < s.size) (ws : s.size ≤ maxLen) :
    Calls Tryz.prog 32 #[.string s] w (TokensOf (.bad 3 [] 0 0) w) := by
  unfold maxLen at ws
  go_enter Tryz.func32, Tryz.ntmps32
  go_wp2
  exact bodyPost_ret (v := .tuple #[.slice none 0 0, faultV 3 [] 0 0]) (by simp [results, Tryz.results32, go_sem, faultV]) rfl ⟨(by repeat (first | exact Below.refl _ _ | refine Below.setCell ?_ (by first | (simp; done) | (simp; omega) | omega) _ | refine below_drewN ?_ _ | refine Below.alloc ?_ (by first | (simp; done) | (simp; omega) | omega) _ | refine Below.trans ?_ (hb.mono (by first | (simp; done) | (simp; omega) | omega)))), rfl⟩

/-- What holds at each round of the reference's loop. -/
structure RRound (w : World) (R : Lx.Res) (l : List UInt8) (k : Nat) (v : Value) (wr : World) (acc : List Lx.Tp) (q : Int × Int) : Prop where
  own : Toks wr w.heap.size v acc
  eq : (Lx.toks (l.drop k) q).pre acc = R
  len : acc.length ≤ k
  bel : Below w.heap.size w wr
  res : wr.heap[w.heap.size]? = some (.cells #[.int .i64 0, .string ⟨#[]⟩, .int .i64 0, .int .i64 0] 27 (0, 0))
theorem drop_cons_at (l : List UInt8) (k : Nat) (c : UInt8) (hk : k < l.length) (hc : l.getD k 0 = c) : l.drop k = c :: l.drop (k + 1) := by
  rw [List.drop_eq_getElem_cons hk]
  congr 1
  simpa [List.getD, List.getElem?_eq_getElem hk] using hc
theorem adv1 (c : UInt8) (q : Int × Int) (h : c ≠ 10) : Lx.advC c q = (q.1, q.2 + 1) := by rw [Lx.advC, if_neg h]
theorem u8_of {c d : UInt8} (h : c.toNat = d.toNat) : c = d := UInt8.toNat_inj.1 h
theorem RRound.blank {w : World} {R : Lx.Res} {l : List UInt8} {k : Nat} {v : Value} {wr : World} {acc : List Lx.Tp} {a b : Int} (H : RRound w R l k v wr acc (a, b)) (hk : k < l.length) (hb : Lx.blank (l.getD k 0) = true) (h10 : l.getD k 0 ≠ 10) :
    RRound w R l (k + 1) v wr acc (a, b + 1) :=
  ⟨H.own, by rw [← H.eq, drop_cons_at l k _ hk rfl, Lx.toks_blank _ _ _ hb, adv1 _ _ h10], by have := H.len; omega, H.bel, H.res⟩
theorem RRound.line {w : World} {R : Lx.Res} {l : List UInt8} {k : Nat} {v : Value} {wr : World} {acc : List Lx.Tp} {a b : Int} (H : RRound w R l k v wr acc (a, b)) (hk : k < l.length) (h10 : l.getD k 0 = 10) :
    RRound w R l (k + 1) v wr acc (a + 1, 1) :=
  ⟨H.own, by rw [← H.eq, drop_cons_at l k _ hk h10, Lx.toks_blank _ _ _ (by decide)]; rfl, by have := H.len; omega, H.bel, H.res⟩
theorem RRound.comment {w : World} {R : Lx.Res} {l : List UInt8} {k : Nat} {v : Value} {wr : World} {acc : List Lx.Tp} {a b : Int} (H : RRound w R l k v wr acc (a, b)) (hk : k < l.length) (h37 : l.getD k 0 = 37) (N : Nat) (hN : N = Lx.runN Lx.notNl (l.drop k)) :
    RRound w R l (k + N) v wr acc (a, b + N) := by
  refine ⟨H.own, ?_, by have := H.len; omega, H.bel, H.res⟩
  have e := drop_cons_at l k _ hk h37
  have h := H.eq
  rw [e, Lx.toks_comment, ← e, ← hN, List.drop_drop] at h
  exact h
/-- Where a comment ends, as the walk sees it. -/
structure ComPre (s : ByteArray) (k N : Nat) : Prop where
  pos : 1 ≤ N
  le : k + N ≤ s.size
  on : ∀ j, j < N → ∀ h : k + j < s.size, ((s[k + j].toNat : Int) == 10) = false ∧ ((s[k + j].toNat : Int) != 10) = true
  stop : ∀ h : k + N < s.size, ((s[k + N].toNat : Int) == 10) = true ∧ ((s[k + N].toNat : Int) != 10) = false
theorem u8_10 {c : UInt8} (h : c = 10) : ((c.toNat : Int) == 10) = true ∧ ((c.toNat : Int) != 10) = false := by subst h; decide
theorem u8_n10 {c : UInt8} (h : c ≠ 10) : ((c.toNat : Int) == 10) = false ∧ ((c.toNat : Int) != 10) = true := by
  have h2 : ¬ (c.toNat : Int) = 10 := fun e => h (UInt8.toNat_inj.1 (by have : ((10 : UInt8).toNat : Int) = 10 := rfl; omega))
  exact ⟨by simpa using h2, by simpa using h2⟩
theorem comPre (l : List UInt8) (k : Nat) (hk : k < l.length) (h37 : l.getD k 0 = 37) : ComPre ⟨l.toArray⟩ k (Lx.runN Lx.notNl (l.drop k)) := by
  have hle := Lx.runN_le Lx.notNl (l.drop k)
  rw [List.length_drop] at hle
  have get : ∀ k (h : k < (⟨l.toArray⟩ : ByteArray).size), (⟨l.toArray⟩ : ByteArray)[k] = l.getD k 0 := fun k h => ba_get _ k h
  have gd : ∀ j, l.getD (k + j) 0 = (l.drop k).getD j 0 := fun j => by rw [List.getD, List.getD, List.getElem?_drop]
  refine ⟨?_, by rw [ba_size]; omega, fun j h1 h => ?_, fun h => ?_⟩
  · rw [drop_cons_at l k _ hk h37]; simp [Lx.runN, Lx.notNl]
  · rw [get _ h, gd]
    refine u8_n10 ?_
    have := Lx.runN_at Lx.notNl (l.drop k) j h1
    simpa [Lx.notNl] using this
  · rw [get _ h, gd]
    refine u8_10 ?_
    rw [ba_size] at h
    have := Lx.runN_stop Lx.notNl (l.drop k) (by rw [List.length_drop]; omega)
    simpa [Lx.notNl] using this

set_option maxRecDepth 100000 in
set_option maxHeartbeats 8000000 in
theorem rtokens_any (l : List UInt8) (w : World) (hl : l.length ≤ 20000) :
    Calls Tryz.prog 32 #[.string ⟨l.toArray⟩] w (TokensOf (Lx.toks l (1, 1)) w) := by
  obtain ⟨s, hs⟩ : ∃ s : ByteArray, s = ⟨l.toArray⟩ := ⟨_, rfl⟩
  have hz : s.size = l.length := by rw [hs]; rfl
  obtain ⟨R, hR⟩ : ∃ R, R = Lx.toks l (1, 1) := ⟨_, rfl⟩
  have HGET : Hid (∀ k (h : k < s.size), s[k] = l.getD k 0) := fun k h => by subst hs; exact ba_get _ k h
  have HEXT : Hid (∀ k, s.extract k s.size = ⟨(l.drop k).toArray⟩) := fun k => by subst hs; exact ext_tail l k
  have HCOM : Hid (∀ k, k < l.length → l.getD k 0 = 37 → ComPre s k (Lx.runN Lx.notNl (l.drop k))) := fun k hk h => by subst hs; exact comPre l k hk h
  have HONE := Lib.hid (fun (m : List UInt8) (W : World) (h1 : m.length ≤ 20000) (h2 : m ≠ []) => rone_any m W h1 h2)
  rw [← hs, ← hR]
  have HS := Lib.hid hs
  have HR := Lib.hid hR
  have HZ := Lib.hid hz
  have hl2 : s.size ≤ 20000 := by omega
  clear hs hz hR hl
  obtain ⟨i0, hi, hz0, hz1, hz2⟩ := info_parts info_tok
  go_enter Tryz.func32, Tryz.ntmps32
  go_wp2_with fail
  have R0 : Hid (RRound w R l 0 (.slice none 0 0) (w.alloc (.cells #[.int .i64 0, .string ⟨#[]⟩, .int .i64 0, .int .i64 0] 27)) [] (1, 1)) :=
    ⟨World.ownsRow_nil _ _ _ _, by rw [Lx.Res.pre_nil]; exact HR.out.symm, Nat.le_refl _, (Below.refl _ _).alloc (Nat.le_refl _) _, heap_alloc_new w _⟩
  go_loopw [4, 5, 6, 7] (fun vo vl vc vi wr => ∃ (acc : List Lx.Tp) (k : Nat) (a b : Int), vi = .int .i64 k ∧ vl = .int .i64 a ∧ vc = .int .i64 b ∧ k ≤ s.size ∧ 1 ≤ a ∧ a ≤ k + 1 ∧ 1 ≤ b ∧ b ≤ k + 1 ∧ Hid (RRound w R l k vo wr acc (a, b))) (fun _ _ _ vi _ => s.size - (intOf vi).toNat)
  case atStart => exact ⟨[], 0, 1, 1, rfl, rfl, rfl, by omega, by omega, by omega, by omega, by omega, R0.out⟩
  case round =>
    clear R0
    obtain ⟨acc, k, a, b, rfl, rfl, rfl, hk, ha1, ha2, hb1, hb2, H⟩ := hrel
    obtain ⟨⟨x0, x1, x2, x3⟩, ⟨v0, v1, v2, v3⟩, hlt3⟩ := blk4 H.out.res
    have hsz := H.out.bel.size
    by_cases hlt : k < s.size
    case neg =>
      have hRR : R = .ok acc := by
        have := H.out.eq
        rw [List.drop_eq_nil_of_le (by have := HZ.out; omega), Lx.toks_nil, Lx.Res.pre, List.append_nil] at this; exact this.symm
      have K3 := blk4 (set4 H.out.res (.int .i64 0) (.string ⟨#[]⟩) (.int .i64 0) (.int .i64 0))
      have KK := Lib.hid K3
      have HRR := Lib.hid hRR
      clear hRR K3
      go_wp2_with fail
      obtain ⟨⟨b0, b1, b2, b3⟩, -, -⟩ := KK.out
      have hlen := H.out.len
      rw [HRR.out]
      exact bodyPost_ret (v := .tuple #[u4, faultV 0 [] 0 0]) (by simp [results, Tryz.results32, go_sem, faultV, b0, b1, b2, b3]) rfl
        ⟨below4 H.out.bel (Nat.le_refl _) _ _ _ _, u4, rfl, H.out.own.grown (grown_set (grown_set (grown_set (grown_set (grown_refl _ _) _) _) _) _) (H.out.own.ne H.out.res (by decide)), by omega⟩
    have hkl : k < l.length := by have := HZ.out; omega
    have hc := HGET.out k hlt
    by_cases h10 : s[k].toNat = 10
    · have e32 : ((s[k].toNat : Int) == 32) = false := by simp; omega
      have e9 : ((s[k].toNat : Int) == 9) = false := by simp; omega
      have e10 : ((s[k].toNat : Int) == 10) = true := by simp; omega
      have HN := Lib.hid (H.out.line hkl (u8_of (by rw [← hc]; exact h10)))
      clear hc h10
      go_wp2_with fail
      exact ⟨⟨acc, k + 1, a + 1, 1, by go_num, rfl, rfl, by omega, by omega, by omega, by omega, by omega, HN.out⟩, by simp [intOf]; omega⟩
    have e10 : ((s[k].toNat : Int) == 10) = false := by simp; omega
    by_cases h32 : s[k].toNat = 32
    · have e32 : ((s[k].toNat : Int) == 32) = true := by simp; omega
      (have HN := Lib.hid (H.out.blank hkl (by rw [← hc, blank_eq]; exact decide_eq_true (by omega)) (fun e => by rw [← hc] at e; have := congrArg UInt8.toNat e; have h2 : (10 : UInt8).toNat = 10 := rfl; omega)); clear hc; go_wp2_with fail; exact ⟨⟨acc, k + 1, a, b + 1, by go_num, rfl, rfl, by omega, by omega, by omega, by omega, by omega, HN.out⟩, by simp [intOf]; omega⟩)
    have e32 : ((s[k].toNat : Int) == 32) = false := by simp; omega
    by_cases h9 : s[k].toNat = 9
    · have e9 : ((s[k].toNat : Int) == 9) = true := by simp; omega
      (have HN := Lib.hid (H.out.blank hkl (by rw [← hc, blank_eq]; exact decide_eq_true (by omega)) (fun e => by rw [← hc] at e; have := congrArg UInt8.toNat e; have h2 : (10 : UInt8).toNat = 10 := rfl; omega)); clear hc; go_wp2_with fail; exact ⟨⟨acc, k + 1, a, b + 1, by go_num, rfl, rfl, by omega, by omega, by omega, by omega, by omega, HN.out⟩, by simp [intOf]; omega⟩)
    have e9 : ((s[k].toNat : Int) == 9) = false := by simp; omega
    by_cases h13 : s[k].toNat = 13
    · have e13 : ((s[k].toNat : Int) == 13) = true := by simp; omega
      (have HN := Lib.hid (H.out.blank hkl (by rw [← hc, blank_eq]; exact decide_eq_true (by omega)) (fun e => by rw [← hc] at e; have := congrArg UInt8.toNat e; have h2 : (10 : UInt8).toNat = 10 := rfl; omega)); clear hc; go_wp2_with fail; exact ⟨⟨acc, k + 1, a, b + 1, by go_num, rfl, rfl, by omega, by omega, by omega, by omega, by omega, HN.out⟩, by simp [intOf]; omega⟩)
    have e13 : ((s[k].toNat : Int) == 13) = false := by simp; omega
    by_cases h37 : s[k].toNat = 37
    · have e37 : ((s[k].toNat : Int) == 37) = true := by simp; omega
      have h37' : l.getD k 0 = 37 := u8_of (by rw [← hc]; exact h37)
      have C := HCOM.out k hkl h37'
      obtain ⟨N, hN⟩ : ∃ N, N = Lx.runN Lx.notNl (l.drop k) := ⟨_, rfl⟩
      rw [← hN] at C
      have HN := Lib.hid (H.out.comment hkl h37' N hN)
      have HON := Lib.hid C.on
      have HST := Lib.hid C.stop
      have hN1 := C.pos
      have hN2 := C.le
      clear C hN h37' hc h37 h13 h9 h32 h10
      obtain ⟨wo, rfl⟩ : ∃ wo : World, wo = wr := ⟨_, rfl⟩
      go_wp2_with fail
      go_loop [8] (fun v => ∃ j : Nat, v = .int .i64 j ∧ 1 ≤ j ∧ j ≤ N) (fun v => N - (intOf v).toNat)
      case atStart => exact ⟨1, rfl, by omega, by omega⟩
      case round =>
        obtain ⟨j, rfl, hj1, hj2⟩ := hrel
        by_cases hjl : j < N
        · obtain ⟨f1, f2⟩ := HON.out j hjl (by omega)
          have hks : k + j < s.size := by omega
          go_wp2_with fail
          go_round
          case rel => exact ⟨j + 1, by go_num, by omega, by omega⟩
          case measure => simp [intOf]; omega
        · obtain rfl : j = N := by omega
          clear hjl
          by_cases hend : k + j < s.size
          · obtain ⟨f1, f2⟩ := HST.out hend
            go_wp2_with fail
            exact ⟨⟨acc, k + j, a, b + j, by go_num, rfl, rfl, by omega, by omega, by omega, by omega, by omega, HN.out⟩, by simp [intOf]; omega⟩
          · go_wp2_with fail
            exact ⟨⟨acc, k + j, a, b + j, by go_num, rfl, rfl, by omega, by omega, by omega, by omega, by omega, HN.out⟩, by simp [intOf]; omega⟩
    have e37 : ((s[k].toNat : Int) == 37) = false := by simp; omega
    have hcons := drop_cons_at l k _ hkl rfl
    have hb : Lx.blank (l.getD k 0) = false := by rw [← hc, blank_eq]; exact decide_eq_false (by omega)
    have h37' : l.getD k 0 ≠ 37 := fun e => by rw [← hc] at e; exact h37 (by rw [e]; rfl)
    have hx := HEXT.out k
    have hml : (l.drop k).length = s.size - k := by rw [List.length_drop]; have := HZ.out; omega
    have hmn : l.drop k ≠ [] := by rw [hcons]; exact List.cons_ne_nil _ _
    have HF := Lib.hid (fun W => HONE.out (l.drop k) W (by omega) hmn)
    have hfst := Lx.first_n (l.drop k) hmn
    have htk : (Lx.first (l.drop k)).e = 0 → Lx.toks (l.drop k) (a, b) = (Lx.toks ((l.drop k).drop (Lx.first (l.drop k)).n) (a, b + (Lx.first (l.drop k)).n)).cons ⟨(Lx.first (l.drop k)).t, a, b⟩ := fun he => by
      rw [hcons] at he ⊢; exact Lx.toks_tok _ _ _ hb h37' he
    have hbd : (Lx.first (l.drop k)).e ≠ 0 → Lx.toks (l.drop k) (a, b) = .bad (Lx.first (l.drop k)).e ((l.drop k).take (min (Lx.first (l.drop k)).n 40)) a b := fun he => by
      rw [hcons] at he ⊢; exact Lx.toks_bad _ _ _ hb h37' he
    have heq := H.out.eq
    obtain ⟨M, hM⟩ : ∃ M : ByteArray, M = ⟨(l.drop k).toArray⟩ := ⟨_, rfl⟩
    rw [← hM] at hx HF
    obtain ⟨o, ho⟩ : ∃ o, o = Lx.first (l.drop k) := ⟨_, rfl⟩
    rw [← ho] at hfst HF htk hbd
    rw [hml] at hfst
    obtain ⟨t, n, e⟩ := o
    simp only at hfst htk hbd
    by_cases he : e = 0
    · subst he
      have heq2 : (Lx.toks (l.drop (k + n)) (a, b + n)).pre (acc ++ [⟨t, a, b⟩]) = R := by
        rw [← heq, htk rfl, Lx.Res.pre_cons, List.drop_drop]
      have HEQ := Lib.hid heq2
      have HF2 : Hid (∀ W, Calls Tryz.prog 49 #[.string M] W fun e w' => e = .returned (.tuple #[tokV t 0 0, .int .i64 n, faultV 0 [] 0 0]) ∧ Below W.heap.size W w') := fun W => by
        have := HF.out W; rw [roneV, if_pos rfl] at this; exact this
      clear heq2 heq htk hbd HF ho hM hml hmn h37' hb hcons hc h37 h13 h9 h32 h10
      go_wp2_with fail
      refine (HF2.out _).mono ?_; rintro e w2 ⟨rfl, hb⟩
      simp only [tokV, faultV]
      have own2 := H.out.own.below hb
      have bel2 := H.out.bel.trans (hb.mono hsz)
      have res2 := (hb.block w.heap.size hlt3).trans H.out.res
      have O2 := Lib.hid own2
      have B2 := Lib.hid bel2
      have R2 := Lib.hid res2
      have hsz2 := bel2.size
      have hrl := hb.size
      have OWN : Hid (World.ownsRow (((w2.alloc (.cells #[.int .i64 t.kind, .string ⟨t.text.toArray⟩, .int .i64 t.p, .int .i64 t.q, .int .i64 a, .int .i64 b] 41)).alloc (.cells #[.int .i64 0, .string ⟨#[]⟩, .int .i64 0, .int .i64 0] 27)).alloc (.cells #[.int .i64 t.kind, .string ⟨t.text.toArray⟩, .int .i64 t.p, .int .i64 t.q, .int .i64 a, .int .i64 b] 41)) w.heap.size 41 6 u4 acc.length (rowOf acc)) := ((own2.alloc _).alloc _).alloc _
      clear hb own2 bel2 res2 x0 x1 x2 x3 v0 v1 v2 v3 hsz
      go_wp2_with (at_builtin; refine wpList_append_own _ rfl _ _ 22 rfl w.heap.size 41 i0 (.agg #[.int .i64 0, .string ⟨#[]⟩, .int .i64 0, .int .i64 0, .int .i64 0, .int .i64 0]) 6 56 Tryz.underlying22 hi hz0 hz1 hz2 rfl (by decide) _ _ _ rfl OWN.out ⟨w2.heap.size + 1 + 1, 0, none⟩ 1 1 [.int .i64 t.kind, .string ⟨t.text.toArray⟩, .int .i64 t.p, .int .i64 t.q, .int .i64 a, .int .i64 b] rfl rfl ?c1 ?c2 ?c3 ?c4 ?c5 ?_)
      case c1 =>
        intro j u hj
        have hnew := heap_alloc_new ((w2.alloc (.cells #[.int .i64 t.kind, .string ⟨t.text.toArray⟩, .int .i64 t.p, .int .i64 t.q, .int .i64 a, .int .i64 b] 41)).alloc (.cells #[.int .i64 0, .string ⟨#[]⟩, .int .i64 0, .int .i64 0] 27)) (.cells #[.int .i64 t.kind, .string ⟨t.text.toArray⟩, .int .i64 t.p, .int .i64 t.q, .int .i64 a, .int .i64 b] 41)
        have hadd : (⟨w2.heap.size + 1 + 1, 0, none⟩ : Addr).add j = ⟨w2.heap.size + 1 + 1, j, none⟩ := by unfold Addr.add; split <;> simp_all
        rw [hadd]
        have := cell_of_row _ _ j _ _ _ hnew
        simp only [World.size_alloc] at this
        rw [this]
        simpa using hj
      case c2 => intro u hu; simp at hu; rcases hu with rfl | rfl | rfl | rfl | rfl | rfl <;> rfl
      case c3 => have := H.out.len; unfold maxLen; omega
      case c4 => have := H.out.len; omega
      case c5 => simp; omega
      · intro v' w3 hown' hgrow _
        have hn2 := O2.out.ne R2.out (by decide)
        have res3 := (hgrow.block w.heap.size (by simp; omega) (fun e => hn2 e.symm)).trans (blk_alloc (blk_alloc (blk_alloc R2.out _) _) _)
        have bel3 := (((B2.out.alloc B2.out.size _).alloc (by simp; omega) _).alloc (by simp; omega) _).grown hgrow (by simp; omega) (fun k hk => (O2.out.lt k hk).1)
        have own3 : Toks w3 w.heap.size v' (acc ++ [⟨t, a, b⟩]) := by
          unfold Toks
          rw [rowOf_snoc, List.length_append]
          exact hown'
        have RND : Hid (RRound w R l (k + n) v' w3 (acc ++ [⟨t, a, b⟩]) (a, b + n)) :=
          ⟨own3, HEQ.out, by have := H.out.len; rw [List.length_append]; simp; omega, bel3, res3⟩
        clear hown' hgrow hn2 res3 bel3 own3 OWN O2 B2 R2
        go_wp2_with fail
        exact ⟨⟨_, k + n, a, b + n, by go_num, rfl, rfl, by omega, by omega, by omega, by omega, by omega, RND.out⟩, by simp [intOf]; omega⟩
    · have hRR : R = .bad e ((l.drop k).take (min n 40)) a b := by rw [← heq, hbd he]; rfl
      have HRR := Lib.hid hRR
      have HF2 : Hid (∀ W, Calls Tryz.prog 49 #[.string M] W fun e' w' => e' = .returned (.tuple #[tokV ⟨0, [], 0, 0⟩ 0 0, .int .i64 0, faultV e ((l.drop k).take (min n 40)) 0 0]) ∧ Below W.heap.size W w') := fun W => by
        have := HF.out W; rw [roneV, if_neg he] at this; exact this
      have he2 : (e != 0) = true := by simpa using he
      have he3 : (e == 0) = false := by simpa using he
      obtain ⟨NM, hNM⟩ : ∃ NM, NM = (l.drop k).take (min n 40) := ⟨_, rfl⟩
      rw [← hNM] at HF2 HRR
      clear he hRR heq htk hbd HF ho hM hml hmn h37' hb hcons hc h37 h13 h9 h32 h10 hNM hfst
      go_wp2_with fail
      refine (HF2.out _).mono ?_; rintro e' w2 ⟨rfl, hb⟩
      simp only [tokV, faultV]
      have bel2 := H.out.bel.trans (hb.mono hsz)
      have res2 := (hb.block w.heap.size hlt3).trans H.out.res
      have B2 := Lib.hid bel2
      have R2 := Lib.hid res2
      have hsz2 := bel2.size
      obtain ⟨⟨z0, z1, z2, z3⟩, ⟨y0, y1, y2, y3⟩, hlt4⟩ := blk4 res2
      clear hb res2 bel2 x0 x1 x2 x3 v0 v1 v2 v3 hsz
      go_wp2_with fail
      go_region
      go_wp2_with fail
      obtain ⟨⟨b0, b1, b2, b3⟩, -, -⟩ := blk4 (blk_alloc (blk_alloc (set4 R2.out (.int .i64 e) (.string ⟨NM.toArray⟩) (.int .i64 a) (.int .i64 b)) (.cells #[.int .i64 0, .string ⟨#[]⟩, .int .i64 0, .int .i64 0, .int .i64 0, .int .i64 0] 41)) (.cells #[.int .i64 e, .string ⟨NM.toArray⟩, .int .i64 a, .int .i64 b] 27))
      rw [HRR.out]
      exact bodyPost_ret (v := .tuple #[.slice none 0 0, faultV e NM a b]) (by simp [results, Tryz.results32, go_sem, faultV, b0, b1, b2, b3]) rfl
        ⟨(((below4 B2.out (Nat.le_refl _) _ _ _ _).alloc (by simpa [World.setCell] using B2.out.size) _).alloc (by have := B2.out.size; simp [World.setCell]; omega) _).drew, rfl⟩
end Go.Proofs.YtnhcjgnohnedaaaGreatDoor
