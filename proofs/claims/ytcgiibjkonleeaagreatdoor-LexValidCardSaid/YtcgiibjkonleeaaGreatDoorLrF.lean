/-
  LexBack: what it calls; its mathematics.
  The walk of LexValid: it returns true at any tokens.
-/
import Derived.Test.YtcgiibjkonleeaaGreatDoorLxM7
import Derived.Test.YtcgiibjkonleeaaGreatDoorLrD
import Derived.Test.YtcgiibjkonleeaaGreatDoorLrE
import Derived.Deep.RegionHeld3
namespace Go.Proofs.YtcgiibjkonleeaaGreatDoor
open Go.RowKit

theorem same_tk : ∀ (l : List Tv) (ts : List Lx.Tp), ts.map (·.toTk) = l.map Tv.tk → sameTvs l (ts.map Tv.of) = true
  | [], [], _ => rfl
  | [], _ :: _, h => by simp at h
  | _ :: _, [], h => by simp at h
  | x :: l, y :: ts, h => by
    simp only [List.map_cons, List.cons.injEq] at h
    simp only [List.map_cons, sameTvs, Bool.and_eq_true]
    refine ⟨?_, same_tk l ts h.2⟩
    have e1 := congrArg Lx.Tk.kind h.1
    have e2 := congrArg Lx.Tk.text h.1
    have e3 := congrArg Lx.Tk.p h.1
    have e4 := congrArg Lx.Tk.q h.1
    have e2' : x.t = ⟨y.text.toArray⟩ := by rw [ba_list x.t, e2]; rfl
    exact decide_eq_true ⟨e1.symm, e2', e3.symm, e4.symm⟩
theorem textE_cases (l : List Tv) : textE l = 0 ∧ (∀ x ∈ l, x.ok = true) ∧ textS l = Lx.jn (l.map Tv.sp) ∧ (textS l).length ≤ 20000 ∨ textE l = 3 ∧ textS l = [] ∨ textE l = 2 ∧ textS l = [] ∧ ¬ (∀ x ∈ l, x.ok = true) := by
  unfold textE textS
  by_cases h : l.all Tv.ok = true
  · rw [if_pos h, if_pos h]
    by_cases h2 : 20000 < (Lx.jn (l.map Tv.sp)).length
    · rw [if_pos h2, if_pos h2]; exact .inr (.inl ⟨rfl, rfl⟩)
    · rw [if_neg h2, if_neg h2]; exact .inl ⟨rfl, List.all_eq_true.1 h, rfl, by omega⟩
  · rw [if_neg h, if_neg h]; exact .inr (.inr ⟨rfl, rfl, fun hh => h (List.all_eq_true.2 hh)⟩)
theorem of_ok {t : Lx.Tp} (h : Lx.vldT t.kind t.text t.p t.q = true) : (Tv.of t).ok = true := by
  unfold Tv.ok Tv.of; simpa using h
theorem of_fit {t : Lx.Tp} (h : Lx.vldT t.kind t.text t.p t.q = true) : (Tv.of t).fit := by
  obtain ⟨h1, -, h3⟩ := spell_short _ _ _ _ h
  have hs : (⟨t.text.toArray⟩ : ByteArray).size ≤ maxLen := by rw [ba_size]; unfold maxLen; omega
  by_cases hk : t.kind = 2
  · obtain ⟨hv, p0, -, -⟩ := decB_parts (h3 hk)
    obtain ⟨q1, q2, p1, p2⟩ := vld_pos hv
    exact ⟨show _ ≤ t.p by omega, show t.p ≤ _ by omega, show _ ≤ t.q by omega, show t.q ≤ _ by omega, hs⟩
  · have h0 : t.p = 0 ∧ t.q = 0 := by
      unfold Lx.vldT at h
      rw [if_neg hk] at h
      by_cases h0 : t.p = 0 ∧ t.q = 0
      · exact h0
      · rw [if_pos h0] at h; cases h
    exact ⟨show _ ≤ t.p by omega, show t.p ≤ _ by omega, show _ ≤ t.q by omega, show t.q ≤ _ by omega, hs⟩
theorem of_tk (ts : List Lx.Tp) : (ts.map Tv.of).map Tv.tk = ts.map (·.toTk) := by
  rw [List.map_map]
  apply List.map_congr_left
  intro t _
  simp [Tv.tk, Tv.of]

set_option maxRecDepth 100000 in
set_option maxHeartbeats 4000000 in
/-- It returns true of at most 400 tokens alone. -/
theorem lshort_any (A : Option Addr) (c : Nat) (l : List Tv) (w : World) (h1 : TokSl w w.heap.size A l) (hl : l.length ≤ 9223372036854775807) (hf : ∀ x ∈ l, x.fit) :
    Calls Tryz.prog 10 #[.slice A l.length c] w fun e w' => (∃ b, e = .returned (.bool b) ∧ (b = true → l.length ≤ 400)) ∧ Below w.heap.size w w' := by
  have H1 := Lib.hid h1
  have HF := Lib.hid hf
  generalize hL : l.length = n at *
  have HL := Lib.hid hL
  clear h1 hf hL
  go_enter Tryz.func10, Tryz.ntmps10
  go_wp2_with fail
  go_loopw [3, 8] (fun vs v wr => ∃ (k : Nat) (s : Int), v = .int .i64 k ∧ vs = .int .i64 s ∧ k ≤ n ∧ Below w.heap.size w wr) (fun _ v _ => n - (intOf v).toNat)
  case atStart => exact ⟨0, 0, rfl, rfl, by omega, Below.refl _ _⟩
  case round =>
    obtain ⟨k, s, rfl, rfl, hk, hB⟩ := hrel
    by_cases hlt : k < n
    · obtain ⟨ad1, rfl, hb1, at1⟩ := H1.out (by rw [HL.out]; omega); have hx : l[k]? = some (l[k]'(by rw [HL.out]; exact hlt)) := List.getElem?_eq_getElem _; have hmem : l[k]'(by rw [HL.out]; exact hlt) ∈ l := List.getElem_mem _; generalize l[k]'(by rw [HL.out]; exact hlt) = x at hx hmem; have tx := (at1 k x hx).below hB (by rw [block_of_add]; exact hb1); have g1 := block_of_add ad1 (k * 6); obtain ⟨⟨xb, xo, xs⟩, hE1⟩ : ∃ E, ad1.add (k * 6) = E := ⟨_, rfl⟩; rw [hE1] at tx g1; obtain ⟨x0, x1, x2, x3, x4, x5⟩ := tx; simp only at x0 x1 x2 x3 x4 x5 g1; have hsz := hB.size; have BB := Lib.hid hB; have hxb : xb < wr.heap.size := (by omega); have hk0 : (0 : Int) ≤ (k : Int) := (by omega); have hk1 : (k : Int) < (n : Int) := (by omega)
      clear hx hmem at1 g1 hb1 hB
      go_wp2_with fail
      go_roundw
      case rel => exact ⟨k + 1, _, by go_num, rfl, by omega, BB.out.alloc hsz _⟩
      case measure => simp [intOf]; omega
    · by_cases h4 : n ≤ 400
      · go_wp2_with fail
        go_ret
        exact ⟨⟨_, rfl, fun _ => h4⟩, hB⟩
      · go_wp2_with fail
        go_ret
        exact ⟨rfl, hB⟩
end Go.Proofs.YtcgiibjkonleeaaGreatDoor

namespace Go.Proofs.YtcgiibjkonleeaaGreatDoor
open Go.RowKit

theorem belK3 {w a b : World} (h : Hid (Below w.heap.size w a)) (hb : Below a.heap.size a b) : Hid (Below w.heap.size w b) := h.out.trans (hb.mono h.out.size)
theorem belD3 {B : Nat} {w a : World} (h : Hid (Below B w a)) : Hid (Below B w a.drew) := h.out.drew
theorem envD3 {a : World} (h : Hid (EnvL a)) : Hid (EnvL a.drew) := h.out.below ((Below.refl _ _).drew)
theorem envK3 {a b : World} (h : Hid (EnvL a)) (hb : Below a.heap.size a b) : Hid (EnvL b) := h.out.below hb
set_option maxRecDepth 100000 in
set_option maxHeartbeats 16000000 in
theorem lvalids_any (A1 A2 : Option Addr) (c1 c2 : Nat) (l m : List Tv) (w : World) (he : EnvL w) (h1 : TokSl w w.heap.size A1 l) (h2 : TokSl w w.heap.size A2 m) (hl : l.length ≤ 9223372036854775807) (hm : m.length ≤ 9223372036854775807) (hf : ∀ x ∈ l, x.fit) (hg : ∀ x ∈ m, x.fit) :
    Calls Tryz.prog 5 #[.slice A1 l.length c1, .slice A2 m.length c2] w fun e w' => e = .returned (.bool true) ∧ Below w.heap.size w w' := by
  have HE := Lib.hid he
  have HA := Lib.hid (fun W (hW : EnvL W) => lawake_any W hW)
  have C1 := Lib.hid (lshort_any A1 c1 l w h1 hl hf)
  have C2 := Lib.hid (fun W (hW : TokSl W W.heap.size A2 m) => lshort_any A2 c2 m W hW hm hg)
  have H1 := Lib.hid h1
  have H2 := Lib.hid h2
  have HF := Lib.hid hf
  generalize hL : l.length = n at *
  generalize hM : m.length = n2 at *
  have HL := Lib.hid hL
  have HM := Lib.hid hM
  clear he h1 h2 hf hg hL hM
  go_enter Tryz.func5, Tryz.ntmps5
  go_wp2_with fail
  refine C1.out.mono ?_; rintro e w1 ⟨⟨b, rfl, hn⟩, hb⟩
  have B1 := Lib.hid hb
  clear hb
  cases b
  case false =>
    clear hn
    go_wp2_with fail
    refine (HA.out _ (HE.out.below B1.out)).mono ?_; rintro e w2 ⟨rfl, hb⟩
    go_wp2_with fail
    go_ret
    exact ⟨rfl, B1.out.trans (hb.mono B1.out.size)⟩
  have hn4 := hn rfl
  clear hn
  go_wp2_with fail
  refine (C2.out _ ((H2.out.below B1.out).more B1.out.size)).mono ?_; rintro e w2 ⟨⟨b, rfl, hn⟩, hb⟩
  have B2 := Lib.hid (B1.out.trans (hb.mono B1.out.size))
  clear hb
  cases b
  case false =>
    clear hn
    go_wp2_with fail
    refine (HA.out _ (HE.out.below B2.out)).mono ?_; rintro e w2 ⟨rfl, hb⟩
    go_wp2_with fail
    go_ret
    exact ⟨rfl, B2.out.trans (hb.mono B2.out.size)⟩
  have hm4 := hn rfl
  clear hn
  go_wp2_with fail
  go_loopw [18] (fun v wr => ∃ k : Nat, v = .int .i64 k ∧ k ≤ n ∧ Below w.heap.size w wr) (fun v _ => n - (intOf v).toNat)
  case atStart => exact ⟨0, rfl, by omega, B2.out⟩
  case round =>
    obtain ⟨k, rfl, hk, hB⟩ := hrel
    by_cases hlt : k < n
    · obtain ⟨ad1, rfl, hb1, at1⟩ := H1.out (by rw [HL.out]; omega); have hx : l[k]? = some (l[k]'(by rw [HL.out]; exact hlt)) := List.getElem?_eq_getElem _; have hmem : l[k]'(by rw [HL.out]; exact hlt) ∈ l := List.getElem_mem _; generalize l[k]'(by rw [HL.out]; exact hlt) = x at hx hmem; have tx := (at1 k x hx).below hB (by rw [block_of_add]; exact hb1); have g1 := block_of_add ad1 (k * 6); obtain ⟨⟨xb, xo, xs⟩, hE1⟩ : ∃ E, ad1.add (k * 6) = E := ⟨_, rfl⟩; rw [hE1] at tx g1; obtain ⟨x0, x1, x2, x3, x4, x5⟩ := tx; simp only at x0 x1 x2 x3 x4 x5 g1; have hsz := hB.size; have BB := Lib.hid hB; have hxb : xb < wr.heap.size := (by omega); have hk0 : (0 : Int) ≤ (k : Int) := (by omega); have hk1 : (k : Int) < (n : Int) := (by omega)
      have fx := HF.out x hmem
      have HV := Lib.hid (fun W (hW : EnvL W) => lvalid_any x.k x.p x.q x.a x.c x.t W hW fx.p1 fx.p2 fx.q1 fx.q2 fx.ts)
      have HR := Lib.hid (fun W => rvalidT_any x.k x.p x.q x.a x.c x.t W fx.p1 fx.p2 fx.q1 fx.q2 fx.ts)
      generalize Lx.vldT x.k x.t.data.toList x.p x.q = q at HV HR
      clear hx hmem at1 g1 hb1 hB fx
      go_wp2_with fail
      have B3 := Lib.hid (BB.out.alloc hsz (.cells #[.int .i64 x.k, .string x.t, .int .i64 x.p, .int .i64 x.q, .int .i64 x.a, .int .i64 x.c] 38))
      have K3 := heap_alloc_new wr (.cells #[.int .i64 x.k, .string x.t, .int .i64 x.p, .int .i64 x.q, .int .i64 x.a, .int .i64 x.c] 38)
      have EV := Lib.hid (HE.out.below B3.out)
      have hwz := B3.out.size
      clear x0 x1 x2 x3 x4 x5
      obtain ⟨⟨z0, z1, z2, z3, z4, z5⟩, -, zl⟩ := blk6 K3
      have EB : Hid (Below w.heap.size w (wr.alloc (.cells #[.int .i64 x.k, .string x.t, .int .i64 x.p, .int .i64 x.q, .int .i64 x.a, .int .i64 x.c] 38))) := B3.out
      have EE : Hid (EnvL (wr.alloc (.cells #[.int .i64 x.k, .string x.t, .int .i64 x.p, .int .i64 x.q, .int .i64 x.a, .int .i64 x.c] 38))) := EV.out
      clear K3 B3 EV
      generalize wr.alloc (.cells #[.int .i64 x.k, .string x.t, .int .i64 x.p, .int .i64 x.q, .int .i64 x.a, .int .i64 x.c] 38) = wx at z0 z1 z2 z3 z4 z5 zl EB EE ⊢
      generalize wr.heap.size = bc at z0 z1 z2 z3 z4 z5 zl ⊢
      go_region_held3 (fun w' => w'.cell? ⟨bc, 0, none⟩ = some (.int .i64 x.k) ∧ w'.cell? ⟨bc, 1, none⟩ = some (.string x.t) ∧ w'.cell? ⟨bc, 2, none⟩ = some (.int .i64 x.p) ∧ w'.cell? ⟨bc, 3, none⟩ = some (.int .i64 x.q) ∧ w'.cell? ⟨bc, 4, none⟩ = some (.int .i64 x.a) ∧ w'.cell? ⟨bc, 5, none⟩ = some (.int .i64 x.c) ∧ bc < w'.heap.size ∧ Hid (Below w.heap.size w w') ∧ Hid (EnvL w'))
        (first
          | (go_keep; done)
          | (go_split_ands
             refine ⟨?_, ?_, ?_, ?_, ?_, ?_, ?_, ?_, ?_⟩ <;> (first | assumption | (simp [*]; done) | (rw [(bcell hb1).1 _ _ (by assumption)]; assumption) | exact belD3 (by assumption) | exact envD3 (by assumption) | exact Nat.lt_of_lt_of_le (by assumption) hb1.size | exact belK3 (by assumption) hb1 | exact envK3 (by assumption) hb1)))
        (first
          | (go_at_call 13; refine (HV.out _ ?_).mono ?_; (go_split_ands; exact Hid.out (by assumption)); rintro e w1 ⟨rfl, hb1⟩)
          | (go_at_call 14; refine (HR.out _).mono ?_; rintro e w1 ⟨rfl, hb1⟩))
      all_goals
        go_split_ands
        go_wp2_with fail
        exact ⟨⟨k + 1, by go_num, by omega, Hid.out (by assumption)⟩, by simp [intOf]; omega⟩
    · have BB := Lib.hid hB
      have hsz := hB.size
      have S1 := Lib.hid ((H1.out.below hB).more hsz)
      have S2 := Lib.hid ((H2.out.below hB).more hsz)
      clear hB
      go_wp2_with fail
      have CS := same_any A1 A2 c1 c2 l m _ S1.out S2.out (by rw [HL.out]; omega)
      rw [HL.out, HM.out] at CS
      refine CS.mono ?_; rintro e w3 ⟨rfl, hb⟩
      clear CS
      have B3 := Lib.hid (BB.out.trans (hb.mono hsz))
      have hz3 := hb.size
      have S3 := Lib.hid ((S1.out.below hb).more hz3)
      have S4 := Lib.hid ((S2.out.below hb).more hz3)
      clear hb
      go_wp2_with fail
      have CR := rsame_any A1 A2 c1 c2 l m _ S3.out S4.out (by rw [HL.out]; omega)
      rw [HL.out, HM.out] at CR
      refine CR.mono ?_; rintro e w4 ⟨rfl, hb⟩
      clear CR
      have B4 := Lib.hid (B3.out.trans (hb.mono B3.out.size))
      clear hb
      go_wp2_with fail
      refine (HA.out _ (HE.out.below B4.out)).mono ?_; rintro e w5 ⟨rfl, hb⟩
      go_wp2_with fail
      go_ret
      exact ⟨rfl, B4.out.trans (hb.mono B4.out.size)⟩
end Go.Proofs.YtcgiibjkonleeaaGreatDoor
