/-
  Contracts: Parse of package num.
-/
-- LAW 01
import Derived.Test.YtanhomngnickfaaDoorAwake
import Derived.Test.YtanhomngnickfaaDoorPower0
import Derived.Test.YtanhomngnickfaaDoorShelfP
import Derived.Lib.ParseIntBTie
namespace Go.Proofs.YtanhomngnickfaaDoor
open Go.RowKit

/-- What the library's functions read, the two sentinels too. -/
structure Env5 (w : World) : Prop extends Env w where
  syn : ∃ tp p, w.var? Tryd.prog "strconv.ErrSyntax" = some #[.iface tp p]
  ran : ∃ tp p, w.var? Tryd.prog "strconv.ErrRange" = some #[.iface tp p]
theorem syn_name : Tryd.prog.globalNamed "strconv.ErrSyntax" = some 4 := by kernel_rfl
theorem ran_name : Tryd.prog.globalNamed "strconv.ErrRange" = some 5 := by kernel_rfl
theorem Env5.below {w w' : World} (h : Env5 w) (hb : Below w.heap.size w w') : Env5 w' := by
  have hs := h.size
  refine ⟨h.toEnv.below hb, ?_, ?_⟩
  · obtain ⟨tp, p, hv⟩ := h.syn
    exact ⟨tp, p, var?_below hb syn_name (by omega) hv⟩
  · obtain ⟨tp, p, hv⟩ := h.ran
    exact ⟨tp, p, var?_below hb ran_name (by omega) hv⟩

theorem pint_ok (l : List UInt8) (hl : l.length ≤ 10000) (v : Int) (h : Lib.parseIntB 64 l = .ok v) (w : World) :
    Calls Tryd.prog 77 #[.string ⟨l.toArray⟩, .int .i64 10, .int .i64 64] w fun e w' => e = .returned (.tuple #[.int .i64 v, .nilIface]) ∧ Below w.heap.size w w' := by
  have := Any.strconv_ParseInt_10_at64_ok Tryd.laysC174 ⟨l.toArray⟩ (by rw [Lib.size_eq]; simp; omega) v (by simpa using h) w
  refine this.mono fun e w' ⟨he, hw⟩ => ⟨he, ?_⟩
  rcases hw with rfl | ⟨t, rfl⟩
  · exact Below.refl _ _
  · exact below_bytes _ _ _
theorem pint_err (l : List UInt8) (hl : l.length ≤ 10000) (h : ∀ v, Lib.parseIntB 64 l ≠ .ok v) (w : World) (he : Env5 w) :
    Calls Tryd.prog 77 #[.string ⟨l.toArray⟩, .int .i64 10, .int .i64 64] w fun e w' => (∃ (x : Int) (N : Nat), e = .returned (.tuple #[.int .i64 x, .iface 103 (.pointer (some ⟨N, 0, none⟩))])) ∧ Below w.heap.size w w' := by
  obtain ⟨tp, p, hv⟩ := he.syn
  obtain ⟨tp2, p2, hv2⟩ := he.ran
  have hsz : (⟨l.toArray⟩ : ByteArray).size ≤ 281474976710656 := by rw [Lib.size_eq]; simp; omega
  cases hc : Lib.parseIntB 64 l
  all_goals first
    | exact absurd hc (h _)
    | exact (Any.strconv_ParseInt_10_at64_syntax_var Tryd.laysC174 ⟨l.toArray⟩ hsz (by simpa using hc) tp p w hv).mono fun e w' ⟨N, h1, _, _, h4⟩ => ⟨⟨_, N, h1⟩, h4⟩
    | exact (Any.strconv_ParseInt_10_at64_range_var Tryd.laysC174 ⟨l.toArray⟩ hsz (by simpa using hc) tp2 p2 w hv2).mono fun e w' ⟨N, h1, _, _, h4⟩ => ⟨⟨_, N, h1⟩, h4⟩
theorem pbd {l : List UInt8} {v : Int} (h : Lib.parseIntB 64 l = .ok v) : -9223372036854775808 ≤ v ∧ v ≤ 9223372036854775807 := by
  rw [Lib.parseIntB_64] at h; exact Lib.atoiAll_bounds h
set_option maxRecDepth 100000 in
set_option maxHeartbeats 1600000 in
theorem parse_f_top (s : ByteArray) (w : World) (he : Env5 w) (hs : s.size ≤ 10000) (top bot : List UInt8) (hc : Lib.cut s.data.toList [47] = (top, bot, false)) (hl : top.length ≤ 10000 ∧ bot.length ≤ 10000) (ht : ∀ v, Lib.parseIntB 64 top ≠ .ok v) (q : Int) (hq : Lib.parseIntB 64 [49] = .ok q)  :
    Calls Tryd.prog 39 #[.string s] w fun e w' => e = .returned (numV 0 0 30) ∧ Below w.heap.size w w' := by
  have HE := Lib.hid he
  have HL := Lib.hid hl
  have HT := Lib.hid ht
  have HQ := Lib.hid hq
  have HC := Lib.hid hc
  clear he hl ht hq hc
  go_enter Tryd.func39, Tryd.ntmps39
  go_wp2_with fail
  have fr := numFr_new w 0 0 41
  have hB := (Below.refl w.heap.size w).alloc (Nat.le_refl _) (.cells #[.int .i64 0, .int .i64 0] 41)
  generalize w.alloc (.cells #[.int .i64 0, .int .i64 0] 41) = W0 at fr hB ⊢
  refine (cut_any s ⟨#[47]⟩ _ (HE.out.toEnv.below hB) hs top bot false HC.out).mono ?_; rintro e w1 ⟨rfl, n, rfl⟩
  replace fr := fr.below (below_drewN (Below.refl _ W0) n)
  replace hB := below_drewN hB n
  generalize W0.drewN n = W1 at fr hB ⊢
  clear W0
  go_wp2_with fail
  refine (pint_err top HL.out.1 HT.out _ (HE.out.below hB)).mono ?_; rintro e w' ⟨⟨x, N, rfl⟩, hb1⟩; replace fr := fr.below hb1; replace hB := hB.trans (hb1.mono hB.size); clear hb1
  go_wp2_with fail
  refine (pint_ok [49] (by decide) q HQ.out _).mono ?_; rintro e w' ⟨rfl, hb1⟩; replace fr := fr.below hb1; replace hB := hB.trans (hb1.mono hB.size); clear hb1
  have hsb := hB.size
  obtain ⟨⟨c0, c1, cl⟩, c2, c3⟩ := id fr
  go_wp2_with fail
  exact bodyPost_ret (v := numV 0 0 30) (by simp [results, Tryd.results39, go_sem, numV, c0, c1, cl, c2, c3]) rfl ⟨rfl, (hB.setCell (p := ⟨w.heap.size, 0, none⟩) (Nat.le_refl _) _).setCell (p := ⟨w.heap.size, 1, none⟩) (Nat.le_refl _) _⟩

set_option maxRecDepth 100000 in
set_option maxHeartbeats 1600000 in
theorem parse_t_top (s : ByteArray) (w : World) (he : Env5 w) (hs : s.size ≤ 10000) (top bot : List UInt8) (hc : Lib.cut s.data.toList [47] = (top, bot, true)) (hl : top.length ≤ 10000 ∧ bot.length ≤ 10000) (ht : ∀ v, Lib.parseIntB 64 top ≠ .ok v) (q : Int) (hq : Lib.parseIntB 64 bot = .ok q)  :
    Calls Tryd.prog 39 #[.string s] w fun e w' => e = .returned (numV 0 0 30) ∧ Below w.heap.size w w' := by
  have HE := Lib.hid he
  have HL := Lib.hid hl
  have HT := Lib.hid ht
  have HQ := Lib.hid hq
  have HC := Lib.hid hc
  clear he hl ht hq hc
  go_enter Tryd.func39, Tryd.ntmps39
  go_wp2_with fail
  have fr := numFr_new w 0 0 41
  have hB := (Below.refl w.heap.size w).alloc (Nat.le_refl _) (.cells #[.int .i64 0, .int .i64 0] 41)
  generalize w.alloc (.cells #[.int .i64 0, .int .i64 0] 41) = W0 at fr hB ⊢
  refine (cut_any s ⟨#[47]⟩ _ (HE.out.toEnv.below hB) hs top bot true HC.out).mono ?_; rintro e w1 ⟨rfl, n, rfl⟩
  replace fr := fr.below (below_drewN (Below.refl _ W0) n)
  replace hB := below_drewN hB n
  generalize W0.drewN n = W1 at fr hB ⊢
  clear W0
  go_wp2_with fail
  refine (pint_err top HL.out.1 HT.out _ (HE.out.below hB)).mono ?_; rintro e w' ⟨⟨x, N, rfl⟩, hb1⟩; replace fr := fr.below hb1; replace hB := hB.trans (hb1.mono hB.size); clear hb1
  go_wp2_with fail
  refine (pint_ok bot HL.out.2 q HQ.out _).mono ?_; rintro e w' ⟨rfl, hb1⟩; replace fr := fr.below hb1; replace hB := hB.trans (hb1.mono hB.size); clear hb1
  have hsb := hB.size
  obtain ⟨⟨c0, c1, cl⟩, c2, c3⟩ := id fr
  go_wp2_with fail
  exact bodyPost_ret (v := numV 0 0 30) (by simp [results, Tryd.results39, go_sem, numV, c0, c1, cl, c2, c3]) rfl ⟨rfl, (hB.setCell (p := ⟨w.heap.size, 0, none⟩) (Nat.le_refl _) _).setCell (p := ⟨w.heap.size, 1, none⟩) (Nat.le_refl _) _⟩

set_option maxRecDepth 100000 in
set_option maxHeartbeats 1600000 in
theorem parse_t_both (s : ByteArray) (w : World) (he : Env5 w) (hs : s.size ≤ 10000) (top bot : List UInt8) (hc : Lib.cut s.data.toList [47] = (top, bot, true)) (hl : top.length ≤ 10000 ∧ bot.length ≤ 10000) (ht : ∀ v, Lib.parseIntB 64 top ≠ .ok v) (hq : ∀ v, Lib.parseIntB 64 bot ≠ .ok v)  :
    Calls Tryd.prog 39 #[.string s] w fun e w' => e = .returned (numV 0 0 30) ∧ Below w.heap.size w w' := by
  have HE := Lib.hid he
  have HL := Lib.hid hl
  have HT := Lib.hid ht
  have HQ := Lib.hid hq
  have HC := Lib.hid hc
  clear he hl ht hq hc
  go_enter Tryd.func39, Tryd.ntmps39
  go_wp2_with fail
  have fr := numFr_new w 0 0 41
  have hB := (Below.refl w.heap.size w).alloc (Nat.le_refl _) (.cells #[.int .i64 0, .int .i64 0] 41)
  generalize w.alloc (.cells #[.int .i64 0, .int .i64 0] 41) = W0 at fr hB ⊢
  refine (cut_any s ⟨#[47]⟩ _ (HE.out.toEnv.below hB) hs top bot true HC.out).mono ?_; rintro e w1 ⟨rfl, n, rfl⟩
  replace fr := fr.below (below_drewN (Below.refl _ W0) n)
  replace hB := below_drewN hB n
  generalize W0.drewN n = W1 at fr hB ⊢
  clear W0
  go_wp2_with fail
  refine (pint_err top HL.out.1 HT.out _ (HE.out.below hB)).mono ?_; rintro e w' ⟨⟨x, N, rfl⟩, hb1⟩; replace fr := fr.below hb1; replace hB := hB.trans (hb1.mono hB.size); clear hb1
  go_wp2_with fail
  refine (pint_err bot HL.out.2 HQ.out _ (HE.out.below hB)).mono ?_; rintro e w' ⟨⟨x2, N2, rfl⟩, hb1⟩; replace fr := fr.below hb1; replace hB := hB.trans (hb1.mono hB.size); clear hb1
  have hsb := hB.size
  obtain ⟨⟨c0, c1, cl⟩, c2, c3⟩ := id fr
  go_wp2_with fail
  exact bodyPost_ret (v := numV 0 0 30) (by simp [results, Tryd.results39, go_sem, numV, c0, c1, cl, c2, c3]) rfl ⟨rfl, (hB.setCell (p := ⟨w.heap.size, 0, none⟩) (Nat.le_refl _) _).setCell (p := ⟨w.heap.size, 1, none⟩) (Nat.le_refl _) _⟩

set_option maxRecDepth 100000 in
set_option maxHeartbeats 1600000 in
theorem parse_t_bot (s : ByteArray) (w : World) (he : Env5 w) (hs : s.size ≤ 10000) (top bot : List UInt8) (hc : Lib.cut s.data.toList [47] = (top, bot, true)) (hl : top.length ≤ 10000 ∧ bot.length ≤ 10000) (p : Int) (ht : Lib.parseIntB 64 top = .ok p) (hq : ∀ v, Lib.parseIntB 64 bot ≠ .ok v)  :
    Calls Tryd.prog 39 #[.string s] w fun e w' => e = .returned (numV 0 0 30) ∧ Below w.heap.size w w' := by
  have HE := Lib.hid he
  have HL := Lib.hid hl
  have HT := Lib.hid ht
  have HQ := Lib.hid hq
  have HC := Lib.hid hc
  clear he hl ht hq hc
  go_enter Tryd.func39, Tryd.ntmps39
  go_wp2_with fail
  have fr := numFr_new w 0 0 41
  have hB := (Below.refl w.heap.size w).alloc (Nat.le_refl _) (.cells #[.int .i64 0, .int .i64 0] 41)
  generalize w.alloc (.cells #[.int .i64 0, .int .i64 0] 41) = W0 at fr hB ⊢
  refine (cut_any s ⟨#[47]⟩ _ (HE.out.toEnv.below hB) hs top bot true HC.out).mono ?_; rintro e w1 ⟨rfl, n, rfl⟩
  replace fr := fr.below (below_drewN (Below.refl _ W0) n)
  replace hB := below_drewN hB n
  generalize W0.drewN n = W1 at fr hB ⊢
  clear W0
  go_wp2_with fail
  refine (pint_ok top HL.out.1 p HT.out _).mono ?_; rintro e w' ⟨rfl, hb1⟩; replace fr := fr.below hb1; replace hB := hB.trans (hb1.mono hB.size); clear hb1
  go_wp2_with fail
  refine (pint_err bot HL.out.2 HQ.out _ (HE.out.below hB)).mono ?_; rintro e w' ⟨⟨x2, N2, rfl⟩, hb1⟩; replace fr := fr.below hb1; replace hB := hB.trans (hb1.mono hB.size); clear hb1
  have hsb := hB.size
  obtain ⟨⟨c0, c1, cl⟩, c2, c3⟩ := id fr
  go_wp2_with fail
  exact bodyPost_ret (v := numV 0 0 30) (by simp [results, Tryd.results39, go_sem, numV, c0, c1, cl, c2, c3]) rfl ⟨rfl, (hB.setCell (p := ⟨w.heap.size, 0, none⟩) (Nat.le_refl _) _).setCell (p := ⟨w.heap.size, 1, none⟩) (Nat.le_refl _) _⟩

set_option maxRecDepth 100000 in
set_option maxHeartbeats 1600000 in
theorem parse_f_inv (s : ByteArray) (w : World) (he : Env5 w) (hs : s.size ≤ 10000) (top bot : List UInt8) (hc : Lib.cut s.data.toList [47] = (top, bot, false)) (hl : top.length ≤ 10000 ∧ bot.length ≤ 10000) (p : Int) (ht : Lib.parseIntB 64 top = .ok p) (q : Int) (hq : Lib.parseIntB 64 [49] = .ok q) (hv : Nm.vld p q = false) :
    Calls Tryd.prog 39 #[.string s] w fun e w' => e = .returned (numV 0 0 30) ∧ Below w.heap.size w w' := by
  have HE := Lib.hid he
  have HL := Lib.hid hl
  have HT := Lib.hid ht
  have HQ := Lib.hid hq
  have HC := Lib.hid hc
  obtain ⟨p0, p1⟩ := pbd ht
  obtain ⟨q0, q1⟩ := pbd hq
  have HV := Lib.hid hv
  clear he hl ht hq hc hv
  go_enter Tryd.func39, Tryd.ntmps39
  go_wp2_with fail
  have fr := numFr_new w 0 0 41
  have hB := (Below.refl w.heap.size w).alloc (Nat.le_refl _) (.cells #[.int .i64 0, .int .i64 0] 41)
  generalize w.alloc (.cells #[.int .i64 0, .int .i64 0] 41) = W0 at fr hB ⊢
  refine (cut_any s ⟨#[47]⟩ _ (HE.out.toEnv.below hB) hs top bot false HC.out).mono ?_; rintro e w1 ⟨rfl, n, rfl⟩
  replace fr := fr.below (below_drewN (Below.refl _ W0) n)
  replace hB := below_drewN hB n
  generalize W0.drewN n = W1 at fr hB ⊢
  clear W0
  go_wp2_with fail
  refine (pint_ok top HL.out.1 p HT.out _).mono ?_; rintro e w' ⟨rfl, hb1⟩; replace fr := fr.below hb1; replace hB := hB.trans (hb1.mono hB.size); clear hb1
  go_wp2_with fail
  refine (pint_ok [49] (by decide) q HQ.out _).mono ?_; rintro e w' ⟨rfl, hb1⟩; replace fr := fr.below hb1; replace hB := hB.trans (hb1.mono hB.size); clear hb1
  go_wp2_with fail
  have hlt := fr.lt
  have fa := numFr_new w' p q 41
  replace fr := fr.alloc (.cells #[.int .i64 p, .int .i64 q] 41)
  replace hB := hB.alloc hB.size (.cells #[.int .i64 p, .int .i64 q] 41)
  generalize w'.alloc (.cells #[.int .i64 p, .int .i64 q] 41) = W2 at fr fa hB ⊢
  obtain ⟨ba, hba⟩ : ∃ ba, ba = w'.heap.size := ⟨_, rfl⟩
  rw [← hba] at fa hlt ⊢
  clear hba
  refine (text_any p q _ (HE.out.toEnv.below hB) p0 p1 q0 q1).mono ?_; rintro e w3 ⟨rfl, hb1⟩; replace fr := fr.below hb1; replace fa := fa.below hb1; replace hB := hB.trans (hb1.mono hB.size); clear hb1
  rw [HV.out, txtV, if_neg (by decide)]
  have hsb := hB.size
  obtain ⟨⟨c0, c1, cl⟩, c2, c3⟩ := id fr
  go_wp2_with fail
  exact bodyPost_ret (v := numV 0 0 30) (by simp [results, Tryd.results39, go_sem, numV, c0, c1, cl, c2, c3]) rfl ⟨rfl, (hB.setCell (p := ⟨w.heap.size, 0, none⟩) (Nat.le_refl _) _).setCell (p := ⟨w.heap.size, 1, none⟩) (Nat.le_refl _) _⟩

set_option maxRecDepth 100000 in
set_option maxHeartbeats 1600000 in
theorem parse_f_ne (s : ByteArray) (w : World) (he : Env5 w) (hs : s.size ≤ 10000) (top bot : List UInt8) (hc : Lib.cut s.data.toList [47] = (top, bot, false)) (hl : top.length ≤ 10000 ∧ bot.length ≤ 10000) (p : Int) (ht : Lib.parseIntB 64 top = .ok p) (q : Int) (hq : Lib.parseIntB 64 [49] = .ok q) (hv : Nm.vld p q = true) (hne : txt p q ≠ s.data.toList) :
    Calls Tryd.prog 39 #[.string s] w fun e w' => e = .returned (numV 0 0 30) ∧ Below w.heap.size w w' := by
  have HE := Lib.hid he
  have HL := Lib.hid hl
  have HT := Lib.hid ht
  have HQ := Lib.hid hq
  have HC := Lib.hid hc
  obtain ⟨p0, p1⟩ := pbd ht
  obtain ⟨q0, q1⟩ := pbd hq
  have HV := Lib.hid hv
  have HNE := Lib.hid hne
  clear hne
  clear he hl ht hq hc hv
  go_enter Tryd.func39, Tryd.ntmps39
  go_wp2_with fail
  have fr := numFr_new w 0 0 41
  have hB := (Below.refl w.heap.size w).alloc (Nat.le_refl _) (.cells #[.int .i64 0, .int .i64 0] 41)
  generalize w.alloc (.cells #[.int .i64 0, .int .i64 0] 41) = W0 at fr hB ⊢
  refine (cut_any s ⟨#[47]⟩ _ (HE.out.toEnv.below hB) hs top bot false HC.out).mono ?_; rintro e w1 ⟨rfl, n, rfl⟩
  replace fr := fr.below (below_drewN (Below.refl _ W0) n)
  replace hB := below_drewN hB n
  generalize W0.drewN n = W1 at fr hB ⊢
  clear W0
  go_wp2_with fail
  refine (pint_ok top HL.out.1 p HT.out _).mono ?_; rintro e w' ⟨rfl, hb1⟩; replace fr := fr.below hb1; replace hB := hB.trans (hb1.mono hB.size); clear hb1
  go_wp2_with fail
  refine (pint_ok [49] (by decide) q HQ.out _).mono ?_; rintro e w' ⟨rfl, hb1⟩; replace fr := fr.below hb1; replace hB := hB.trans (hb1.mono hB.size); clear hb1
  go_wp2_with fail
  have hlt := fr.lt
  have fa := numFr_new w' p q 41
  replace fr := fr.alloc (.cells #[.int .i64 p, .int .i64 q] 41)
  replace hB := hB.alloc hB.size (.cells #[.int .i64 p, .int .i64 q] 41)
  generalize w'.alloc (.cells #[.int .i64 p, .int .i64 q] 41) = W2 at fr fa hB ⊢
  obtain ⟨ba, hba⟩ : ∃ ba, ba = w'.heap.size := ⟨_, rfl⟩
  rw [← hba] at fa hlt ⊢
  clear hba
  refine (text_ok p q _ (HE.out.toEnv.below hB) HV.out).mono ?_; rintro e w3 ⟨rfl, hb1⟩; replace fr := fr.below hb1; replace fa := fa.below hb1; replace hB := hB.trans (hb1.mono hB.size); clear hb1
  obtain ⟨T, hT⟩ : ∃ T : ByteArray, T = ⟨(txt p q).toArray⟩ := ⟨_, rfl⟩
  have hTs : (T.toList == s.toList) = false := by
    rw [beq_eq_false_iff_ne, hT, Lib.toList_data, Lib.toList_data]
    exact HNE.out
  have hTn : (T.toList != s.toList) = true := by simp [bne, hTs]
  rw [← hT]
  clear hT
  have hsb := hB.size
  obtain ⟨⟨c0, c1, cl⟩, c2, c3⟩ := id fr
  go_wp2_with fail
  exact bodyPost_ret (v := numV 0 0 30) (by simp [results, Tryd.results39, go_sem, numV, c0, c1, cl, c2, c3]) rfl ⟨rfl, (hB.setCell (p := ⟨w.heap.size, 0, none⟩) (Nat.le_refl _) _).setCell (p := ⟨w.heap.size, 1, none⟩) (Nat.le_refl _) _⟩

set_option maxRecDepth 100000 in
set_option maxHeartbeats 1600000 in
theorem parse_f_eq (s : ByteArray) (w : World) (he : Env5 w) (hs : s.size ≤ 10000) (top bot : List UInt8) (hc : Lib.cut s.data.toList [47] = (top, bot, false)) (hl : top.length ≤ 10000 ∧ bot.length ≤ 10000) (p : Int) (ht : Lib.parseIntB 64 top = .ok p) (q : Int) (hq : Lib.parseIntB 64 [49] = .ok q) (hv : Nm.vld p q = true) (hne : txt p q = s.data.toList) :
    Calls Tryd.prog 39 #[.string s] w fun e w' => e = .returned (numV p q 0) ∧ Below w.heap.size w w' := by
  have HE := Lib.hid he
  have HL := Lib.hid hl
  have HT := Lib.hid ht
  have HQ := Lib.hid hq
  have HC := Lib.hid hc
  obtain ⟨p0, p1⟩ := pbd ht
  obtain ⟨q0, q1⟩ := pbd hq
  have HV := Lib.hid hv
  have HNE := Lib.hid hne
  clear hne
  clear he hl ht hq hc hv
  go_enter Tryd.func39, Tryd.ntmps39
  go_wp2_with fail
  have fr := numFr_new w 0 0 41
  have hB := (Below.refl w.heap.size w).alloc (Nat.le_refl _) (.cells #[.int .i64 0, .int .i64 0] 41)
  generalize w.alloc (.cells #[.int .i64 0, .int .i64 0] 41) = W0 at fr hB ⊢
  refine (cut_any s ⟨#[47]⟩ _ (HE.out.toEnv.below hB) hs top bot false HC.out).mono ?_; rintro e w1 ⟨rfl, n, rfl⟩
  replace fr := fr.below (below_drewN (Below.refl _ W0) n)
  replace hB := below_drewN hB n
  generalize W0.drewN n = W1 at fr hB ⊢
  clear W0
  go_wp2_with fail
  refine (pint_ok top HL.out.1 p HT.out _).mono ?_; rintro e w' ⟨rfl, hb1⟩; replace fr := fr.below hb1; replace hB := hB.trans (hb1.mono hB.size); clear hb1
  go_wp2_with fail
  refine (pint_ok [49] (by decide) q HQ.out _).mono ?_; rintro e w' ⟨rfl, hb1⟩; replace fr := fr.below hb1; replace hB := hB.trans (hb1.mono hB.size); clear hb1
  go_wp2_with fail
  have hlt := fr.lt
  have fa := numFr_new w' p q 41
  replace fr := fr.alloc (.cells #[.int .i64 p, .int .i64 q] 41)
  replace hB := hB.alloc hB.size (.cells #[.int .i64 p, .int .i64 q] 41)
  generalize w'.alloc (.cells #[.int .i64 p, .int .i64 q] 41) = W2 at fr fa hB ⊢
  obtain ⟨ba, hba⟩ : ∃ ba, ba = w'.heap.size := ⟨_, rfl⟩
  rw [← hba] at fa hlt ⊢
  clear hba
  refine (text_ok p q _ (HE.out.toEnv.below hB) HV.out).mono ?_; rintro e w3 ⟨rfl, hb1⟩; replace fr := fr.below hb1; replace fa := fa.below hb1; replace hB := hB.trans (hb1.mono hB.size); clear hb1
  rw [show (⟨(txt p q).toArray⟩ : ByteArray) = s by rw [HNE.out]]
  have hsb := hB.size
  obtain ⟨⟨c0, c1, cl⟩, c2, c3⟩ := id fr
  obtain ⟨⟨a0, a1, al⟩, a2, a3⟩ := id fa
  go_wp2_with fail
  exact bodyPost_ret (v := numV p q 0) (by simp [results, Tryd.results39, go_sem, numV, c0, c1, cl, c2, c3]) rfl ⟨rfl, (hB.setCell (p := ⟨w.heap.size, 0, none⟩) (Nat.le_refl _) _).setCell (p := ⟨w.heap.size, 1, none⟩) (Nat.le_refl _) _⟩

set_option maxRecDepth 100000 in
set_option maxHeartbeats 1600000 in
theorem parse_t_inv (s : ByteArray) (w : World) (he : Env5 w) (hs : s.size ≤ 10000) (top bot : List UInt8) (hc : Lib.cut s.data.toList [47] = (top, bot, true)) (hl : top.length ≤ 10000 ∧ bot.length ≤ 10000) (p : Int) (ht : Lib.parseIntB 64 top = .ok p) (q : Int) (hq : Lib.parseIntB 64 bot = .ok q) (hv : Nm.vld p q = false) :
    Calls Tryd.prog 39 #[.string s] w fun e w' => e = .returned (numV 0 0 30) ∧ Below w.heap.size w w' := by
  have HE := Lib.hid he
  have HL := Lib.hid hl
  have HT := Lib.hid ht
  have HQ := Lib.hid hq
  have HC := Lib.hid hc
  obtain ⟨p0, p1⟩ := pbd ht
  obtain ⟨q0, q1⟩ := pbd hq
  have HV := Lib.hid hv
  clear he hl ht hq hc hv
  go_enter Tryd.func39, Tryd.ntmps39
  go_wp2_with fail
  have fr := numFr_new w 0 0 41
  have hB := (Below.refl w.heap.size w).alloc (Nat.le_refl _) (.cells #[.int .i64 0, .int .i64 0] 41)
  generalize w.alloc (.cells #[.int .i64 0, .int .i64 0] 41) = W0 at fr hB ⊢
  refine (cut_any s ⟨#[47]⟩ _ (HE.out.toEnv.below hB) hs top bot true HC.out).mono ?_; rintro e w1 ⟨rfl, n, rfl⟩
  replace fr := fr.below (below_drewN (Below.refl _ W0) n)
  replace hB := below_drewN hB n
  generalize W0.drewN n = W1 at fr hB ⊢
  clear W0
  go_wp2_with fail
  refine (pint_ok top HL.out.1 p HT.out _).mono ?_; rintro e w' ⟨rfl, hb1⟩; replace fr := fr.below hb1; replace hB := hB.trans (hb1.mono hB.size); clear hb1
  go_wp2_with fail
  refine (pint_ok bot HL.out.2 q HQ.out _).mono ?_; rintro e w' ⟨rfl, hb1⟩; replace fr := fr.below hb1; replace hB := hB.trans (hb1.mono hB.size); clear hb1
  go_wp2_with fail
  have hlt := fr.lt
  have fa := numFr_new w' p q 41
  replace fr := fr.alloc (.cells #[.int .i64 p, .int .i64 q] 41)
  replace hB := hB.alloc hB.size (.cells #[.int .i64 p, .int .i64 q] 41)
  generalize w'.alloc (.cells #[.int .i64 p, .int .i64 q] 41) = W2 at fr fa hB ⊢
  obtain ⟨ba, hba⟩ : ∃ ba, ba = w'.heap.size := ⟨_, rfl⟩
  rw [← hba] at fa hlt ⊢
  clear hba
  refine (text_any p q _ (HE.out.toEnv.below hB) p0 p1 q0 q1).mono ?_; rintro e w3 ⟨rfl, hb1⟩; replace fr := fr.below hb1; replace fa := fa.below hb1; replace hB := hB.trans (hb1.mono hB.size); clear hb1
  rw [HV.out, txtV, if_neg (by decide)]
  have hsb := hB.size
  obtain ⟨⟨c0, c1, cl⟩, c2, c3⟩ := id fr
  go_wp2_with fail
  exact bodyPost_ret (v := numV 0 0 30) (by simp [results, Tryd.results39, go_sem, numV, c0, c1, cl, c2, c3]) rfl ⟨rfl, (hB.setCell (p := ⟨w.heap.size, 0, none⟩) (Nat.le_refl _) _).setCell (p := ⟨w.heap.size, 1, none⟩) (Nat.le_refl _) _⟩

set_option maxRecDepth 100000 in
set_option maxHeartbeats 1600000 in
theorem parse_t_ne (s : ByteArray) (w : World) (he : Env5 w) (hs : s.size ≤ 10000) (top bot : List UInt8) (hc : Lib.cut s.data.toList [47] = (top, bot, true)) (hl : top.length ≤ 10000 ∧ bot.length ≤ 10000) (p : Int) (ht : Lib.parseIntB 64 top = .ok p) (q : Int) (hq : Lib.parseIntB 64 bot = .ok q) (hv : Nm.vld p q = true) (hne : txt p q ≠ s.data.toList) :
    Calls Tryd.prog 39 #[.string s] w fun e w' => e = .returned (numV 0 0 30) ∧ Below w.heap.size w w' := by
  have HE := Lib.hid he
  have HL := Lib.hid hl
  have HT := Lib.hid ht
  have HQ := Lib.hid hq
  have HC := Lib.hid hc
  obtain ⟨p0, p1⟩ := pbd ht
  obtain ⟨q0, q1⟩ := pbd hq
  have HV := Lib.hid hv
  have HNE := Lib.hid hne
  clear hne
  clear he hl ht hq hc hv
  go_enter Tryd.func39, Tryd.ntmps39
  go_wp2_with fail
  have fr := numFr_new w 0 0 41
  have hB := (Below.refl w.heap.size w).alloc (Nat.le_refl _) (.cells #[.int .i64 0, .int .i64 0] 41)
  generalize w.alloc (.cells #[.int .i64 0, .int .i64 0] 41) = W0 at fr hB ⊢
  refine (cut_any s ⟨#[47]⟩ _ (HE.out.toEnv.below hB) hs top bot true HC.out).mono ?_; rintro e w1 ⟨rfl, n, rfl⟩
  replace fr := fr.below (below_drewN (Below.refl _ W0) n)
  replace hB := below_drewN hB n
  generalize W0.drewN n = W1 at fr hB ⊢
  clear W0
  go_wp2_with fail
  refine (pint_ok top HL.out.1 p HT.out _).mono ?_; rintro e w' ⟨rfl, hb1⟩; replace fr := fr.below hb1; replace hB := hB.trans (hb1.mono hB.size); clear hb1
  go_wp2_with fail
  refine (pint_ok bot HL.out.2 q HQ.out _).mono ?_; rintro e w' ⟨rfl, hb1⟩; replace fr := fr.below hb1; replace hB := hB.trans (hb1.mono hB.size); clear hb1
  go_wp2_with fail
  have hlt := fr.lt
  have fa := numFr_new w' p q 41
  replace fr := fr.alloc (.cells #[.int .i64 p, .int .i64 q] 41)
  replace hB := hB.alloc hB.size (.cells #[.int .i64 p, .int .i64 q] 41)
  generalize w'.alloc (.cells #[.int .i64 p, .int .i64 q] 41) = W2 at fr fa hB ⊢
  obtain ⟨ba, hba⟩ : ∃ ba, ba = w'.heap.size := ⟨_, rfl⟩
  rw [← hba] at fa hlt ⊢
  clear hba
  refine (text_ok p q _ (HE.out.toEnv.below hB) HV.out).mono ?_; rintro e w3 ⟨rfl, hb1⟩; replace fr := fr.below hb1; replace fa := fa.below hb1; replace hB := hB.trans (hb1.mono hB.size); clear hb1
  obtain ⟨T, hT⟩ : ∃ T : ByteArray, T = ⟨(txt p q).toArray⟩ := ⟨_, rfl⟩
  have hTs : (T.toList == s.toList) = false := by
    rw [beq_eq_false_iff_ne, hT, Lib.toList_data, Lib.toList_data]
    exact HNE.out
  have hTn : (T.toList != s.toList) = true := by simp [bne, hTs]
  rw [← hT]
  clear hT
  have hsb := hB.size
  obtain ⟨⟨c0, c1, cl⟩, c2, c3⟩ := id fr
  go_wp2_with fail
  exact bodyPost_ret (v := numV 0 0 30) (by simp [results, Tryd.results39, go_sem, numV, c0, c1, cl, c2, c3]) rfl ⟨rfl, (hB.setCell (p := ⟨w.heap.size, 0, none⟩) (Nat.le_refl _) _).setCell (p := ⟨w.heap.size, 1, none⟩) (Nat.le_refl _) _⟩

set_option maxRecDepth 100000 in
set_option maxHeartbeats 1600000 in
theorem parse_t_eq (s : ByteArray) (w : World) (he : Env5 w) (hs : s.size ≤ 10000) (top bot : List UInt8) (hc : Lib.cut s.data.toList [47] = (top, bot, true)) (hl : top.length ≤ 10000 ∧ bot.length ≤ 10000) (p : Int) (ht : Lib.parseIntB 64 top = .ok p) (q : Int) (hq : Lib.parseIntB 64 bot = .ok q) (hv : Nm.vld p q = true) (hne : txt p q = s.data.toList) :
    Calls Tryd.prog 39 #[.string s] w fun e w' => e = .returned (numV p q 0) ∧ Below w.heap.size w w' := by
  have HE := Lib.hid he
  have HL := Lib.hid hl
  have HT := Lib.hid ht
  have HQ := Lib.hid hq
  have HC := Lib.hid hc
  obtain ⟨p0, p1⟩ := pbd ht
  obtain ⟨q0, q1⟩ := pbd hq
  have HV := Lib.hid hv
  have HNE := Lib.hid hne
  clear hne
  clear he hl ht hq hc hv
  go_enter Tryd.func39, Tryd.ntmps39
  go_wp2_with fail
  have fr := numFr_new w 0 0 41
  have hB := (Below.refl w.heap.size w).alloc (Nat.le_refl _) (.cells #[.int .i64 0, .int .i64 0] 41)
  generalize w.alloc (.cells #[.int .i64 0, .int .i64 0] 41) = W0 at fr hB ⊢
  refine (cut_any s ⟨#[47]⟩ _ (HE.out.toEnv.below hB) hs top bot true HC.out).mono ?_; rintro e w1 ⟨rfl, n, rfl⟩
  replace fr := fr.below (below_drewN (Below.refl _ W0) n)
  replace hB := below_drewN hB n
  generalize W0.drewN n = W1 at fr hB ⊢
  clear W0
  go_wp2_with fail
  refine (pint_ok top HL.out.1 p HT.out _).mono ?_; rintro e w' ⟨rfl, hb1⟩; replace fr := fr.below hb1; replace hB := hB.trans (hb1.mono hB.size); clear hb1
  go_wp2_with fail
  refine (pint_ok bot HL.out.2 q HQ.out _).mono ?_; rintro e w' ⟨rfl, hb1⟩; replace fr := fr.below hb1; replace hB := hB.trans (hb1.mono hB.size); clear hb1
  go_wp2_with fail
  have hlt := fr.lt
  have fa := numFr_new w' p q 41
  replace fr := fr.alloc (.cells #[.int .i64 p, .int .i64 q] 41)
  replace hB := hB.alloc hB.size (.cells #[.int .i64 p, .int .i64 q] 41)
  generalize w'.alloc (.cells #[.int .i64 p, .int .i64 q] 41) = W2 at fr fa hB ⊢
  obtain ⟨ba, hba⟩ : ∃ ba, ba = w'.heap.size := ⟨_, rfl⟩
  rw [← hba] at fa hlt ⊢
  clear hba
  refine (text_ok p q _ (HE.out.toEnv.below hB) HV.out).mono ?_; rintro e w3 ⟨rfl, hb1⟩; replace fr := fr.below hb1; replace fa := fa.below hb1; replace hB := hB.trans (hb1.mono hB.size); clear hb1
  rw [show (⟨(txt p q).toArray⟩ : ByteArray) = s by rw [HNE.out]]
  have hsb := hB.size
  obtain ⟨⟨c0, c1, cl⟩, c2, c3⟩ := id fr
  obtain ⟨⟨a0, a1, al⟩, a2, a3⟩ := id fa
  go_wp2_with fail
  exact bodyPost_ret (v := numV p q 0) (by simp [results, Tryd.results39, go_sem, numV, c0, c1, cl, c2, c3]) rfl ⟨rfl, (hB.setCell (p := ⟨w.heap.size, 0, none⟩) (Nat.le_refl _) _).setCell (p := ⟨w.heap.size, 1, none⟩) (Nat.le_refl _) _⟩

end Go.Proofs.YtanhomngnickfaaDoor
