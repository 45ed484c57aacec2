/-
  Contracts of package fix: Parse.
-/
-- LAW 02
import Derived.Test.YtanhomngnickfaaDoorFxH
import Derived.Deep.DeepCutAuto
namespace Go.Proofs.YtanhomngnickfaaDoor
open Go.RowKit

theorem below_dn (w : World) (n : Nat) : Below w.heap.size w (w.drewN n) := below_drewN (Below.refl _ _) n

/-- The parts of a string, and what is read of them. -/
structure Parts (l : List UInt8) (neg : Bool) (r wh pt : List UInt8) (pd : Bool) : Prop where
  tp : Lib.trimPrefix l [45] = r
  hp : Lib.hasPrefix l [45] = neg
  ct : Lib.cut r [46] = (wh, pt, pd)
theorem Parts.paE {l : List UInt8} {neg : Bool} {r wh pt : List UInt8} {pd : Bool} (h : Parts l neg r wh pt pd) : Fx.paE l = if Fx.prOk wh pt pd = true then Fx.tolE (Fx.prV wh pt) else 30 := by
  unfold Fx.paE; rw [h.tp, h.ct]
theorem Parts.paN {l : List UInt8} {neg : Bool} {r wh pt : List UInt8} {pd : Bool} (h : Parts l neg r wh pt pd) : Fx.paN l = if Fx.prOk wh pt pd = true then (if neg = true then -Fx.tolN (Fx.prV wh pt) else Fx.tolN (Fx.prV wh pt)) else 0 := by
  unfold Fx.paN; rw [h.tp, h.ct, h.hp]

set_option maxRecDepth 100000 in
set_option maxHeartbeats 800000 in
/-- Where a part is no digits. -/
theorem parse_bad (s : ByteArray) (w : World) (he : Env w) (neg : Bool) (r wh pt : List UInt8) (pd : Bool) (hp : Parts s.data.toList neg r wh pt pd) (hr : (⟨r.toArray⟩ : ByteArray).size ≤ 10000) (hl : wh.length ≤ 10000 ∧ pt.length ≤ 10000) (v f : Int) (a b : Bool) (hv : Fx.natV wh = v ∧ Fx.natOk wh = a ∧ Fx.natV pt = f ∧ Fx.natOk pt = b)
    (hab : (a && b) = false) :
    Calls Tryd.prog 34 #[.string s] w fun e w' => e = .returned (.tuple #[.int .i64 0, .int .i64 30]) ∧ Below w.heap.size w w' := by
  have HE := Lib.hid he
  have HP := Lib.hid hp
  have HR := Lib.hid hr
  have HL := Lib.hid hl
  have HV := Lib.hid hv
  clear he hp hr hl hv
  cases a
  · clear hab
    (go_enter Tryd.func34, Tryd.ntmps34; go_wp2_with fail; refine (cutPrefix_any s ⟨#[45]⟩ _ r neg (HP.out.tp) (HP.out.hp)).mono ?_; rintro e w1 ⟨rfl, rfl⟩; go_wp2_with fail; refine (cut_any ⟨r.toArray⟩ ⟨#[46]⟩ _ HE.out HR.out wh pt pd (by simpa using HP.out.ct)).mono ?_; rintro e w1 ⟨rfl, n1, rfl⟩; go_wp2_with fail; refine (natural_of wh _ _ _ HL.out.1 HV.out.1 HV.out.2.1).mono ?_; rintro e w2 ⟨rfl, hb2⟩; replace hb2 := (below_dn w n1).trans (hb2.mono (below_dn w n1).size); have HB := Lib.hid hb2; clear hb2; go_wp2_with fail; refine (natural_of pt _ _ _ HL.out.2 HV.out.2.2.1 HV.out.2.2.2).mono ?_; rintro e w3 ⟨rfl, hb3⟩)
    go_wp2_with fail
    go_ret2
    exact ⟨rfl, HB.out.trans (hb3.mono HB.out.size)⟩
  · have hb0 : b = false := by simpa using hab
    subst hb0
    clear hab
    (go_enter Tryd.func34, Tryd.ntmps34; go_wp2_with fail; refine (cutPrefix_any s ⟨#[45]⟩ _ r neg (HP.out.tp) (HP.out.hp)).mono ?_; rintro e w1 ⟨rfl, rfl⟩; go_wp2_with fail; refine (cut_any ⟨r.toArray⟩ ⟨#[46]⟩ _ HE.out HR.out wh pt pd (by simpa using HP.out.ct)).mono ?_; rintro e w1 ⟨rfl, n1, rfl⟩; go_wp2_with fail; refine (natural_of wh _ _ _ HL.out.1 HV.out.1 HV.out.2.1).mono ?_; rintro e w2 ⟨rfl, hb2⟩; replace hb2 := (below_dn w n1).trans (hb2.mono (below_dn w n1).size); have HB := Lib.hid hb2; clear hb2; go_wp2_with fail; refine (natural_of pt _ _ _ HL.out.2 HV.out.2.2.1 HV.out.2.2.2).mono ?_; rintro e w3 ⟨rfl, hb3⟩)
    go_wp2_with fail
    go_ret2
    exact ⟨rfl, HB.out.trans (hb3.mono HB.out.size)⟩

set_option maxRecDepth 100000 in
set_option maxHeartbeats 800000 in
/-- Where a part that must be there is empty. -/
theorem parse_empty (s : ByteArray) (w : World) (he : Env w) (neg : Bool) (r wh pt : List UInt8) (pd : Bool) (hp : Parts s.data.toList neg r wh pt pd) (hr : (⟨r.toArray⟩ : ByteArray).size ≤ 10000) (hl : wh.length ≤ 10000 ∧ pt.length ≤ 10000) (v f : Int) (a b : Bool) (hv : Fx.natV wh = v ∧ Fx.natOk wh = a ∧ Fx.natV pt = f ∧ Fx.natOk pt = b)
    (ha : a = true) (hb : b = true) (hpd : pd = true ∧ pt = [] ∨ pd = false ∧ wh = []) :
    Calls Tryd.prog 34 #[.string s] w fun e w' => e = .returned (.tuple #[.int .i64 0, .int .i64 30]) ∧ Below w.heap.size w w' := by
  have HE := Lib.hid he
  have HP := Lib.hid hp
  have HR := Lib.hid hr
  have HL := Lib.hid hl
  have HV := Lib.hid hv
  clear he hp hr hl hv
  subst ha hb
  rcases hpd with ⟨rfl, rfl⟩ | ⟨rfl, rfl⟩
  · go_enter Tryd.func34, Tryd.ntmps34
    go_wp2_with fail
    refine (cutPrefix_any s ⟨#[45]⟩ _ r neg (HP.out.tp) (HP.out.hp)).mono ?_; rintro e w1 ⟨rfl, rfl⟩
    go_wp2_with fail
    refine (cut_any ⟨r.toArray⟩ ⟨#[46]⟩ _ HE.out HR.out wh [] true (by simpa using HP.out.ct)).mono ?_; rintro e w1 ⟨rfl, n1, rfl⟩
    go_wp2_with fail
    refine (natural_of wh _ v true HL.out.1 HV.out.1 HV.out.2.1).mono ?_; rintro e w2 ⟨rfl, hb2⟩; replace hb2 := (below_dn w n1).trans (hb2.mono (below_dn w n1).size); have HB := Lib.hid hb2; clear hb2
    go_wp2_with fail
    refine (natural_of [] _ f true HL.out.2 HV.out.2.2.1 HV.out.2.2.2).mono ?_; rintro e w3 ⟨rfl, hb3⟩
    go_wp2_with fail
    go_ret2
    exact ⟨rfl, HB.out.trans (hb3.mono HB.out.size)⟩
  · go_enter Tryd.func34, Tryd.ntmps34
    go_wp2_with fail
    refine (cutPrefix_any s ⟨#[45]⟩ _ r neg (HP.out.tp) (HP.out.hp)).mono ?_; rintro e w1 ⟨rfl, rfl⟩
    go_wp2_with fail
    refine (cut_any ⟨r.toArray⟩ ⟨#[46]⟩ _ HE.out HR.out [] pt false (by simpa using HP.out.ct)).mono ?_; rintro e w1 ⟨rfl, n1, rfl⟩
    go_wp2_with fail
    refine (natural_of [] _ v true HL.out.1 HV.out.1 HV.out.2.1).mono ?_; rintro e w2 ⟨rfl, hb2⟩; replace hb2 := (below_dn w n1).trans (hb2.mono (below_dn w n1).size); have HB := Lib.hid hb2; clear hb2
    go_wp2_with fail
    refine (natural_of pt _ f true HL.out.2 HV.out.2.2.1 HV.out.2.2.2).mono ?_; rintro e w3 ⟨rfl, hb3⟩
    go_wp2_with fail
    go_ret2
    exact ⟨rfl, HB.out.trans (hb3.mono HB.out.size)⟩

set_option maxRecDepth 100000 in
set_option maxHeartbeats 1600000 in
/-- Where both parts are as they must be. -/
theorem parse_good (s : ByteArray) (w : World) (he : Env w) (neg : Bool) (r wh pt : List UInt8) (pd : Bool) (hp : Parts s.data.toList neg r wh pt pd) (hr : (⟨r.toArray⟩ : ByteArray).size ≤ 10000) (hl : wh.length ≤ 10000 ∧ pt.length ≤ 10000) (v f : Int) (a b : Bool) (hv : Fx.natV wh = v ∧ Fx.natOk wh = a ∧ Fx.natV pt = f ∧ Fx.natOk pt = b)
    (ha : a = true) (hb : b = true) (hpt : pd = true → pt.isEmpty = false) (hwh : pd = false → wh.isEmpty = false) (X E ng : Int) (hng : ng = if neg = true then -Fx.tolN (Fx.prV wh pt) else Fx.tolN (Fx.prV wh pt)) (hres : X = ng ∧ E = Fx.tolE (Fx.prV wh pt)) :
    Calls Tryd.prog 34 #[.string s] w fun e w' => e = .returned (.tuple #[.int .i64 X, .int .i64 E]) ∧ Below w.heap.size w w' := by
  have l9 := (Fx.natOk_len pt (by rw [hv.2.2.2, hb])).1
  have ZB := Fx.prV_bd wh pt l9
  obtain ⟨f0, f1⟩ := Fx.natV_bd pt
  obtain ⟨v0, v1⟩ := Fx.natV_bd wh
  rw [hv.2.2.1] at f0 f1
  rw [hv.1] at v0 v1
  have F1 : Hid (Fx.natV wh = v) := hv.1
  have F2 : Hid (Fx.natV pt = f) := hv.2.2.1
  have HE := Lib.hid he
  have HP := Lib.hid hp
  have HR := Lib.hid hr
  have HL := Lib.hid hl
  have HV := Lib.hid hv
  have HNG := Lib.hid hng
  have HRES := Lib.hid hres
  have e1 : (⟨pt.toArray⟩ : ByteArray).toList = pt := by rw [Lib.toList_data]
  have e2 : (⟨wh.toArray⟩ : ByteArray).toList = wh := by rw [Lib.toList_data]
  subst ha hb
  clear he hp hr hl hv hng hres
  cases pd
  · have hwe := hwh rfl
    have hwe2 : (⟨wh.toArray⟩ : ByteArray).toList.isEmpty = false := by rw [e2]; exact hwe
    clear hpt hwh
    go_enter Tryd.func34, Tryd.ntmps34
    go_wp2_with fail
    refine (cutPrefix_any s ⟨#[45]⟩ _ r neg (HP.out.tp) (HP.out.hp)).mono ?_; rintro e w1 ⟨rfl, rfl⟩
    go_wp2_with fail
    refine (cut_any ⟨r.toArray⟩ ⟨#[46]⟩ _ HE.out HR.out wh pt false (by simpa using HP.out.ct)).mono ?_; rintro e w1 ⟨rfl, n1, rfl⟩
    go_wp2_with fail
    refine (natural_of wh _ v true HL.out.1 HV.out.1 HV.out.2.1).mono ?_; rintro e w2 ⟨rfl, hb2⟩; replace hb2 := (below_dn w n1).trans (hb2.mono (below_dn w n1).size); have HB := Lib.hid hb2; clear hb2
    go_wp2_with fail
    refine (natural_of pt _ f true HL.out.2 HV.out.2.2.1 HV.out.2.2.2).mono ?_; rintro e w3 ⟨rfl, hb3⟩
    go_wp2_with fail
    go_loop [60, 13] (fun vi vq => ∃ (k : Nat) (q : Int), vi = .int .i64 k ∧ vq = .int .i64 q ∧ k ≤ pt.length ∧ Hid (q = 10 ^ k) ∧ 1 ≤ q ∧ q ≤ 1000000000) (fun vi _ => pt.length - (intOf vi).toNat)
    case atStart => exact ⟨0, 1, rfl, rfl, by omega, rfl, by omega, by omega⟩
    case round =>
      obtain ⟨k, q, rfl, rfl, hk, hq, q0, q1⟩ := hrel
      by_cases hkn : k < pt.length
      · have hnx := Fx.p10n (k + 1) (by omega)
        have hq2 : q * 10 = 10 ^ (k + 1) := by rw [hq.out, Int.pow_succ]
        have HQ := Lib.hid hq2
        have q2 : q * 10 ≤ 1000000000 := by rw [hq2]; exact hnx.2
        clear hnx hq2
        go_wp2_with fail
        exact ⟨⟨k + 1, q * 10, by go_num, by first | rfl | go_num, by omega, HQ, by omega, q2⟩, by simp [intOf]; omega⟩
      · have HQ : Hid (q = 10 ^ pt.length) := by rw [hq.out, show k = pt.length by omega]; rfl
        have HR : Hid (Fx.rnd (65536 * f) q = Fx.rnd (65536 * Fx.natV pt) (10 ^ pt.length)) := by
          show _ = _
          rw [HQ.out, F2.out]
        have HVV : Hid (65536 * v + Fx.rnd (65536 * f) q = Fx.prV wh pt) := by
          show _ = _
          rw [HR.out, ← F1.out]; rfl
        obtain ⟨z1, z2, z3, z4⟩ := ZB
        rw [← HR.out] at z1 z2
        clear hq
        go_wp2_with fail
        refine (units_any f q _ f0 f1 (by omega) (by omega)).mono ?_; rintro e w3 ⟨rfl, rfl⟩
        go_wp2_with fail
        rw [HVV.out]
        refine (bounded_any (Fx.prV wh pt) _).mono ?_; rintro e w4 ⟨rfl, hb4⟩
        have t := Fx.tolN_bd (Fx.prV wh pt)
        obtain ⟨t0, t1⟩ := t
        cases neg
        · go_wp2_with fail
          go_ret2
          exact ⟨ret_two (by rw [HRES.out.1, HNG.out]; rfl) HRES.out.2.symm, (HB.out.trans (hb3.mono HB.out.size)).trans (hb4.mono (Nat.le_trans HB.out.size hb3.size))⟩
        · go_wp2_with fail
          go_ret2
          exact ⟨ret_two (by rw [HRES.out.1, HNG.out]; rfl) HRES.out.2.symm, (HB.out.trans (hb3.mono HB.out.size)).trans (hb4.mono (Nat.le_trans HB.out.size hb3.size))⟩
  · have hpe := hpt rfl
    have hpe2 : (⟨pt.toArray⟩ : ByteArray).toList.isEmpty = false := by rw [e1]; exact hpe
    clear hpt hwh
    go_enter Tryd.func34, Tryd.ntmps34
    go_wp2_with fail
    refine (cutPrefix_any s ⟨#[45]⟩ _ r neg (HP.out.tp) (HP.out.hp)).mono ?_; rintro e w1 ⟨rfl, rfl⟩
    go_wp2_with fail
    refine (cut_any ⟨r.toArray⟩ ⟨#[46]⟩ _ HE.out HR.out wh pt true (by simpa using HP.out.ct)).mono ?_; rintro e w1 ⟨rfl, n1, rfl⟩
    go_wp2_with fail
    refine (natural_of wh _ v true HL.out.1 HV.out.1 HV.out.2.1).mono ?_; rintro e w2 ⟨rfl, hb2⟩; replace hb2 := (below_dn w n1).trans (hb2.mono (below_dn w n1).size); have HB := Lib.hid hb2; clear hb2
    go_wp2_with fail
    refine (natural_of pt _ f true HL.out.2 HV.out.2.2.1 HV.out.2.2.2).mono ?_; rintro e w3 ⟨rfl, hb3⟩
    go_wp2_with fail
    go_loop [60, 13] (fun vi vq => ∃ (k : Nat) (q : Int), vi = .int .i64 k ∧ vq = .int .i64 q ∧ k ≤ pt.length ∧ Hid (q = 10 ^ k) ∧ 1 ≤ q ∧ q ≤ 1000000000) (fun vi _ => pt.length - (intOf vi).toNat)
    case atStart => exact ⟨0, 1, rfl, rfl, by omega, rfl, by omega, by omega⟩
    case round =>
      obtain ⟨k, q, rfl, rfl, hk, hq, q0, q1⟩ := hrel
      by_cases hkn : k < pt.length
      · have hnx := Fx.p10n (k + 1) (by omega)
        have hq2 : q * 10 = 10 ^ (k + 1) := by rw [hq.out, Int.pow_succ]
        have HQ := Lib.hid hq2
        have q2 : q * 10 ≤ 1000000000 := by rw [hq2]; exact hnx.2
        clear hnx hq2
        go_wp2_with fail
        exact ⟨⟨k + 1, q * 10, by go_num, by first | rfl | go_num, by omega, HQ, by omega, q2⟩, by simp [intOf]; omega⟩
      · have HQ : Hid (q = 10 ^ pt.length) := by rw [hq.out, show k = pt.length by omega]; rfl
        have HR : Hid (Fx.rnd (65536 * f) q = Fx.rnd (65536 * Fx.natV pt) (10 ^ pt.length)) := by
          show _ = _
          rw [HQ.out, F2.out]
        have HVV : Hid (65536 * v + Fx.rnd (65536 * f) q = Fx.prV wh pt) := by
          show _ = _
          rw [HR.out, ← F1.out]; rfl
        obtain ⟨z1, z2, z3, z4⟩ := ZB
        rw [← HR.out] at z1 z2
        clear hq
        go_wp2_with fail
        refine (units_any f q _ f0 f1 (by omega) (by omega)).mono ?_; rintro e w3 ⟨rfl, rfl⟩
        go_wp2_with fail
        rw [HVV.out]
        refine (bounded_any (Fx.prV wh pt) _).mono ?_; rintro e w4 ⟨rfl, hb4⟩
        have t := Fx.tolN_bd (Fx.prV wh pt)
        obtain ⟨t0, t1⟩ := t
        cases neg
        · go_wp2_with fail
          go_ret2
          exact ⟨ret_two (by rw [HRES.out.1, HNG.out]; rfl) HRES.out.2.symm, (HB.out.trans (hb3.mono HB.out.size)).trans (hb4.mono (Nat.le_trans HB.out.size hb3.size))⟩
        · go_wp2_with fail
          go_ret2
          exact ⟨ret_two (by rw [HRES.out.1, HNG.out]; rfl) HRES.out.2.symm, (HB.out.trans (hb3.mono HB.out.size)).trans (hb4.mono (Nat.le_trans HB.out.size hb3.size))⟩


theorem trim_len (l p : List UInt8) : (Lib.trimPrefix l p).length ≤ l.length := by
  unfold Lib.trimPrefix
  split
  · simp
  · exact Nat.le_refl _
theorem cut_len (l p wh pt : List UInt8) (pd : Bool) (h : Lib.cut l p = (wh, pt, pd)) : wh.length ≤ l.length ∧ pt.length ≤ l.length := by
  unfold Lib.cut at h
  split at h <;> (simp only [Prod.mk.injEq] at h; obtain ⟨rfl, rfl, _⟩ := h)
  · simp; omega
  · simp
theorem cut_false (l p wh pt : List UInt8) (h : Lib.cut l p = (wh, pt, false)) : pt = [] := by
  unfold Lib.cut at h
  split at h
  · simp at h
  · simp only [Prod.mk.injEq] at h; exact h.2.1.symm

/-- Parse: any string. -/
theorem parse_any (s : ByteArray) (w : World) (he : Env w) (hs : s.size ≤ 10000) :
    Calls Tryd.prog 34 #[.string s] w fun e w' => e = .returned (.tuple #[.int .i64 (Fx.paN s.data.toList), .int .i64 (Fx.paE s.data.toList)]) ∧ Below w.heap.size w w' := by
  obtain ⟨neg, hn⟩ : ∃ neg, Lib.hasPrefix s.data.toList [45] = neg := ⟨_, rfl⟩
  obtain ⟨r, hr⟩ : ∃ r, Lib.trimPrefix s.data.toList [45] = r := ⟨_, rfl⟩
  obtain ⟨wh, pt, pd, hc⟩ : ∃ wh pt pd, Lib.cut r [46] = (wh, pt, pd) := ⟨_, _, _, rfl⟩
  have hp : Parts s.data.toList neg r wh pt pd := ⟨hr, hn, hc⟩
  have h1 : s.data.toList.length = s.size := by have := Lib.size_eq s; omega
  have h2 : r.length ≤ 10000 := by have := trim_len s.data.toList [45]; rw [hr] at this; omega
  have h3 : (⟨r.toArray⟩ : ByteArray).size ≤ 10000 := by rw [Lib.size_eq]; simpa using h2
  have h4 := cut_len _ _ _ _ _ hc
  have h5 : wh.length ≤ 10000 ∧ pt.length ≤ 10000 := by omega
  rw [hp.paN, hp.paE]
  cases ha : Fx.natOk wh
  · have e : Fx.prOk wh pt pd = false := by simp [Fx.prOk, ha]
    rw [e, if_neg (by decide), if_neg (by decide)]
    exact parse_bad s w he neg r wh pt pd hp h3 h5 _ _ false _ ⟨rfl, ha, rfl, rfl⟩ rfl
  cases hb : Fx.natOk pt
  · have e : Fx.prOk wh pt pd = false := by simp [Fx.prOk, hb]
    rw [e, if_neg (by decide), if_neg (by decide)]
    exact parse_bad s w he neg r wh pt pd hp h3 h5 _ _ true false ⟨rfl, ha, rfl, hb⟩ rfl
  by_cases hbad : pd = true ∧ pt = [] ∨ pd = false ∧ wh = []
  · have e : Fx.prOk wh pt pd = false := by
      rcases hbad with ⟨rfl, rfl⟩ | ⟨rfl, rfl⟩ <;> simp [Fx.prOk]
    rw [e, if_neg (by decide), if_neg (by decide)]
    exact parse_empty s w he neg r wh pt pd hp h3 h5 _ _ _ _ ⟨rfl, ha, rfl, hb⟩ rfl rfl hbad
  · have q1 : pd = true → pt.isEmpty = false := by
      intro h; subst h
      cases pt with
      | nil => exact absurd (.inl ⟨rfl, rfl⟩) hbad
      | cons => rfl
    have q2 : pd = false → wh.isEmpty = false := by
      intro h; subst h
      cases wh with
      | nil => exact absurd (.inr ⟨rfl, rfl⟩) hbad
      | cons => rfl
    have e : Fx.prOk wh pt pd = true := by
      cases pd
      · simp [Fx.prOk, ha, hb, q2 rfl]
      · simp [Fx.prOk, ha, hb, q1 rfl]
    rw [e, if_pos rfl, if_pos rfl]
    exact parse_good s w he neg r wh pt pd hp h3 h5 _ _ _ _ ⟨rfl, ha, rfl, hb⟩ rfl rfl q1 q2 _ _ _ rfl ⟨rfl, rfl⟩
end Go.Proofs.YtanhomngnickfaaDoor
