/-
  Contract of the reference: Parse, any string.
-/
-- LAW 02
import Derived.Test.YtanhomngnickfaaDoorFxI
import Derived.Test.YtanhomngnickfaaDoorFxM
namespace Go.Proofs.YtanhomngnickfaaDoor
open Go.RowKit

theorem tolN_neg (v : Int) : Fx.tolN (-v) = -Fx.tolN v := by
  unfold Fx.tolN; rw [Fx.fxd_neg]; split <;> simp
theorem tolE_neg (v : Int) : Fx.tolE (-v) = Fx.tolE v := by
  unfold Fx.tolE; rw [Fx.fxd_neg]
theorem whV_cases (l : List UInt8) : (Fx.whV l = -1 ∧ (l = [] ∨ Fx.natOk l = false)) ∨ (0 ≤ Fx.whV l ∧ l ≠ [] ∧ Fx.natOk l = true ∧ Fx.natV l = Fx.whV l) := by
  by_cases h : l = []
  · subst h; exact .inl ⟨Fx.whV_nil, .inl rfl⟩
  cases h2 : Fx.natOk l
  · exact .inl ⟨Fx.whV_no l h2, .inr rfl⟩
  · have e := Fx.whV_ok l h h2
    have b := Fx.natV_bd l
    exact .inr ⟨by omega, h, rfl, e.symm⟩
theorem emp_false {l : List UInt8} (h : l ≠ []) : l.isEmpty = false := by cases l <;> simp_all
/-- The result, of a string without a point. -/
theorem res_no (wh : List UInt8) (n : Int) (hn : Fx.whV wh = n) : (n < 0 → Fx.prOk wh [] false = false) ∧ (¬ n < 0 → Fx.prOk wh [] false = true ∧ Fx.prV wh [] = n * 65536) := by
  subst hn
  rcases whV_cases wh with ⟨h1, h2⟩ | ⟨h1, h2, h3, h4⟩
  · refine ⟨fun _ => ?_, fun h => by omega⟩
    rcases h2 with rfl | h2
    · rfl
    · simp [Fx.prOk, h2]
  · refine ⟨fun h => by omega, fun _ => ⟨?_, ?_⟩⟩
    · have e : Fx.natOk [] = true := by decide
      simp [Fx.prOk, h3, e, emp_false h2]
    · have e : Fx.rnd (65536 * Fx.natV []) (10 ^ ([] : List UInt8).length) = 0 := by decide
      unfold Fx.prV
      rw [e, h4]; omega
/-- The result, of a string with a point. -/
theorem res_pt (wh pt : List UInt8) (n m f : Int) (hn : Fx.whV wh = n) (hm : m = if wh.length = 0 then 0 else n) (hf : Fx.whV pt = f) :
    (m < 0 → Fx.prOk wh pt true = false) ∧ (f < 0 → Fx.prOk wh pt true = false) ∧ (¬ m < 0 → ¬ f < 0 → Fx.prOk wh pt true = true ∧ Fx.prV wh pt = m * 65536 + Fx.rnd (f * 65536) (10 ^ pt.length)) := by
  subst hn hf
  have hmm : (m < 0 → Fx.natOk wh = false) ∧ (¬ m < 0 → Fx.natOk wh = true ∧ Fx.natV wh = m) := by
    by_cases h : wh = []
    · subst h
      have hm0 : m = 0 := hm
      subst hm0
      exact ⟨fun h => by omega, fun _ => by decide⟩
    · have : wh.length ≠ 0 := by simpa using h
      rw [if_neg this] at hm
      subst hm
      rcases whV_cases wh with ⟨h1, h2⟩ | ⟨h1, h2, h3, h4⟩
      · exact ⟨fun _ => h2.resolve_left h, fun h => by omega⟩
      · exact ⟨fun h => by omega, fun _ => ⟨h3, h4⟩⟩
  refine ⟨fun h => by simp [Fx.prOk, hmm.1 h], fun h => ?_, fun h1 h2 => ?_⟩
  · rcases whV_cases pt with ⟨_, h2⟩ | ⟨h1, _⟩
    · rcases h2 with rfl | h2
      · simp [Fx.prOk]
      · simp [Fx.prOk, h2]
    · omega
  · obtain ⟨a, b⟩ := hmm.2 h1
    rcases whV_cases pt with ⟨h3, _⟩ | ⟨h3, h4, h5, h6⟩
    · omega
    · refine ⟨by simp [Fx.prOk, a, h5, emp_false h4], ?_⟩
      unfold Fx.prV
      rw [b, h6, Int.mul_comm 65536 m, Int.mul_comm 65536 (Fx.whV pt)]

theorem ba_eta (s : ByteArray) : s = ⟨s.data.toList.toArray⟩ := by
  apply ByteArray.ext; simp
theorem pl_side (pt : List UInt8) (f : Int) (hf : Fx.whV pt = f) : f < 0 ∨ pt.length ≤ 9 ∧ 0 ≤ Fx.rnd (f * 65536) (10 ^ pt.length) ∧ Fx.rnd (f * 65536) (10 ^ pt.length) ≤ 65537000000000 := by
  subst hf
  rcases whV_cases pt with ⟨h1, _⟩ | ⟨_, _, h3, h4⟩
  · left; omega
  · right
    have l9 := (Fx.natOk_len pt h3).1
    have := Fx.prV_bd [] pt l9
    rw [h4, Int.mul_comm] at this
    exact ⟨l9, this.1, this.2.1⟩

/-- Parse of the reference: any string. -/
theorem rparse_any (s : ByteArray) (w : World) (hs : s.size ≤ 10000) :
    Calls Tryd.prog 35 #[.string s] w fun e w' => e = .returned (.tuple #[.int .i64 (Fx.paN s.data.toList), .int .i64 (Fx.paE s.data.toList)]) ∧ Below w.heap.size w w' := by
  obtain ⟨neg, hn⟩ : ∃ neg, Lib.hasPrefix s.data.toList [45] = neg := ⟨_, rfl⟩
  obtain ⟨r, hr⟩ : ∃ r, Lib.trimPrefix s.data.toList [45] = r := ⟨_, rfl⟩
  obtain ⟨wh, pt, pd, hc⟩ : ∃ wh pt pd, Lib.cut r [46] = (wh, pt, pd) := ⟨_, _, _, rfl⟩
  have hp : Parts s.data.toList neg r wh pt pd := ⟨hr, hn, hc⟩
  have h1 : s.data.toList.length = s.size := by have := Lib.size_eq s; omega
  have h2 : r.length ≤ 10000 := by have := trim_len s.data.toList [45]; rw [hr] at this; omega
  have h4 := cut_len _ _ _ _ _ hc
  have h5 : wh.length ≤ 10000 ∧ pt.length ≤ 10000 := by omega
  have hB := behind_of r wh pt pd hc
  have hwb := Fx.whV_bd wh
  have hpb := Fx.whV_bd pt
  rw [hp.paN, hp.paE]
  have ex : ∀ h : 0 < s.size, s[0] = s.data.toList.getD 0 0 := fun h => sget s 0 h
  have hsl := ba_eta s
  cases hl : s.data.toList with
  | nil =>
    rw [hl] at hn hr h1
    have e1 : neg = false := by rw [← hn]; rfl
    have e2 : r = [] := by rw [← hr]; rfl
    subst e1 e2
    have e3 : wh = [] ∧ pt = [] ∧ pd = false := by
      have : Lib.cut [] [46] = (([] : List UInt8), ([] : List UInt8), false) := by decide
      rw [this] at hc
      simp only [Prod.mk.injEq] at hc
      exact ⟨hc.1.symm, hc.2.1.symm, hc.2.2.symm⟩
    obtain ⟨rfl, rfl, rfl⟩ := e3
    have e4 : s = ⟨#[]⟩ := by rw [hsl, hl]
    rw [← e4] at hB
    refine rparse_nil_no s (by simp at h1; omega) [] [] h5 (-1) Fx.whV_nil (by omega) 0 rfl _ _ w hB ⟨fun _ => ?_, fun h => by omega⟩
    have : Fx.prOk [] [] false = false := by decide
    rw [this]; exact ⟨rfl, rfl⟩
  | cons c0 tl =>
    rw [hl] at hn hr h1 ex hsl
    have hs1 : 1 ≤ s.size := by simp at h1; omega
    have ex0 : ∀ h : 0 < s.size, s[0] = c0 := fun h => by rw [ex h]; rfl
    by_cases h45 : c0 = 45
    · subst h45
      have e1 : neg = true := by rw [← hn]; simp [Lib.hasPrefix, List.isPrefixOf]
      have e2 : r = tl := by rw [← hr]; simp [Lib.trimPrefix, Lib.hasPrefix, List.isPrefixOf]
      subst e1 e2
      have hx : s.extract 1 s.size = ⟨r.toArray⟩ := by
        apply ByteArray.ext
        rw [ByteArray.data_extract]
        apply Array.ext'
        rw [hsl]
        simp [Lib.size_eq]
      cases pd
      · have hpt := hB.nopt rfl
        subst hpt
        have hres := res_no wh _ rfl
        refine rparse_neg_no s _ hs1 ex0 hx wh [] h5 (Fx.whV wh) rfl hwb wh.length rfl _ _ w hB ⟨fun h => ?_, fun h => ?_⟩
        · rw [hres.1 h]; exact ⟨rfl, rfl⟩
        · rw [(hres.2 h).1, (hres.2 h).2, tolN_neg, tolE_neg]; exact ⟨rfl, rfl⟩
      · have hres := res_pt wh pt _ _ _ rfl rfl rfl
        refine rparse_neg_pt s _ hs1 ex0 hx wh pt h5 (Fx.whV wh) rfl hwb wh.length rfl _ _ w hB _ rfl (Fx.whV pt) rfl hpb pt.length rfl (pl_side pt _ rfl) ⟨fun h => ?_, fun h => ?_, fun h h' => ?_⟩
        · rw [hres.1 h]; exact ⟨rfl, rfl⟩
        · rw [hres.2.1 h]; exact ⟨rfl, rfl⟩
        · rw [(hres.2.2 h h').1, (hres.2.2 h h').2, tolN_neg, tolE_neg]; exact ⟨rfl, rfl⟩
    · have e1 : neg = false := by rw [← hn]; simp [Lib.hasPrefix, List.isPrefixOf]; exact fun e => h45 e.symm
      have e2 : r = c0 :: tl := by
        rw [← hr, Lib.trimPrefix, if_neg]
        simp [Lib.hasPrefix, List.isPrefixOf]; exact fun e => h45 e.symm
      subst e1 e2
      rw [← hsl] at hB
      cases pd
      · have hpt := hB.nopt rfl
        subst hpt
        have hres := res_no wh _ rfl
        refine rparse_pos_no s hs1 c0 ex0 h45 wh [] h5 (Fx.whV wh) rfl hwb wh.length rfl _ _ w hB ⟨fun h => ?_, fun h => ?_⟩
        · rw [hres.1 h]; exact ⟨rfl, rfl⟩
        · rw [(hres.2 h).1, (hres.2 h).2]; exact ⟨rfl, rfl⟩
      · have hres := res_pt wh pt _ _ _ rfl rfl rfl
        refine rparse_pos_pt s hs1 c0 ex0 h45 wh pt h5 (Fx.whV wh) rfl hwb wh.length rfl _ _ w hB _ rfl (Fx.whV pt) rfl hpb pt.length rfl (pl_side pt _ rfl) ⟨fun h => ?_, fun h => ?_, fun h h' => ?_⟩
        · rw [hres.1 h]; exact ⟨rfl, rfl⟩
        · rw [hres.2.1 h]; exact ⟨rfl, rfl⟩
        · rw [(hres.2.2 h h').1, (hres.2.2 h h').2]; exact ⟨rfl, rfl⟩
end Go.Proofs.YtanhomngnickfaaDoor
