/-
  Contract: Parse of package num, any string: the number whose string it is, or none.
-/
-- LAW 01
import Derived.Test.YtanhomngnickfaaDoorNParse
import Derived.Test.YtanhomngnickfaaDoorNTxt
namespace Go.Proofs.YtanhomngnickfaaDoor
open Go.RowKit

theorem nume_ok_or {X : Type} (e : Lib.NumEnd X) : (∃ v, e = .ok v) ∨ ∀ v, e ≠ .ok v := by
  cases e
  all_goals first
    | exact .inl ⟨_, rfl⟩
    | exact .inr (fun v h => by cases h)
theorem cutL (l p wh pt : List UInt8) (pd : Bool) (h : Lib.cut l p = (wh, pt, pd)) : wh.length ≤ l.length ∧ pt.length ≤ l.length := by
  unfold Lib.cut at h
  split at h <;> (simp only [Prod.mk.injEq] at h; obtain ⟨rfl, rfl, _⟩ := h)
  · simp; omega
  · simp
theorem one_ok : Lib.parseIntB 64 [49] = .ok 1 := by decide
/-- Parse: of a number's string it is the number. -/
theorem nparse_yes (s : ByteArray) (w : World) (he : Env5 w) (hs : s.size ≤ 10000) (p q : Int) (hv : Nm.vld p q = true) (h : txt p q = s.data.toList) :
    Calls Tryd.prog 39 #[.string s] w fun e w' => e = .returned (numV p q 0) ∧ Below w.heap.size w w' := by
  obtain ⟨a1, a2, a3, a4⟩ := vld_bd hv
  have hc := cut_txt p q
  rw [h] at hc
  have hp := parse_itoa p (by omega) (by omega)
  have hq := parse_itoa q (by omega) (by omega)
  have l1 := Lib.itoa_length_le p (by omega) (by omega)
  have l2 := Lib.itoa_length_le q (by omega) (by omega)
  by_cases h1 : q = 1
  · rw [if_pos h1] at hc
    subst h1
    exact parse_f_eq s w he hs _ _ hc ⟨by omega, by simp⟩ p hp 1 one_ok hv h
  · rw [if_neg h1] at hc
    exact parse_t_eq s w he hs _ _ hc ⟨by omega, by omega⟩ p hp q hq hv h
/-- Parse: of any other string there is none. -/
theorem nparse_no (s : ByteArray) (w : World) (he : Env5 w) (hs : s.size ≤ 10000) (h : ∀ p q, Nm.vld p q = true → txt p q ≠ s.data.toList) :
    Calls Tryd.prog 39 #[.string s] w fun e w' => e = .returned (numV 0 0 30) ∧ Below w.heap.size w w' := by
  obtain ⟨top, bot, dv, hc⟩ : ∃ top bot dv, Lib.cut s.data.toList [47] = (top, bot, dv) := ⟨_, _, _, rfl⟩
  have hl0 := cutL _ _ _ _ _ hc
  have h1 : s.data.toList.length = s.size := by have := Lib.size_eq s; omega
  have hl : top.length ≤ 10000 ∧ bot.length ≤ 10000 := by omega
  cases dv
  · rcases nume_ok_or (Lib.parseIntB 64 top) with ⟨p, hp⟩ | hp
    · cases hv : Nm.vld p 1
      · exact parse_f_inv s w he hs top bot hc hl p hp 1 one_ok hv
      · exact parse_f_ne s w he hs top bot hc hl p hp 1 one_ok hv (h p 1 hv)
    · exact parse_f_top s w he hs top bot hc hl hp 1 one_ok
  · rcases nume_ok_or (Lib.parseIntB 64 top) with ⟨p, hp⟩ | hp
    · rcases nume_ok_or (Lib.parseIntB 64 bot) with ⟨q, hq⟩ | hq
      · cases hv : Nm.vld p q
        · exact parse_t_inv s w he hs top bot hc hl p hp q hq hv
        · exact parse_t_ne s w he hs top bot hc hl p hp q hq hv (h p q hv)
      · exact parse_t_bot s w he hs top bot hc hl p hp hq
    · rcases nume_ok_or (Lib.parseIntB 64 bot) with ⟨q, hq⟩ | hq
      · exact parse_t_top s w he hs top bot hc hl hp q hq
      · exact parse_t_both s w he hs top bot hc hl hp hq
end Go.Proofs.YtanhomngnickfaaDoor
