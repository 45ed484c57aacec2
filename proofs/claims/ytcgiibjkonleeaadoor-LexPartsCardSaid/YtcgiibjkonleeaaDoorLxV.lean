/-
  The walk of LexParts: it returns true at any two strings and number.
-/
-- LAW 03
import Derived.Test.YtcgiibjkonleeaaDoorLxU
import Derived.Test.YtcgiibjkonleeaaDoorLxM5
namespace Go.Proofs.YtcgiibjkonleeaaDoor
open Go.RowKit

namespace Lx
theorem cons_bad {t : Tp} {r : Res} {c : Int} {nm : List UInt8} {a b : Int} (h : r.cons t = .bad c nm a b) : r = .bad c nm a b := by cases r <;> simp_all [Res.cons]
theorem bad_ne : ∀ (n : Nat) (l : List UInt8) (p : Int × Int) (c : Int) (nm : List UInt8) (a b : Int), l.length < n → toks l p = .bad c nm a b → c ≠ 0 := by
  intro n
  induction n with
  | zero => intro l p c nm a b h; omega
  | succ n ih =>
    intro l p c nm a b hlen h
    rcases front l with rfl | ⟨x, t, rfl, hb⟩ | ⟨t, rfl⟩ | ⟨x, t, rfl, hb, h37⟩
    · cases h
    · rw [toks_blank x t p hb] at h
      exact ih t _ c nm a b (by simp only [List.length_cons] at hlen; omega) h
    · rw [toks_comment] at h
      have := notNl_pos t
      have h2 : (37 :: t).length = t.length + 1 := rfl
      exact ih _ _ c nm a b (by rw [List.length_drop]; omega) h
    · have hn := first_n (x :: t) (by simp)
      by_cases he : (first (x :: t)).e = 0
      · rw [toks_tok x t p hb h37 he] at h
        exact ih _ _ c nm a b (by rw [List.length_drop]; omega) (cons_bad h)
      · rw [toks_bad x t p hb h37 he] at h
        injection h with h1
        rw [← h1]; exact he
end Lx

set_option maxRecDepth 100000 in
set_option maxHeartbeats 2000000 in
theorem lparts_long (s t : ByteArray) (b : Nat) (w : World) (he : EnvL w) (hs : s.size ≤ 140737488355328) (ht : t.size ≤ 140737488355328) (hl : 3000 < s.size + t.size) :
    Calls Tryd.prog 5 #[.string s, .string t, .int .u8 b] w fun e w' => e = .returned (.bool true) ∧ Below w.heap.size w w' := by
  have HA := Lib.hid (lawake_any w he)
  clear he
  go_enter Tryd.func5, Tryd.ntmps5
  go_wp2_with fail
  refine HA.out.mono ?_; rintro e w1 ⟨rfl, hb⟩
  go_wp2_with fail
  go_ret
  exact ⟨rfl, hb⟩

set_option maxRecDepth 100000 in
set_option maxHeartbeats 4000000 in
theorem lparts_bad1 (s t : ByteArray) (b : Nat) (w : World) (he : EnvL w) (hl : s.size + t.size ≤ 3000) (c : Int) (nm : List UInt8) (x y : Int) (h : Lx.toks s.data.toList (1, 1) = .bad c nm x y) :
    Calls Tryd.prog 5 #[.string s, .string t, .int .u8 b] w fun e w' => e = .returned (.bool true) ∧ Below w.heap.size w w' := by
  have hc := Lx.bad_ne _ _ _ _ _ _ _ (Nat.lt_succ_self _) h
  have z1 : s.data.toList.length = s.size := Lib.size_eq s
  have z2 : t.data.toList.length = t.size := Lib.size_eq t
  have C1 := Lib.hid (fun W (hW : EnvL W) => tokens_bad s.data.toList c nm x y W hW (by omega) h)
  have C2 := Lib.hid (fun W (hW : EnvL W) => tokens_any t.data.toList W hW (by omega))
  rw [← ba_list s] at C1
  rw [← ba_list t] at C2
  have HE := Lib.hid he
  have HA := Lib.hid (fun W (hW : EnvL W) => lawake_any W hW)
  have e1 : (c == 0) = false := by simpa using hc
  have e2 : (c != 0) = true := by simpa using hc
  generalize Lx.toks t.data.toList (1, 1) = R2 at *
  clear he h hc z1 z2
  go_enter Tryd.func5, Tryd.ntmps5
  go_wp2_with fail
  refine (C1.out _ HE.out).mono ?_; rintro e w1 ⟨rfl, hb1⟩
  simp only [faultV]
  have B1 := Lib.hid (hb1.alloc hb1.size (.cells #[.int .i64 c, .string ⟨nm.toArray⟩, .int .i64 x, .int .i64 y] 37))
  have K1 := Lib.hid (heap_alloc_new w1 (.cells #[.int .i64 c, .string ⟨nm.toArray⟩, .int .i64 x, .int .i64 y] 37))
  clear hb1
  go_wp2_with fail
  have hTok := C2.out _ (HE.out.below B1.out)
  have hTok2 : Calls Tryd.prog 15 #[.string t] (w1.alloc (.cells #[.int .i64 c, .string ⟨nm.toArray⟩, .int .i64 x, .int .i64 y] 37)) fun e w' => Below (w1.alloc (.cells #[.int .i64 c, .string ⟨nm.toArray⟩, .int .i64 x, .int .i64 y] 37)).heap.size (w1.alloc (.cells #[.int .i64 c, .string ⟨nm.toArray⟩, .int .i64 x, .int .i64 y] 37)) w' ∧ ∃ v c' nm' x' y', e = .returned (.tuple #[v, faultV c' nm' x' y']) := by
    refine hTok.mono fun e w' ⟨h1, h2⟩ => ⟨h1, ?_⟩
    cases R2 with
    | ok l => obtain ⟨v, h3, -⟩ := h2; exact ⟨v, 0, [], 0, 0, h3⟩
    | bad c' nm' x' y' => exact ⟨_, c', nm', x', y', h2⟩
  clear hTok
  refine hTok2.mono ?_; rintro e w2 ⟨hb2, v, c', nm', x', y', rfl⟩
  clear hTok2
  simp only [faultV]
  have B2 := Lib.hid (B1.out.trans (hb2.mono B1.out.size))
  have K2 := (hb2.block w1.heap.size (by simp)).trans K1.out
  have B3 := Lib.hid (B2.out.alloc B2.out.size (.cells #[.int .i64 c', .string ⟨nm'.toArray⟩, .int .i64 x', .int .i64 y'] 37))
  obtain ⟨⟨k0, k1, k2, k3⟩, -, kl⟩ := blk4 K2
  clear hb2 K2
  go_wp2_with fail
  refine (HA.out _ (HE.out.below B3.out)).mono ?_; rintro e w3 ⟨rfl, hb3⟩
  go_wp2_with fail
  go_ret
  exact ⟨rfl, B3.out.trans (hb3.mono B3.out.size)⟩
end Go.Proofs.YtcgiibjkonleeaaDoor
