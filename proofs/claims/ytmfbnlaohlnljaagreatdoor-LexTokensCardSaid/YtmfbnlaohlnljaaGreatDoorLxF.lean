/-
  Contracts of package lex: names, numbers, strings: the token with which a string begins.
-/
import Derived.Test.YtmfbnlaohlnljaaGreatDoorShelfS
namespace Go.Proofs.YtmfbnlaohlnljaaGreatDoor
open Go.RowKit

def tokV (t : Lx.Tk) (a b : Int) : Value := .agg #[.int .i64 t.kind, .string ⟨t.text.toArray⟩, .int .i64 t.p, .int .i64 t.q, .int .i64 a, .int .i64 b]
def oneV (t : Lx.Tk) (n : Nat) (e : Int) : Value := .tuple #[tokV t 0 0, .int .i64 n, .int .i64 e]
/-- What a reading of one token returns. -/
def OneOf (o : Lx.One) (w : World) (e : Ending) (w' : World) : Prop := ∃ t, e = .returned (oneV t o.n o.e) ∧ (o.e = 0 → t = o.t) ∧ Below w.heap.size w w'

theorem blk6 {w : World} {b : Nat} {t : TypeId} {c0 c1 c2 c3 c4 c5 : Value} (h : w.heap[b]? = some (.cells #[c0, c1, c2, c3, c4, c5] t (0, 0))) :
    (w.cell? ⟨b, 0, none⟩ = some c0 ∧ w.cell? ⟨b, 1, none⟩ = some c1 ∧ w.cell? ⟨b, 2, none⟩ = some c2 ∧ w.cell? ⟨b, 3, none⟩ = some c3 ∧ w.cell? ⟨b, 4, none⟩ = some c4 ∧ w.cell? ⟨b, 5, none⟩ = some c5) ∧
    (w.frozen? ⟨b, 0, none⟩ = false ∧ w.frozen? ⟨b, 1, none⟩ = false ∧ w.frozen? ⟨b, 2, none⟩ = false ∧ w.frozen? ⟨b, 3, none⟩ = false ∧ w.frozen? ⟨b, 4, none⟩ = false ∧ w.frozen? ⟨b, 5, none⟩ = false) ∧ b < w.heap.size := by
  refine ⟨⟨?_, ?_, ?_, ?_, ?_, ?_⟩, ⟨?_, ?_, ?_, ?_, ?_, ?_⟩, (Array.getElem?_eq_some_iff.1 h).1⟩
  case refine_3 => exact cell_of_row w b 2 _ _ _ h
  all_goals first | (simp [World.frozen?, h]; done) | exact cell_of_row w b 0 _ _ _ h | exact cell_of_row w b 1 _ _ _ h | exact cell_of_row w b 3 _ _ _ h | exact cell_of_row w b 4 _ _ _ h | exact cell_of_row w b 5 _ _ _ h
theorem blk4 {w : World} {b : Nat} {t : TypeId} {c0 c1 c2 c3 : Value} (h : w.heap[b]? = some (.cells #[c0, c1, c2, c3] t (0, 0))) :
    (w.cell? ⟨b, 0, none⟩ = some c0 ∧ w.cell? ⟨b, 1, none⟩ = some c1 ∧ w.cell? ⟨b, 2, none⟩ = some c2 ∧ w.cell? ⟨b, 3, none⟩ = some c3) ∧
    (w.frozen? ⟨b, 0, none⟩ = false ∧ w.frozen? ⟨b, 1, none⟩ = false ∧ w.frozen? ⟨b, 2, none⟩ = false ∧ w.frozen? ⟨b, 3, none⟩ = false) ∧ b < w.heap.size := by
  refine ⟨⟨?_, ?_, ?_, ?_⟩, ⟨?_, ?_, ?_, ?_⟩, (Array.getElem?_eq_some_iff.1 h).1⟩
  all_goals first | (simp [World.frozen?, h]; done) | exact cell_of_row w b 0 _ _ _ h | exact cell_of_row w b 1 _ _ _ h | exact cell_of_row w b 2 _ _ _ h | exact cell_of_row w b 3 _ _ _ h
theorem set6 {w : World} {b : Nat} {t : TypeId} {c0 c1 c2 c3 c4 c5 : Value} (h : w.heap[b]? = some (.cells #[c0, c1, c2, c3, c4, c5] t (0, 0))) (v0 v1 v2 v3 v4 v5 : Value) :
    ((((((w.setCell ⟨b, 0, none⟩ v0).setCell ⟨b, 1, none⟩ v1).setCell ⟨b, 2, none⟩ v2).setCell ⟨b, 3, none⟩ v3).setCell ⟨b, 4, none⟩ v4).setCell ⟨b, 5, none⟩ v5).heap[b]? = some (.cells #[v0, v1, v2, v3, v4, v5] t (0, 0)) :=
  heap_set _ b 5 v5 _ t (heap_set _ b 4 v4 _ t (heap_set _ b 3 v3 _ t (heap_set _ b 2 v2 _ t (heap_set _ b 1 v1 _ t (heap_set _ b 0 v0 _ t h)))))
theorem set4 {w : World} {b : Nat} {t : TypeId} {c0 c1 c2 c3 : Value} (h : w.heap[b]? = some (.cells #[c0, c1, c2, c3] t (0, 0))) (v0 v1 v2 v3 : Value) :
    ((((w.setCell ⟨b, 0, none⟩ v0).setCell ⟨b, 1, none⟩ v1).setCell ⟨b, 2, none⟩ v2).setCell ⟨b, 3, none⟩ v3).heap[b]? = some (.cells #[v0, v1, v2, v3] t (0, 0)) :=
  heap_set _ b 3 v3 _ t (heap_set _ b 2 v2 _ t (heap_set _ b 1 v1 _ t (heap_set _ b 0 v0 _ t h)))
theorem blk_alloc {w : World} {b : Nat} {x : Obj} (h : w.heap[b]? = some x) (o : Obj) : (w.alloc o).heap[b]? = some x := by
  exact (Below.heap_alloc w o b (Array.getElem?_eq_some_iff.1 h).1).trans h
theorem below6 {B : Nat} {a w : World} (h : Below B a w) {b : Nat} (hb : B ≤ b) (v0 v1 v2 v3 v4 v5 : Value) :
    Below B a ((((((w.setCell ⟨b, 0, none⟩ v0).setCell ⟨b, 1, none⟩ v1).setCell ⟨b, 2, none⟩ v2).setCell ⟨b, 3, none⟩ v3).setCell ⟨b, 4, none⟩ v4).setCell ⟨b, 5, none⟩ v5) :=
  (((((h.setCell (p := ⟨b, 0, none⟩) hb _).setCell (p := ⟨b, 1, none⟩) hb _).setCell (p := ⟨b, 2, none⟩) hb _).setCell (p := ⟨b, 3, none⟩) hb _).setCell (p := ⟨b, 4, none⟩) hb _).setCell (p := ⟨b, 5, none⟩) hb _
theorem below4 {B : Nat} {a w : World} (h : Below B a w) {b : Nat} (hb : B ≤ b) (v0 v1 v2 v3 : Value) :
    Below B a ((((w.setCell ⟨b, 0, none⟩ v0).setCell ⟨b, 1, none⟩ v1).setCell ⟨b, 2, none⟩ v2).setCell ⟨b, 3, none⟩ v3) :=
  (((h.setCell (p := ⟨b, 0, none⟩) hb _).setCell (p := ⟨b, 1, none⟩) hb _).setCell (p := ⟨b, 2, none⟩) hb _).setCell (p := ⟨b, 3, none⟩) hb _
theorem size6 (w : World) (b : Nat) (v0 v1 v2 v3 v4 v5 : Value) :
    ((((((w.setCell ⟨b, 0, none⟩ v0).setCell ⟨b, 1, none⟩ v1).setCell ⟨b, 2, none⟩ v2).setCell ⟨b, 3, none⟩ v3).setCell ⟨b, 4, none⟩ v4).setCell ⟨b, 5, none⟩ v5).heap.size = w.heap.size := by simp [World.setCell]
theorem name_any (l : List UInt8) (w : World) (hl : l.length ≤ 20000) :
    Calls Tryz.prog 85 #[.string ⟨l.toArray⟩] w (OneOf (if 40 < l.length then Lx.One.bad l.length 3 else ⟨⟨0, l, 0, 0⟩, l.length, 0⟩) w) := by
  obtain ⟨s, hs⟩ : ∃ s : ByteArray, s = ⟨l.toArray⟩ := ⟨_, rfl⟩
  have hz : s.size = l.length := by rw [hs]; rfl
  rw [← hs, ← hz]
  have hl2 : s.size ≤ 20000 := by omega
  have HS := Lib.hid hs
  clear hs hz hl
  by_cases h : 40 < s.size
  · rw [if_pos h]
    go_enter Tryz.func85, Tryz.ntmps85
    go_wp2
    exact bodyPost_ret (v := oneV ⟨0, [], 0, 0⟩ s.size 3) (by simp [results, Tryz.results85, go_sem, oneV, tokV]) rfl ⟨_, rfl, fun h => by simp [Lx.One.bad] at h, (by repeat (first | exact Below.refl _ _ | refine Below.setCell ?_ (by first | (simp; done) | (simp; omega) | omega) _ | refine below_drewN ?_ _ | refine Below.alloc ?_ (by first | (simp; done) | (simp; omega) | omega) _ | refine Below.trans ?_ (hb.mono (by first | (simp; done) | (simp; omega) | omega))))⟩
  · rw [if_neg h]
    go_enter Tryz.func85, Tryz.ntmps85
    go_wp2
    exact bodyPost_ret (v := oneV ⟨0, l, 0, 0⟩ s.size 0) (by simp [results, Tryz.results85, go_sem, oneV, tokV]; exact HS.out) rfl ⟨_, rfl, fun _ => rfl, (by repeat (first | exact Below.refl _ _ | refine Below.setCell ?_ (by first | (simp; done) | (simp; omega) | omega) _ | refine below_drewN ?_ _ | refine Below.alloc ?_ (by first | (simp; done) | (simp; omega) | omega) _ | refine Below.trans ?_ (hb.mono (by first | (simp; done) | (simp; omega) | omega))))⟩

set_option maxHeartbeats 1000000 in
theorem number_core (s : ByteArray) (P Q E : Int) (w : World) (he : EnvL w) (_hs : s.size ≤ 20000) (hd : ∀ W, EnvL W → Calls Tryz.prog 126 #[.string s] W fun e w' => e = .returned (numV P Q E) ∧ Below W.heap.size W w') :
    Calls Tryz.prog 87 #[.string s] w fun e w' => e = .returned (oneV ⟨2, [], P, Q⟩ s.size (if E = 30 then 3 else E)) ∧ Below w.heap.size w w' := by
  have HE := Lib.hid he
  have HD := Lib.hid hd
  clear he hd
  by_cases h : E = 30
  · subst h
    rw [if_pos rfl]
    go_enter Tryz.func87, Tryz.ntmps87
    go_wp2_with fail
    refine (HD.out _ (by exact HE.out.below (by repeat (first | exact Below.refl _ _ | refine Below.setCell ?_ (by first | (simp; done) | (simp; omega) | omega) _ | refine below_drewN ?_ _ | refine Below.alloc ?_ (by first | (simp; done) | (simp; omega) | omega) _ | refine Below.trans ?_ (hb.mono (by first | (simp; done) | (simp; omega) | omega)))))).mono ?_; rintro e w' ⟨rfl, hb⟩; simp only [numV]; have hB := ((Below.refl w.heap.size w).alloc (Nat.le_refl _) _).trans (hb.mono (by simp)); have hz6 := (hb.block w.heap.size (by simp)).trans (heap_alloc_new w _); have HZ := Lib.hid hz6; obtain ⟨⟨z0, z1, z2, z3, z4, z5⟩, ⟨y0, y1, y2, y3, y4, y5⟩, hlt⟩ := blk6 hz6; clear hz6
    go_wp2_with fail
    obtain ⟨⟨q0, q1, q2, q3, q4, q5⟩, -, -⟩ := blk6 (blk_alloc (set6 HZ.out (.int .i64 2) (.string ⟨#[]⟩) (.int .i64 P) (.int .i64 Q) (.int .i64 0) (.int .i64 0)) (.cells #[.int .i64 P, .int .i64 Q] 41))
    exact bodyPost_ret (v := oneV ⟨2, [], P, Q⟩ s.size 3) (by simp [results, Tryz.results87, go_sem, oneV, tokV, q0, q1, q2, q3, q4, q5]) rfl ⟨rfl, (below6 hB (Nat.le_refl _) _ _ _ _ _ _).alloc (by rw [size6]; omega) _⟩
  · have h2 : (E == 30) = false := by simpa using h
    rw [if_neg h]
    have HH := Lib.hid h
    clear h
    go_enter Tryz.func87, Tryz.ntmps87
    go_wp2_with fail
    refine (HD.out _ (by exact HE.out.below (by repeat (first | exact Below.refl _ _ | refine Below.setCell ?_ (by first | (simp; done) | (simp; omega) | omega) _ | refine below_drewN ?_ _ | refine Below.alloc ?_ (by first | (simp; done) | (simp; omega) | omega) _ | refine Below.trans ?_ (hb.mono (by first | (simp; done) | (simp; omega) | omega)))))).mono ?_; rintro e w' ⟨rfl, hb⟩; simp only [numV]; have hB := ((Below.refl w.heap.size w).alloc (Nat.le_refl _) _).trans (hb.mono (by simp)); have hz6 := (hb.block w.heap.size (by simp)).trans (heap_alloc_new w _); have HZ := Lib.hid hz6; obtain ⟨⟨z0, z1, z2, z3, z4, z5⟩, ⟨y0, y1, y2, y3, y4, y5⟩, hlt⟩ := blk6 hz6; clear hz6
    go_wp2_with fail
    obtain ⟨⟨q0, q1, q2, q3, q4, q5⟩, -, -⟩ := blk6 (blk_alloc (set6 HZ.out (.int .i64 2) (.string ⟨#[]⟩) (.int .i64 P) (.int .i64 Q) (.int .i64 0) (.int .i64 0)) (.cells #[.int .i64 P, .int .i64 Q] 41))
    exact bodyPost_ret (v := oneV ⟨2, [], P, Q⟩ s.size E) (by simp [results, Tryz.results87, go_sem, oneV, tokV, q0, q1, q2, q3, q4, q5]) rfl ⟨rfl, (below6 hB (Nat.le_refl _) _ _ _ _ _ _).alloc (by rw [size6]; omega) _⟩

/-- The number's token, of a numeral. -/
theorem number_any (l : List UInt8) (w : World) (he : EnvL w) (h0 : 0 < Lx.numeral l) (hl : l.length ≤ 20000) :
    Calls Tryz.prog 87 #[.string ⟨(l.take (Lx.numeral l)).toArray⟩] w (OneOf (Lx.numOf (l.take (Lx.numeral l))) w) := by
  have hd := Lx.decV_numeral l h0
  have hz := Lx.numOf_n (l.take (Lx.numeral l))
  have hml : (l.take (Lx.numeral l)).length ≤ 20000 := by rw [List.length_take]; omega
  generalize l.take (Lx.numeral l) = m at hd hz hml
  obtain ⟨hz, he3⟩ := hz
  have hkind : (Lx.numOf m).e = 0 → (Lx.numOf m).t = ⟨2, [], (Lx.numOf m).t.p, (Lx.numOf m).t.q⟩ := by
    intro h; simp only [Lx.numOf] at h ⊢; split at h
    · simp [Lx.One.bad] at h
    · rename_i h1; rw [if_neg h1]; split at h
      · rename_i h2; rw [if_pos h2]
      · simp [Lx.One.bad] at h
  have hdec := fun W (hW : EnvL W) => decimal_any ⟨m.toArray⟩ W hW.toEnv (by rw [ba_size]; omega)
  simp only at hdec
  rw [hd] at hdec
  generalize Lx.numOf m = o at hd hz he3 hkind hdec ⊢
  by_cases h3 : o.e = 3
  · rw [if_pos h3] at hdec
    exact (number_core ⟨m.toArray⟩ 0 0 30 w he (by rw [ba_size]; omega) hdec).mono fun e w' ⟨h1, h2⟩ => ⟨⟨2, [], 0, 0⟩, by rw [h1, if_pos rfl, h3, hz]; rfl, fun h => (by rw [h3] at h; cases h), h2⟩
  · rw [if_neg h3] at hdec
    have hne : ¬ o.e = 30 := by simp only [List.mem_cons, List.not_mem_nil, or_false] at he3; omega
    exact (number_core ⟨m.toArray⟩ _ _ _ w he (by rw [ba_size]; omega) hdec).mono fun e w' ⟨h1, h2⟩ => ⟨⟨2, [], o.t.p, o.t.q⟩, by rw [h1, if_neg hne, hz]; rfl, fun h => (hkind h).symm, h2⟩

theorem cutPrefix_any (s p : ByteArray) (w : World) :
    Calls Tryz.prog 125 #[.string s, .string p] w fun e w' => e = .returned (.tuple #[.string ⟨(Lib.trimPrefix s.data.toList p.data.toList).toArray⟩, .bool (Lib.hasPrefix s.data.toList p.data.toList)]) ∧ w = w' :=
  (Tryz.strings_CutPrefix s p w).mono fun _ _ ⟨h1, h2⟩ => ⟨h1, h2.symm⟩

theorem cutPoint_no (d : List UInt8) (h : ∀ t, d ≠ 46 :: t) : Lib.hasPrefix d [46] = false := by
  cases d with
  | nil => rfl
  | cons c d =>
    have : ¬ (46 : UInt8) = c := by rintro rfl; exact h d rfl
    simp [Lib.hasPrefix, List.isPrefixOf, this]
theorem cutPoint_yes (t : List UInt8) : Lib.hasPrefix (46 :: t) [46] = true ∧ Lib.trimPrefix (46 :: t) [46] = t := by
  simp [Lib.hasPrefix, Lib.trimPrefix, List.isPrefixOf]

def numT (n : Nat) (d : List UInt8) : Nat := match d with | 46 :: t => if Lx.runN Lx.digit t = 0 then n else n + 1 + Lx.runN Lx.digit t | _ => n
theorem numT_no (n : Nat) (d : List UInt8) (h : ∀ t, d ≠ 46 :: t) : numT n d = n := by
  unfold numT; split
  · rename_i t; exact absurd rfl (h t)
  · rfl
set_option maxHeartbeats 1000000 in
theorem numeral_any (l : List UInt8) (w : World) (hl : l.length ≤ 20000) :
    Calls Tryz.prog 86 #[.string ⟨l.toArray⟩] w fun e w' => e = .returned (.int .i64 (Lx.numeral l : Nat)) ∧ w = w' := by
  obtain ⟨s, hs⟩ : ∃ s : ByteArray, s = ⟨l.toArray⟩ := ⟨_, rfl⟩
  have hz : s.size = l.length := by rw [hs]; rfl
  have hl2 : s.size ≤ 20000 := by omega
  obtain ⟨n, hn⟩ : ∃ n, n = Lx.runN Lx.digit l := ⟨_, rfl⟩
  have hle : n ≤ s.size := by rw [hn, hz]; exact Lx.runN_le _ _
  have H1 : Hid (Calls Tryz.prog 82 #[.string s, .func (.func 124) #[] #[]] w fun e w' => e = .returned (.int .i64 (n : Nat)) ∧ w = w') := by
    have := run_digit s w (by unfold maxLen; omega)
    rw [hs] at this ⊢; rw [hn]; simp only at this; exact this
  have HX : Hid (s.extract n s.size = ⟨(l.drop n).toArray⟩) := by rw [hz, hs]; exact ext_tail l n
  obtain ⟨d, hd⟩ : ∃ d, d = l.drop n := ⟨_, rfl⟩
  have hdl : d.length ≤ 20000 := by rw [hd, List.length_drop]; omega
  have hu : Lx.numeral l = numT n d := by unfold Lx.numeral numT; rw [← hn, ← hd]; rfl
  rw [← hd] at HX
  rw [← hs]
  generalize Lx.numeral l = R at hu ⊢
  have HU := Lib.hid hu
  clear hu hd hn hs hz hl
  by_cases hp : ∃ t, d = 46 :: t
  · obtain ⟨t, rfl⟩ := hp
    obtain ⟨y1, y2⟩ := cutPoint_yes t
    have hm := run_digit ⟨t.toArray⟩ w (by rw [ba_size]; simp only [List.length_cons] at hdl; unfold maxLen; omega)
    simp only at hm
    have hml := Lx.runN_le Lx.digit t
    have hml2 : Lx.runN Lx.digit t ≤ 20000 := by simp only [List.length_cons] at hdl; omega
    have HR : Hid (R = if Lx.runN Lx.digit t = 0 then n else n + 1 + Lx.runN Lx.digit t) := HU.out
    generalize Lx.runN Lx.digit t = m at hm hml2 HR
    have HM := Lib.hid hm
    have HY := Lib.hid (And.intro y1 y2)
    clear hm hml y1 y2 HU hdl
    by_cases hm0 : m = 0
    · subst hm0
      go_enter Tryz.func86, Tryz.ntmps86
      go_wp2_with fail
      refine H1.out.mono ?_; rintro e w' ⟨rfl, rfl⟩
      go_wp2_with fail
      rw [HX.out]
      refine (cutPrefix_any _ _ _).mono ?_; rintro e w' ⟨rfl, rfl⟩
      simp only [HY.out.1, HY.out.2]
      go_wp2_with fail
      refine HM.out.mono ?_; rintro e w' ⟨rfl, rfl⟩
      go_wp2_with fail
      go_ret
      exact ⟨ret_int (by rw [HR.out]; simp), rfl⟩
    · have hm1 : 1 ≤ m := by omega
      go_enter Tryz.func86, Tryz.ntmps86
      go_wp2_with fail
      refine H1.out.mono ?_; rintro e w' ⟨rfl, rfl⟩
      go_wp2_with fail
      rw [HX.out]
      refine (cutPrefix_any _ _ _).mono ?_; rintro e w' ⟨rfl, rfl⟩
      simp only [HY.out.1, HY.out.2]
      go_wp2_with fail
      refine HM.out.mono ?_; rintro e w' ⟨rfl, rfl⟩
      go_wp2_with fail
      go_ret
      exact ⟨ret_int (by have := HR.out; simp only [if_neg hm0] at this; omega), rfl⟩
  · have hno := Lib.hid (cutPoint_no d (fun t h => hp ⟨t, h⟩))
    have HR : Hid (R = n) := by
      rw [HU.out]; exact numT_no n d (fun t h => hp ⟨t, h⟩)
    clear hp HU
    go_enter Tryz.func86, Tryz.ntmps86
    go_wp2_with fail
    refine H1.out.mono ?_; rintro e w' ⟨rfl, rfl⟩
    go_wp2_with fail
    rw [HX.out]
    refine (cutPrefix_any _ _ _).mono ?_; rintro e w' ⟨rfl, rfl⟩
    simp only [hno.out]
    go_wp2_with fail
    go_ret
    exact ⟨ret_int (by rw [HR.out]), rfl⟩
end Go.Proofs.YtmfbnlaohlnljaaGreatDoor
