/-
  From a walk to a row of layer 3: what the listed variables give, a start that meets the condition, the frame of a law's proof.
-/
import Derived.Test.YtmfbnlaohlnljaaGreatDoorLxS
import Derived.Test.YtmfbnlaohlnljaaGreatDoorCards
import Derived.Test.YtmfbnlaohlnljaaGreatDoorTie
import Derived.ProofKit
import Derived.LaidMore
import Derived.LaidSub
import Derived.OpenShut
import Derived.HandedShaped
import Derived.Stop.Joined
import Derived.Lib.SmallJoins
import Derived.Lay
import Derived.Deep.Slices
import Derived.Carry
import Derived.SizedLaws
namespace Go.Proofs.YtmfbnlaohlnljaaGreatDoor
open Go.ChangeShapes Go.WideShapes Go.ChangeAt Go.RowKit Go.Joins

theorem own : ownKnob Tryz.prog.godebug = none := by kernel_rfl
/-- A law whose row lists variables: the shape of the world is handed on, too. -/
theorem returns_and_shaped {H : Type} {enc : TypeId × Value → H} {a : Assume} {C : Checked} {os : Os} {f : FuncId} {fn : Func} {s : ChangeSpec} {apart fresh handsOn again : Bool} {X : World → Array Value → Prop}
    (hX : ∀ (w w' : World) (args : Array Value), w.heap = w'.heap → X w args → X w' args)
    (own : ownKnob C.prog.godebug = none) (started : os.Started) (noInit : C.prog.inits.idxOf? f = none) (hfn : C.prog.funcs[f]? = some fn)
    (witness : ∃ (w : World) (tape : Tape) (i : Input), w.os = os ∧ (w.forCall tape i).Shaped C.prog ∧ i.vars = [] ∧ Input.okWide C.prog (w.forCall tape i) .any w.heap.size f i ∧
      ((s.pre enc C.prog fn [] apart (w.forCall tape i).memory i.args ∧ X (w.forCall tape i).memory i.args) ∧ sizedMet enc C.prog fn (OpenSpec.ofChange s) apart (w.forCall tape i).memory i.args) ∧ a.holds C.prog (lone (Frame.enter C.prog f i.args .normal) [] (w.forCall tape i)))
    (contract : ∀ (W : World) (base : Nat) (args : Array Value) (ds gs : List (DataW H)) (before : List MemPlace),
      (∀ (j : Nat) t v, fn.params[j]? = some t → args[j]? = some v → Value.okWide C.prog W .any base t v) →
      DataW.Whole enc C.prog fn.params.toList s.vars apart W args.toList ds gs before →
      (DataW.weightsEach C.prog (fn.params.toList ++ (OpenSpec.ofChange s).bare.plain.varTypes C.prog) (ds ++ gs)).all (· ≤ reachBytes) = true →
      W.ShapedOpen C.prog → X W args →
      Calls C.prog f args W fun e W' => ∃ v, e = .returned v ∧ s.post enc C.prog fn apart fresh handsOn again W args v W') :
    ReturnsInHanded a C os f .any (fun w args => (s.pre enc C.prog fn [] apart w args ∧ X w args) ∧ sizedMet enc C.prog fn (OpenSpec.ofChange s) apart w args) (s.post enc C.prog fn apart fresh handsOn again) := by
  refine returnsInHanded_of_calls own started noInit witness ?_
  intro w tape i _ hsh _ hok hpre _
  obtain ⟨_, _, _, fn', hfn', _, _, _, _, hval⟩ := hok
  have e : fn' = fn := Option.some.inj (hfn'.symm.trans hfn)
  subst e
  obtain ⟨⟨⟨ds, gs, before, hw, _⟩, hx⟩, hz⟩ := hpre
  have hwt := hz.weights hw
  have hw' := DataW.Whole.of_heap (w' := w.forCall tape i) (by rfl) hw
  refine (contract (w.forCall tape i) w.heap.size i.args ds gs before hval hw' hwt hsh (hX _ _ _ (by rfl) hx)).mono fun e W' ⟨v, he, hp⟩ => ?_
  subst he
  exact ChangeSpec.post_blind hp

def strData (l : List (List UInt8)) : DataW Unit := .agg (l.map fun s => .lit (.string s))
theorem cells_of_strs {P : Program} {w : World} {enc : TypeId × Value → Unit} {base : Nat} {sp : Nat → Bool} {held : Bool} {fuel : Nat} {t e : TypeId} {n : Nat} {cs : List Value} {zs : List (List UInt8)} {p : List MemPlace}
    (ht : P.underlying t = some (.array n e)) (he : P.underlying e = some .string) (hce : P.cellsOf e = 1) (hct : P.cellsOf t = n)
    (h : DataW.trod enc P w base sp held fuel t cs = some (strData zs, p)) : cs = zs.map fun z => Value.string ⟨z.toArray⟩ := by
  cases fuel with
  | zero => simp [DataW.trod] at h
  | succ fuel =>
    simp only [DataW.trod, ht, hce, hct, Nat.mul_one] at h
    split at h
    · rename_i hl
      obtain ⟨xs, hm, hx⟩ := Option.map_eq_some_iff.1 h
      have hxs : xs.map (·.1) = zs.map fun z => (DataW.lit (.string z) : DataW Unit) := by
        have := congrArg Prod.fst hx
        simpa [strData] using this
      have hxl : xs.length = n := by simpa using Lib.mapM_length hm
      have hzl : zs.length = n := by
        have := congrArg List.length hxs
        simp at this
        omega
      apply List.ext_getElem?
      intro i
      by_cases hi : i < n
      · obtain ⟨b, hb, hf⟩ := Lib.mapM_at hm i i (by simp [hi])
        obtain ⟨z, hc, rfl, _⟩ := DataW.trod_string he hf
        have h1 : cs[i]? = some (.string z) := by
          have := congrArg (·[0]?) hc
          simpa [List.getElem?_take, List.getElem?_drop] using this
        have h2 : (xs.map (·.1))[i]? = some (DataW.lit (.string z.data.toList) : DataW Unit) := by simp [hb]
        rw [hxs] at h2
        simp only [List.getElem?_map, Option.map_eq_some_iff, DataW.lit.injEq, Lit.string.injEq] at h2
        obtain ⟨z', hz', rfl⟩ := h2
        simp [h1, hz']
      · rw [List.getElem?_eq_none (by omega), List.getElem?_eq_none (by simp; omega)]
    · cases h
theorem strs_of_head {P : Program} {W : World} {name : String} {zs : List (List UInt8)} {rest : List (String × DataW Unit)} {g : Nat} {t e : TypeId} {n : Nat}
    (hg : P.globalNamed name = some g) (hty : (P.globals[g]?).map (·.type) = some t) (ht : P.underlying t = some (.array n e)) (he : P.underlying e = some .string) (hce : P.cellsOf e = 1) (hct : P.cellsOf t = n)
    (h : laidMet P ((name, strData zs) :: rest) W) : ∃ tt fr, W.heap[g]? = some (.cells (strsV zs) tt fr) := by
  obtain ⟨ps, ⟨g', t', cs, fuel, p, q, hg', ht', hvar, hd, _, _⟩, _⟩ := h
  obtain rfl := Option.some.inj (hg.symm.trans hg')
  obtain rfl := Option.some.inj (hty.symm.trans ht')
  have hcs : cs = strsV zs := by
    have := cells_of_strs ht he hce hct hd
    rw [strsV, ← this]
  subst hcs
  unfold World.var? at hvar
  rw [hg] at hvar
  simp only [Option.bind_some] at hvar
  split at hvar
  · rename_i cs' tt fr hh
    injection hvar with hvar
    subst hvar
    exact ⟨tt, fr, hh⟩
  · cases hvar

/-- The listed variables of layer 3. -/
abbrev laid3 : List (String × DataW Unit) := Rows.lexTokensRow.laid
theorem pow_type : (Tryz.prog.globals[2]?).map (·.type) = some 235 := by kernel_rfl
theorem sg_type : (Tryz.prog.globals[1]?).map (·.type) = some 125 := by kernel_rfl
theorem wd_type : (Tryz.prog.globals[0]?).map (·.type) = some 94 := by kernel_rfl
theorem sg_name : Tryz.prog.globalNamed "fleuron/lex.signs" = some 1 := by kernel_rfl
theorem wd_name : Tryz.prog.globalNamed "fleuron/lex.words" = some 0 := by kernel_rfl
theorem pow_only : (laid3.filter fun x => x.1 == "internal/strconv.uint64pow10") = [("internal/strconv.uint64pow10", Lib.tabData .u64 Lib.pow10Tab)] := by kernel_rfl
theorem sg_only : (laid3.filter fun x => x.1 == "fleuron/lex.signs") = [("fleuron/lex.signs", strData Lx.sgs)] := by kernel_rfl
theorem wd_only : (laid3.filter fun x => x.1 == "fleuron/lex.words") = [("fleuron/lex.words", strData Lx.wds)] := by kernel_rfl
theorem envL_of {W : World} (hsh : W.ShapedOpen Tryz.prog) (h : laidMetH Tryz.prog laid3 W) : EnvL W := by
  rw [MakeChecks.laidMetH_plain _ _ _ (by kernel_rfl)] at h
  have h2 := h.filter fun x => x.1 == "internal/strconv.uint64pow10"
  rw [pow_only] at h2
  have h3 := h.filter fun x => x.1 == "fleuron/lex.signs"
  rw [sg_only] at h3
  have h4 := h.filter fun x => x.1 == "fleuron/lex.words"
  rw [wd_only] at h4
  obtain ⟨m, hm⟩ := Tryz.laysM145.s1_3 W hsh
  refine ⟨⟨⟨m, hm⟩, Lib.tabIs_of_head pow_name pow_type Tryz.underlying235 Tryz.underlying154 (by kernel_rfl) (by kernel_rfl) h2, ?_⟩,
    strs_of_head sg_name sg_type Tryz.underlying125 Tryz.underlying9 (by kernel_rfl) (by kernel_rfl) h3, strs_of_head wd_name wd_type Tryz.underlying94 Tryz.underlying9 (by kernel_rfl) (by kernel_rfl) h4⟩
  have h7 := hsh.1 7 (((begin Tryz.prog (fun _ _ => 0) default).world.heap[7]?.bind Obj.row?).get!).1 (((begin Tryz.prog (fun _ _ => 0) default).world.heap[7]?.bind Obj.row?).get!).2 (of_decide_eq_true (by kernel_rfl)) (by kernel_rfl)
  obtain ⟨cs, hcs, _⟩ := h7
  have := (Array.getElem?_eq_some_iff.1 hcs).1
  omega
end Go.Proofs.YtmfbnlaohlnljaaGreatDoor
