/-
  From a walk to a row: what the listed variables give, a start that meets the condition, the frame of a law's proof.
-/
-- LAW 01
import Derived.Test.YtanhomngnickfaaDoorNParse
import Derived.Stop.LaidErr
import Derived.Test.YtanhomngnickfaaDoorCards
import Derived.Test.YtanhomngnickfaaDoorTie
import Derived.ProofKit
import Derived.LaidMore
import Derived.LaidSub
import Derived.OpenShut
import Derived.HandedShaped
import Derived.Stop.Joined
import Derived.Lib.SmallJoins
namespace Go.Proofs.YtanhomngnickfaaDoor
open Go.ChangeShapes Go.WideShapes Go.ChangeAt Go.RowKit Go.Joins

theorem own : ownKnob Tryd.prog.godebug = none := by kernel_rfl
theorem cells_num : Tryd.prog.cellsOf 41 = 2 := by kernel_rfl
/-- A law whose row lists variables: the shape of the world is handed on, too. -/
theorem returns_and_shaped {H : Type} {enc : TypeId × Value → H} {a : Assume} {C : Checked} {os : Os} {f : FuncId} {fn : Func} {s : ChangeSpec} {apart fresh handsOn again : Bool} {X : World → Array Value → Prop}
    (hX : ∀ (w w' : World) (args : Array Value), w.heap = w'.heap → X w args → X w' args)
    (own : ownKnob C.prog.godebug = none) (started : os.Started) (noInit : C.prog.inits.idxOf? f = none) (hfn : C.prog.funcs[f]? = some fn)
    (witness : ∃ (w : World) (tape : Tape) (i : Input), w.os = os ∧ (w.forCall tape i).Shaped C.prog ∧ i.vars = [] ∧ Input.okWide C.prog (w.forCall tape i) .any w.heap.size f i ∧
      ((s.pre enc C.prog fn [] apart (w.forCall tape i).memory i.args ∧ X (w.forCall tape i).memory i.args) ∧ sizedMet enc C.prog fn (OpenSpec.ofChange s) apart (w.forCall tape i).memory i.args) ∧ a.holds C.prog (lone (Frame.enter C.prog f i.args .normal) [] (w.forCall tape i)))
    (contract : ∀ (W : World) (base : Nat) (args : Array Value) (ds gs : List (DataW H)) (before : List MemPlace),
      (∀ (j : Nat) t v, fn.params[j]? = some t → args[j]? = some v → Value.okWide C.prog W .any base t v) →
      DataW.Whole enc C.prog fn.params.toList s.vars apart W args.toList ds gs before →
      W.ShapedOpen C.prog → X W args →
      Calls C.prog f args W fun e W' => ∃ v, e = .returned v ∧ s.post enc C.prog fn apart fresh handsOn again W args v W') :
    ReturnsInHanded a C os f .any (fun w args => (s.pre enc C.prog fn [] apart w args ∧ X w args) ∧ sizedMet enc C.prog fn (OpenSpec.ofChange s) apart w args) (s.post enc C.prog fn apart fresh handsOn again) := by
  refine returnsInHanded_of_calls own started noInit witness ?_
  intro w tape i _ hsh _ hok hpre _
  obtain ⟨_, _, _, fn', hfn', _, _, _, _, hval⟩ := hok
  have e : fn' = fn := Option.some.inj (hfn'.symm.trans hfn)
  subst e
  obtain ⟨⟨⟨ds, gs, before, hw, _⟩, hx⟩, _⟩ := hpre
  have hw' := DataW.Whole.of_heap (w' := w.forCall tape i) (by rfl) hw
  refine (contract (w.forCall tape i) w.heap.size i.args ds gs before hval hw' hsh (hX _ _ _ (by rfl) hx)).mono fun e W' ⟨v, he, hp⟩ => ?_
  subst he
  exact ChangeSpec.post_blind hp

/-- The five listed variables: three tables, two sentinels. -/
abbrev laid5 : List (String × DataW Unit) := Rows.numBackRow.laid
theorem pow_type : (Tryd.prog.globals[3]?).map (·.type) = some 109 := by kernel_rfl
theorem pow_only : (laid5.filter fun x => x.1 == "internal/strconv.uint64pow10") = [("internal/strconv.uint64pow10", Lib.tabData .u64 Lib.pow10Tab)] := by kernel_rfl
theorem syn_type : (Tryd.prog.globals[4]?).map (·.type) = some 71 := by kernel_rfl
theorem ran_type : (Tryd.prog.globals[5]?).map (·.type) = some 71 := by kernel_rfl
theorem cells_es : Tryd.prog.cellsOf 124 = 1 := by kernel_rfl
theorem cells_str : Tryd.prog.cellsOf 9 = 1 := by kernel_rfl
theorem star_es : "*" ++ "errors.errorString" = "*errors.errorString" := by decide
theorem row_es (u : TypeId) (h : Tryd.prog.typeName? 3 u = some "*errors.errorString") : u = 122 :=
  typeName_ptr_named (nm := "errors.errorString") (by rw [star_es]; kernel_rfl) (by kernel_rfl) (by decide) u (by rw [star_es]; exact h)
theorem syn_only : (laid5.filter fun x => x.1 == "strconv.ErrSyntax") = [("strconv.ErrSyntax", .iface "*errors.errorString" (.ptr (.agg [.lit (.string [105, 110, 118, 97, 108, 105, 100, 32, 115, 121, 110, 116, 97, 120])])))] := by kernel_rfl
theorem ran_only : (laid5.filter fun x => x.1 == "strconv.ErrRange") = [("strconv.ErrRange", .iface "*errors.errorString" (.ptr (.agg [.lit (.string [118, 97, 108, 117, 101, 32, 111, 117, 116, 32, 111, 102, 32, 114, 97, 110, 103, 101])])))] := by kernel_rfl
theorem env5_of {W : World} (hsh : W.ShapedOpen Tryd.prog) (h : laidMetH Tryd.prog laid5 W) : Env5 W := by
  rw [MakeChecks.laidMetH_plain _ _ _ (by kernel_rfl)] at h
  have h2 := h.filter fun x => x.1 == "internal/strconv.uint64pow10"
  rw [pow_only] at h2
  have h3 := h.filter fun x => x.1 == "strconv.ErrSyntax"
  rw [syn_only] at h3
  have h4 := h.filter fun x => x.1 == "strconv.ErrRange"
  rw [ran_only] at h4
  obtain ⟨m, hm⟩ := Tryd.laysM145.s1_3 W hsh
  obtain ⟨a3, s3, v3, -, -, -⟩ := laid_sentinel h3 syn_name syn_type Tryd.underlying71 row_es Tryd.underlying122 Tryd.underlying124 rfl rfl Tryd.underlying9 cells_es cells_str
  obtain ⟨a4, s4, v4, -, -, -⟩ := laid_sentinel h4 ran_name ran_type Tryd.underlying71 row_es Tryd.underlying122 Tryd.underlying124 rfl rfl Tryd.underlying9 cells_es cells_str
  refine ⟨⟨⟨m, hm⟩, Lib.tabIs_of_head pow_name pow_type Tryd.underlying109 Tryd.underlying68 (by kernel_rfl) (by kernel_rfl) h2, ?_⟩, ⟨_, _, v3⟩, ⟨_, _, v4⟩⟩
  have h7 := hsh.1 7 (((begin Tryd.prog (fun _ _ => 0) default).world.heap[7]?.bind Obj.row?).get!).1 (((begin Tryd.prog (fun _ _ => 0) default).world.heap[7]?.bind Obj.row?).get!).2 (of_decide_eq_true (by kernel_rfl)) (by kernel_rfl)
  obtain ⟨cs, hcs, _⟩ := h7
  have := (Array.getElem?_eq_some_iff.1 hcs).1
  omega
/-- The door's own heap meets the condition. -/
theorem door_met5 (os : Os) (args : Array Value) : laidMetH Tryd.prog laid5 ((World.doorLaid Tryd.prog 4000 os).forCall (fun _ _ => 0) ⟨#[], args, []⟩).memory :=
  laidMetH_of_parts3 (fuel := 8) (laidMet_of_run' 8 (by kernel_rfl) (by kernel_rfl)) (by kernel_rfl) (by kernel_rfl)
end Go.Proofs.YtanhomngnickfaaDoor
