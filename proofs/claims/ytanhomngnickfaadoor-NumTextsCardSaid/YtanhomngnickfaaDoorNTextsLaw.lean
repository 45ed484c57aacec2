/-
  NumTexts: it returns true at every input; each argument reads behind the call as it read before. Conditions: the row's listed tables of the library hold what the program's text lays into them (the card ties them).
-/
-- LAW 01
import Derived.Test.YtanhomngnickfaaDoorNLift5
import Derived.Test.YtanhomngnickfaaDoorNTexts
namespace Go.Proofs.YtanhomngnickfaaDoor
open Go.ChangeShapes Go.WideShapes Go.ChangeAt Go.RowKit Go.Joins
open Go.ChangeMaps (open_string shut_string)

set_option maxRecDepth 100000 in
theorem numTexts_lifted (os : Os) (started : os.Started) (H : Type) (enc : TypeId × Value → H) :
    ReturnsInHanded {} Tryd.checked os 13 .any (fun w args => (Rows.numTextsSpec.pre enc Tryd.prog Tryd.f13 [] false w args ∧ laidMetH Tryd.prog laid5 w) ∧ sizedMet enc Tryd.prog Tryd.f13 (OpenSpec.ofChange Rows.numTextsSpec) false w args)
      (Rows.numTextsSpec.post enc Tryd.prog Tryd.f13 false true false false) := by
  refine returns_and_shaped (C := Tryd.checked) (X := fun w _ => laidMetH Tryd.prog laid5 w) (fun _ _ _ hh h => h.of_heap hh) own started (by kernel_rfl) Tryd.func13
    (ChangeSpec.witness_shaped (enc := enc) (C := Tryd.checked) (os := os) (X := fun w _ => laidMetH Tryd.prog laid5 w) false (World.doorLaid Tryd.prog 4000 os) #[.agg #[.int .i64 0, .int .i64 0], .string ⟨#[]⟩] 8 rfl (World.shaped_of_RefB (by kernel_rfl) (by kernel_rfl)) (by kernel_rfl) (by kernel_rfl) (by kernel_rfl) (door_met5 os _)) ?_
  intro W base args ds gs before hval0 hW hsh hL
  have hval : ∀ (j : Nat) t v, Tryd.f13.params[j]? = some t → args[j]? = some v → Value.okWide Tryd.prog W .any base t v := hval0
  have hW' := hW
  obtain ⟨p0, q0, hA0, hV, rfl, hfz, hnd⟩ := hW
  have hA : DataW.TrodAll enc Tryd.prog W 0 (fun _ => true) true Tryd.f13.params.toList args.toList ds p0 := hA0
  rw [Tryd.params13] at hA hval
  obtain ⟨v0, v1, d0, d1, pp0, pp1, rfl, rfl, rfl, h0, h1⟩ := trodAll_two hA
  obtain ⟨rfl, rfl⟩ := trodVars_none hV
  obtain ⟨c0_0, c1_0, y0_0, y1_0, m_0, rfl, rfl, rfl, hy0_0, hy1_0⟩ := open_agg2 Tryd.underlying41 (by kernel_rfl) cells_num (hval 0 41 v0 rfl rfl) h0
  obtain ⟨aP, e0_0, rfl, w_aP⟩ := DataW.trod_int Tryd.underlying2 hy0_0
  obtain ⟨lo_aP, hi_aP⟩ := bounds_i64 w_aP
  obtain ⟨aQ, e1_0, rfl, w_aQ⟩ := DataW.trod_int Tryd.underlying2 hy1_0
  obtain ⟨lo_aQ, hi_aQ⟩ := bounds_i64 w_aQ
  simp at e0_0 e1_0
  subst e0_0 e1_0
  obtain ⟨s, rfl, rfl, rfl, ws_s⟩ := open_string Tryd.underlying9 (hval 1 9 v1 rfl rfl) h1
  clear hA0 hval0
  refine (numTexts_walk aP aQ s W (env5_of hsh hL) lo_aP hi_aP lo_aQ hi_aQ ws_s).mono fun e W' ⟨he, bel⟩ => ?_
  subst he
  refine ⟨_, rfl, _, _, _, [], [], [], hW', ?_, ?_, ?_, bel.frame _, fun h => by cases h⟩
  · exact trodAll_mk1 (shut_bool Tryd.underlying4 _)
  · exact trodAll_mk2 (shut_agg2 (y0 := (.lit (.int .i64 aP), [])) (y1 := (.lit (.int .i64 aQ), [])) Tryd.underlying41 (by kernel_rfl) cells_num ⟨1, by simp [DataW.trod, Tryd.underlying2, w_aP]⟩ ⟨1, by simp [DataW.trod, Tryd.underlying2, w_aQ]⟩) (shut_string Tryd.underlying9 ws_s)
  · rfl

theorem numTexts_holds : Rows.NumTextsSaid :=
  OpenClaim.holds_of_wide 13 Tryd.f13 rfl rfl rfl rfl rfl rfl rfl ⟨rfl, rfl, rfl, rfl, rfl⟩ rfl rfl rfl rfl rfl (by kernel_rfl) Tryd.func13 (by kernel_rfl)
    (of_decide_eq_true (by kernel_rfl)) (by unfold Func.isWrapper; rw [if_neg (of_decide_eq_false (by kernel_rfl))]; exact ⟨rfl, rfl⟩)
    (fun os started H enc _ => numTexts_lifted os started H enc)

/-- The card: the row, its listed variables tied to the program's text. -/
theorem numTexts_card : Rows.NumTextsCardSaid :=
  Claim7.holds_tied_plain_at .later [] [.data, .data, .data, .sentinel, .sentinel] true (true, "5d23e6b050707f5a406631c389fbd670ee127d3ca867c74318cfbd48d197eb7c") true
    numTexts_holds (fun _ h => by cases h) (by kernel_rfl) (fun _ h => by cases h) numTexts_row_tie rfl ⟨rfl, rfl⟩ (by kernel_rfl) rfl
    (fun f fn hf hfn => by
      obtain rfl : f = 13 := Option.some.inj ((show Tryd.prog.funcNamed "fleuron/fleuronlaw01.NumTexts" = some 13 by kernel_rfl).symm.trans hf) |>.symm
      obtain rfl : fn = Tryd.f13 := (Option.some.inj (Tryd.func13.symm.trans hfn)).symm
      exact ⟨by kernel_rfl, fun j t ht => by
        rw [Tryd.params13] at ht
        have hm : t ∈ [41, 9] := by simpa using Array.mem_of_getElem? ht
        have hall : ([41, 9].all fun u => !Tryd.prog.wantsStandIn u) = true := by kernel_rfl
        exact (show Tryd.prog.wantsStandIn t = false by simpa using List.all_eq_true.1 hall t hm)⟩)
    (by kernel_rfl)
#print axioms numTexts_card
end Go.Proofs.YtanhomngnickfaaDoor
