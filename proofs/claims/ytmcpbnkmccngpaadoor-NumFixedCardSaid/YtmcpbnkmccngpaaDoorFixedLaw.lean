/-
  NumFixed: it returns true at every input; each argument reads behind the call as it read before. Conditions: the row's listed tables of the library hold what the program's text lays into them (the card ties them).
-/
-- LAW 01
import Derived.Test.YtmcpbnkmccngpaaDoorLift
import Derived.Test.YtmcpbnkmccngpaaDoorFixed
namespace Go.Proofs.YtmcpbnkmccngpaaDoor
open Go.ChangeShapes Go.WideShapes Go.ChangeAt Go.RowKit Go.Joins
open Go.ChangeMaps (open_string shut_string)

set_option maxRecDepth 100000 in
theorem numFixed_lifted (os : Os) (started : os.Started) (H : Type) (enc : TypeId × Value → H) :
    ReturnsInHanded {} Tryd.checked os 11 .any (fun w args => (Rows.numFixedSpec.pre enc Tryd.prog Tryd.f11 [] false w args ∧ laidMetH Tryd.prog laid3 w) ∧ sizedMet enc Tryd.prog Tryd.f11 (OpenSpec.ofChange Rows.numFixedSpec) false w args)
      (Rows.numFixedSpec.post enc Tryd.prog Tryd.f11 false true false false) := by
  refine returns_and_shaped (C := Tryd.checked) (X := fun w _ => laidMetH Tryd.prog laid3 w) (fun _ _ _ hh h => h.of_heap hh) own started (by kernel_rfl) Tryd.func11
    (ChangeSpec.witness_shaped (enc := enc) (C := Tryd.checked) (os := os) (X := fun w _ => laidMetH Tryd.prog laid3 w) false (World.doorLaid Tryd.prog 4000 os) #[.agg #[.int .i64 0, .int .i64 0], .int .i64 0] 8 rfl (World.shaped_of_RefB (by kernel_rfl) (by kernel_rfl)) (by kernel_rfl) (by kernel_rfl) (by kernel_rfl) (door_met os _)) ?_
  intro W base args ds gs before hval0 hW hsh hL
  have hval : ∀ (j : Nat) t v, Tryd.f11.params[j]? = some t → args[j]? = some v → Value.okWide Tryd.prog W .any base t v := hval0
  have hW' := hW
  obtain ⟨p0, q0, hA0, hV, rfl, hfz, hnd⟩ := hW
  have hA : DataW.TrodAll enc Tryd.prog W 0 (fun _ => true) true Tryd.f11.params.toList args.toList ds p0 := hA0
  rw [Tryd.params11] at hA hval
  obtain ⟨v0, v1, d0, d1, pp0, pp1, rfl, rfl, rfl, h0, h1⟩ := trodAll_two hA
  obtain ⟨rfl, rfl⟩ := trodVars_none hV
  obtain ⟨c0_0, c1_0, y0_0, y1_0, m_0, rfl, rfl, rfl, hy0_0, hy1_0⟩ := open_agg2 Tryd.underlying23 (by kernel_rfl) cells_num (hval 0 23 v0 rfl rfl) h0
  obtain ⟨aP, e0_0, rfl, w_aP⟩ := DataW.trod_int Tryd.underlying2 hy0_0
  obtain ⟨lo_aP, hi_aP⟩ := bounds_i64 w_aP
  obtain ⟨aQ, e1_0, rfl, w_aQ⟩ := DataW.trod_int Tryd.underlying2 hy1_0
  obtain ⟨lo_aQ, hi_aQ⟩ := bounds_i64 w_aQ
  simp at e0_0 e1_0
  subst e0_0 e1_0
  obtain ⟨n, rfl, rfl, rfl, w_n⟩ := open_int Tryd.underlying3 (hval 1 3 v1 rfl rfl) h1
  obtain ⟨lo_n, hi_n⟩ := bounds_i64 w_n
  clear hA0 hval0
  refine (numFixed_walk aP aQ n W (env_of hsh hL) lo_aP hi_aP lo_aQ hi_aQ lo_n hi_n).mono fun e W' ⟨he, bel⟩ => ?_
  subst he
  refine ⟨_, rfl, _, _, _, [], [], [], hW', ?_, ?_, ?_, bel.frame _, fun h => by cases h⟩
  · exact trodAll_mk1 (shut_bool Tryd.underlying4 _)
  · exact trodAll_mk2 (shut_agg2 (y0 := (.lit (.int .i64 aP), [])) (y1 := (.lit (.int .i64 aQ), [])) Tryd.underlying23 (by kernel_rfl) cells_num ⟨1, by simp [DataW.trod, Tryd.underlying2, w_aP]⟩ ⟨1, by simp [DataW.trod, Tryd.underlying2, w_aQ]⟩) (shut_int Tryd.underlying3 w_n)
  · rfl

theorem numFixed_holds : Rows.NumFixedSaid :=
  OpenClaim.holds_of_wide 11 Tryd.f11 rfl rfl rfl rfl rfl rfl rfl ⟨rfl, rfl, rfl, rfl, rfl⟩ rfl rfl rfl rfl rfl (by kernel_rfl) Tryd.func11 (by kernel_rfl)
    (of_decide_eq_true (by kernel_rfl)) (by unfold Func.isWrapper; rw [if_neg (of_decide_eq_false (by kernel_rfl))]; exact ⟨rfl, rfl⟩)
    (fun os started H enc _ => numFixed_lifted os started H enc)

/-- The card: the row, its listed variables tied to the program's text. -/
theorem numFixed_card : Rows.NumFixedCardSaid :=
  Claim7.holds_tied_plain_at .later [] [.data, .data, .data] true (true, "ba4c8769b6e005718cd005db86fc5fc0c33e1afbefc43e7ebc318c734856e131") true
    numFixed_holds (fun _ h => by cases h) (by kernel_rfl) (fun _ h => by cases h) numFixed_row_tie rfl ⟨rfl, rfl⟩ (by kernel_rfl) rfl
    (fun f fn hf hfn => by
      obtain rfl : f = 11 := Option.some.inj ((show Tryd.prog.funcNamed "fleuron/fleuronlaw01.NumFixed" = some 11 by kernel_rfl).symm.trans hf) |>.symm
      obtain rfl : fn = Tryd.f11 := (Option.some.inj (Tryd.func11.symm.trans hfn)).symm
      exact ⟨by kernel_rfl, fun j t ht => by
        rw [Tryd.params11] at ht
        have hm : t ∈ [23, 3] := by simpa using Array.mem_of_getElem? ht
        have hall : ([23, 3].all fun u => !Tryd.prog.wantsStandIn u) = true := by kernel_rfl
        exact (show Tryd.prog.wantsStandIn t = false by simpa using List.all_eq_true.1 hall t hm)⟩)
    (by kernel_rfl)
#print axioms numFixed_card
end Go.Proofs.YtmcpbnkmccngpaaDoor
