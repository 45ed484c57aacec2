/-
  DERIVED. GIVEN WITH THE SEED: THE CARDS: each row of YtnhcjgnohnedaaaGreatDoorRows.lean that lists a variable, with what it lists TIED to the program's text (the seventh form; the later family's looks); each row that meets fmt, with fmt's text TOLD by the authors' own Lean function (tested against real Go, not proved from fmt's source: count such statements apart). THE CARD IS WHAT COUNTS. Prove the row's statement (the work); the ties are given (YtnhcjgnohnedaaaGreatDoorTie.lean); close each card by the builder's one call (the guide's Derived/Test/ToyasCard.lean, 'card_holds'). Laid BY PROGRAM, IN A SANDBOX (cutbox-door.mjs). By AI agents, Wed Nov 11 2026. No macro, syntax, notation, axiom, sorry.
-/
import Derived.Test.YtnhcjgnohnedaaaGreatDoorRows
import GoSem.ClaimSeven
namespace Go.Proofs.YtnhcjgnohnedaaaGreatDoor
namespace Rows

/-- THE TIED CARD OF 'fleuronlaw04.MacroExpands'. -/
def macroExpandsCard : Claim7 := { stood := { row := macroExpandsRow, standIns := [], harness := (true, "659f6ff25309612f9334021cb48002ecf2e5fda10db59ddc7ca11bf440321619"), looks := true }, kinds := [], alts := [], laidByText := true, laidKinds := [.data, .data, .data, .data, .data, .data, .pinned], laidTests := true, laidLooks := .later }
def MacroExpandsCardSaid : Prop := Claim7.holds Tryz.pinned (.plain (OpenSpec.ofChange macroExpandsSpec)) macroExpandsCard

/-- THE TIED CARD OF 'fleuronlaw04.MacroRenames'. -/
def macroRenamesCard : Claim7 := { stood := { row := macroRenamesRow, standIns := [], harness := (true, "659f6ff25309612f9334021cb48002ecf2e5fda10db59ddc7ca11bf440321619"), looks := true }, kinds := [], alts := [], laidByText := true, laidKinds := [.data, .data, .data, .data, .data, .data, .pinned], laidTests := true, laidLooks := .later }
def MacroRenamesCardSaid : Prop := Claim7.holds Tryz.pinned (.plain (OpenSpec.ofChange macroRenamesSpec)) macroRenamesCard

/-- THE TIED CARD OF 'fleuronlaw04.MacroAgain'. -/
def macroAgainCard : Claim7 := { stood := { row := macroAgainRow, standIns := [], harness := (true, "659f6ff25309612f9334021cb48002ecf2e5fda10db59ddc7ca11bf440321619"), looks := true }, kinds := [], alts := [], laidByText := true, laidKinds := [.data, .data, .data, .data, .data, .data, .pinned], laidTests := true, laidLooks := .later }
def MacroAgainCardSaid : Prop := Claim7.holds Tryz.pinned (.plain (OpenSpec.ofChange macroAgainSpec)) macroAgainCard

/-- THE TIED CARD OF 'fleuronlaw04.MacroPlain'. -/
def macroPlainCard : Claim7 := { stood := { row := macroPlainRow, standIns := [], harness := (true, "659f6ff25309612f9334021cb48002ecf2e5fda10db59ddc7ca11bf440321619"), looks := true }, kinds := [], alts := [], laidByText := true, laidKinds := [.data, .data, .data, .data, .data, .data, .pinned], laidTests := true, laidLooks := .later }
def MacroPlainCardSaid : Prop := Claim7.holds Tryz.pinned (.plain (OpenSpec.ofChange macroPlainSpec)) macroPlainCard

/-- THE TIED CARD OF 'fleuronlaw04.MacroRenamed'. -/
def macroRenamedCard : Claim7 := { stood := { row := macroRenamedRow, standIns := [], harness := (true, "659f6ff25309612f9334021cb48002ecf2e5fda10db59ddc7ca11bf440321619"), looks := true }, kinds := [], alts := [], laidByText := true, laidKinds := [.data, .data, .data, .data, .data, .data, .pinned], laidTests := true, laidLooks := .later }
def MacroRenamedCardSaid : Prop := Claim7.holds Tryz.pinned (.plain (OpenSpec.ofChange macroRenamedSpec)) macroRenamedCard

/-- THE TIED CARD OF 'fleuronlaw04.MacroOwn'. -/
def macroOwnCard : Claim7 := { stood := { row := macroOwnRow, standIns := [], harness := (true, "659f6ff25309612f9334021cb48002ecf2e5fda10db59ddc7ca11bf440321619"), looks := true }, kinds := [], alts := [], laidByText := true, laidKinds := [.data, .data, .data, .data, .data, .data, .pinned], laidTests := true, laidLooks := .later }
def MacroOwnCardSaid : Prop := Claim7.holds Tryz.pinned (.plain (OpenSpec.ofChange macroOwnSpec)) macroOwnCard

/-- THE SECOND FORM's CARD OF 'fleuronlaw04.MacroExpands'. -/
def macroExpandsUptoCard : Claim7 := { stood := { row := macroExpandsUptoRow, standIns := [], harness := (true, "659f6ff25309612f9334021cb48002ecf2e5fda10db59ddc7ca11bf440321619"), looks := true }, kinds := [], alts := [], laidByText := true, laidKinds := [.data, .data, .data, .data, .data, .data, .pinned], laidTests := true, laidLooks := .later }
def MacroExpandsUptoCardSaid : Prop := Claim7.holds Tryz.pinned (.plain (OpenSpec.upto macroExpandsSpec)) macroExpandsUptoCard

/-- THE SECOND FORM's CARD OF 'fleuronlaw04.MacroRenames'. -/
def macroRenamesUptoCard : Claim7 := { stood := { row := macroRenamesUptoRow, standIns := [], harness := (true, "659f6ff25309612f9334021cb48002ecf2e5fda10db59ddc7ca11bf440321619"), looks := true }, kinds := [], alts := [], laidByText := true, laidKinds := [.data, .data, .data, .data, .data, .data, .pinned], laidTests := true, laidLooks := .later }
def MacroRenamesUptoCardSaid : Prop := Claim7.holds Tryz.pinned (.plain (OpenSpec.upto macroRenamesSpec)) macroRenamesUptoCard

/-- THE SECOND FORM's CARD OF 'fleuronlaw04.MacroAgain'. -/
def macroAgainUptoCard : Claim7 := { stood := { row := macroAgainUptoRow, standIns := [], harness := (true, "659f6ff25309612f9334021cb48002ecf2e5fda10db59ddc7ca11bf440321619"), looks := true }, kinds := [], alts := [], laidByText := true, laidKinds := [.data, .data, .data, .data, .data, .data, .pinned], laidTests := true, laidLooks := .later }
def MacroAgainUptoCardSaid : Prop := Claim7.holds Tryz.pinned (.plain (OpenSpec.upto macroAgainSpec)) macroAgainUptoCard

/-- THE SECOND FORM's CARD OF 'fleuronlaw04.MacroPlain'. -/
def macroPlainUptoCard : Claim7 := { stood := { row := macroPlainUptoRow, standIns := [], harness := (true, "659f6ff25309612f9334021cb48002ecf2e5fda10db59ddc7ca11bf440321619"), looks := true }, kinds := [], alts := [], laidByText := true, laidKinds := [.data, .data, .data, .data, .data, .data, .pinned], laidTests := true, laidLooks := .later }
def MacroPlainUptoCardSaid : Prop := Claim7.holds Tryz.pinned (.plain (OpenSpec.upto macroPlainSpec)) macroPlainUptoCard

/-- THE SECOND FORM's CARD OF 'fleuronlaw04.MacroRenamed'. -/
def macroRenamedUptoCard : Claim7 := { stood := { row := macroRenamedUptoRow, standIns := [], harness := (true, "659f6ff25309612f9334021cb48002ecf2e5fda10db59ddc7ca11bf440321619"), looks := true }, kinds := [], alts := [], laidByText := true, laidKinds := [.data, .data, .data, .data, .data, .data, .pinned], laidTests := true, laidLooks := .later }
def MacroRenamedUptoCardSaid : Prop := Claim7.holds Tryz.pinned (.plain (OpenSpec.upto macroRenamedSpec)) macroRenamedUptoCard

/-- THE SECOND FORM's CARD OF 'fleuronlaw04.MacroOwn'. -/
def macroOwnUptoCard : Claim7 := { stood := { row := macroOwnUptoRow, standIns := [], harness := (true, "659f6ff25309612f9334021cb48002ecf2e5fda10db59ddc7ca11bf440321619"), looks := true }, kinds := [], alts := [], laidByText := true, laidKinds := [.data, .data, .data, .data, .data, .data, .pinned], laidTests := true, laidLooks := .later }
def MacroOwnUptoCardSaid : Prop := Claim7.holds Tryz.pinned (.plain (OpenSpec.upto macroOwnSpec)) macroOwnUptoCard
end Rows
end Go.Proofs.YtnhcjgnohnedaaaGreatDoor
