/-
  DERIVED. GIVEN WITH THE SEED: THE CARDS: each row of YtanhomngnickfaaDoorRows.lean that lists a variable, with what it lists TIED to the program's text (the seventh form; the later family's looks); each row that meets fmt, with fmt's text TOLD by the authors' own Lean function (tested against real Go, not proved from fmt's source: count such statements apart). THE CARD IS WHAT COUNTS. Prove the row's statement (the work); the ties are given (YtanhomngnickfaaDoorTie.lean); close each card by the builder's one call (the guide's Derived/Test/ToyasCard.lean, 'card_holds'). Laid BY PROGRAM, IN A SANDBOX (cutbox-door.mjs). By AI agents, Wed Nov 11 2026. No macro, syntax, notation, axiom, sorry.
-/
import Derived.Test.YtanhomngnickfaaDoorRows
import GoSem.ClaimSeven
namespace Go.Proofs.YtanhomngnickfaaDoor
namespace Rows

/-- THE TIED CARD OF 'fleuronlaw02.FixMuls'. -/
def fixMulsCard : Claim7 := { stood := { row := fixMulsRow, standIns := [], harness := (true, "5d23e6b050707f5a406631c389fbd670ee127d3ca867c74318cfbd48d197eb7c"), looks := true }, kinds := [], alts := [], laidByText := true, laidKinds := [.data, .data, .data], laidTests := true, laidLooks := .later }
def FixMulsCardSaid : Prop := Claim7.holds Tryd.pinned (.plain (OpenSpec.ofChange fixMulsSpec)) fixMulsCard

/-- THE TIED CARD OF 'fleuronlaw02.FixRoots'. -/
def fixRootsCard : Claim7 := { stood := { row := fixRootsRow, standIns := [], harness := (true, "5d23e6b050707f5a406631c389fbd670ee127d3ca867c74318cfbd48d197eb7c"), looks := true }, kinds := [], alts := [], laidByText := true, laidKinds := [.data, .data, .data], laidTests := true, laidLooks := .later }
def FixRootsCardSaid : Prop := Claim7.holds Tryd.pinned (.plain (OpenSpec.ofChange fixRootsSpec)) fixRootsCard

/-- THE TIED CARD OF 'fleuronlaw02.FixSines'. -/
def fixSinesCard : Claim7 := { stood := { row := fixSinesRow, standIns := [], harness := (true, "5d23e6b050707f5a406631c389fbd670ee127d3ca867c74318cfbd48d197eb7c"), looks := true }, kinds := [], alts := [], laidByText := true, laidKinds := [.data, .data, .data], laidTests := true, laidLooks := .later }
def FixSinesCardSaid : Prop := Claim7.holds Tryd.pinned (.plain (OpenSpec.ofChange fixSinesSpec)) fixSinesCard

/-- THE TIED CARD OF 'fleuronlaw02.FixTurns'. -/
def fixTurnsCard : Claim7 := { stood := { row := fixTurnsRow, standIns := [], harness := (true, "5d23e6b050707f5a406631c389fbd670ee127d3ca867c74318cfbd48d197eb7c"), looks := true }, kinds := [], alts := [], laidByText := true, laidKinds := [.data, .data, .data], laidTests := true, laidLooks := .later }
def FixTurnsCardSaid : Prop := Claim7.holds Tryd.pinned (.plain (OpenSpec.ofChange fixTurnsSpec)) fixTurnsCard

/-- THE TIED CARD OF 'fleuronlaw02.FixArgs'. -/
def fixArgsCard : Claim7 := { stood := { row := fixArgsRow, standIns := [], harness := (true, "5d23e6b050707f5a406631c389fbd670ee127d3ca867c74318cfbd48d197eb7c"), looks := true }, kinds := [], alts := [], laidByText := true, laidKinds := [.data, .data, .data], laidTests := true, laidLooks := .later }
def FixArgsCardSaid : Prop := Claim7.holds Tryd.pinned (.plain (OpenSpec.ofChange fixArgsSpec)) fixArgsCard

/-- THE TIED CARD OF 'fleuronlaw02.FixTexts'. -/
def fixTextsCard : Claim7 := { stood := { row := fixTextsRow, standIns := [], harness := (true, "5d23e6b050707f5a406631c389fbd670ee127d3ca867c74318cfbd48d197eb7c"), looks := true }, kinds := [], alts := [], laidByText := true, laidKinds := [.data, .data, .data], laidTests := true, laidLooks := .later }
def FixTextsCardSaid : Prop := Claim7.holds Tryd.pinned (.plain (OpenSpec.ofChange fixTextsSpec)) fixTextsCard

/-- THE TIED CARD OF 'fleuronlaw02.FixQuarters'. -/
def fixQuartersCard : Claim7 := { stood := { row := fixQuartersRow, standIns := [], harness := (true, "5d23e6b050707f5a406631c389fbd670ee127d3ca867c74318cfbd48d197eb7c"), looks := true }, kinds := [], alts := [], laidByText := true, laidKinds := [.data, .data, .data], laidTests := true, laidLooks := .later }
def FixQuartersCardSaid : Prop := Claim7.holds Tryd.pinned (.plain (OpenSpec.ofChange fixQuartersSpec)) fixQuartersCard

/-- THE TIED CARD OF 'fleuronlaw02.FixHypots'. -/
def fixHypotsCard : Claim7 := { stood := { row := fixHypotsRow, standIns := [], harness := (true, "5d23e6b050707f5a406631c389fbd670ee127d3ca867c74318cfbd48d197eb7c"), looks := true }, kinds := [], alts := [], laidByText := true, laidKinds := [.data, .data, .data], laidTests := true, laidLooks := .later }
def FixHypotsCardSaid : Prop := Claim7.holds Tryd.pinned (.plain (OpenSpec.ofChange fixHypotsSpec)) fixHypotsCard

/-- THE TIED CARD OF 'fleuronlaw02.FixBack'. -/
def fixBackCard : Claim7 := { stood := { row := fixBackRow, standIns := [], harness := (true, "5d23e6b050707f5a406631c389fbd670ee127d3ca867c74318cfbd48d197eb7c"), looks := true }, kinds := [], alts := [], laidByText := true, laidKinds := [.data, .data, .data], laidTests := true, laidLooks := .later }
def FixBackCardSaid : Prop := Claim7.holds Tryd.pinned (.plain (OpenSpec.ofChange fixBackSpec)) fixBackCard

/-- THE TIED CARD OF 'fleuronlaw02.FixTurned'. -/
def fixTurnedCard : Claim7 := { stood := { row := fixTurnedRow, standIns := [], harness := (true, "5d23e6b050707f5a406631c389fbd670ee127d3ca867c74318cfbd48d197eb7c"), looks := true }, kinds := [], alts := [], laidByText := true, laidKinds := [.data, .data, .data], laidTests := true, laidLooks := .later }
def FixTurnedCardSaid : Prop := Claim7.holds Tryd.pinned (.plain (OpenSpec.ofChange fixTurnedSpec)) fixTurnedCard

/-- THE TIED CARD OF 'fleuronlaw01.NumTexts'. -/
def numTextsCard : Claim7 := { stood := { row := numTextsRow, standIns := [], harness := (true, "5d23e6b050707f5a406631c389fbd670ee127d3ca867c74318cfbd48d197eb7c"), looks := true }, kinds := [], alts := [], laidByText := true, laidKinds := [.data, .data, .data, .sentinel, .sentinel], laidTests := true, laidLooks := .later }
def NumTextsCardSaid : Prop := Claim7.holds Tryd.pinned (.plain (OpenSpec.ofChange numTextsSpec)) numTextsCard

/-- THE TIED CARD OF 'fleuronlaw01.NumBack'. -/
def numBackCard : Claim7 := { stood := { row := numBackRow, standIns := [], harness := (true, "5d23e6b050707f5a406631c389fbd670ee127d3ca867c74318cfbd48d197eb7c"), looks := true }, kinds := [], alts := [], laidByText := true, laidKinds := [.data, .data, .data, .sentinel, .sentinel], laidTests := true, laidLooks := .later }
def NumBackCardSaid : Prop := Claim7.holds Tryd.pinned (.plain (OpenSpec.ofChange numBackSpec)) numBackCard

/-- THE SECOND FORM's CARD OF 'fleuronlaw02.FixMuls'. -/
def fixMulsUptoCard : Claim7 := { stood := { row := fixMulsUptoRow, standIns := [], harness := (true, "5d23e6b050707f5a406631c389fbd670ee127d3ca867c74318cfbd48d197eb7c"), looks := true }, kinds := [], alts := [], laidByText := true, laidKinds := [.data, .data, .data], laidTests := true, laidLooks := .later }
def FixMulsUptoCardSaid : Prop := Claim7.holds Tryd.pinned (.plain (OpenSpec.upto fixMulsSpec)) fixMulsUptoCard

/-- THE SECOND FORM's CARD OF 'fleuronlaw02.FixRoots'. -/
def fixRootsUptoCard : Claim7 := { stood := { row := fixRootsUptoRow, standIns := [], harness := (true, "5d23e6b050707f5a406631c389fbd670ee127d3ca867c74318cfbd48d197eb7c"), looks := true }, kinds := [], alts := [], laidByText := true, laidKinds := [.data, .data, .data], laidTests := true, laidLooks := .later }
def FixRootsUptoCardSaid : Prop := Claim7.holds Tryd.pinned (.plain (OpenSpec.upto fixRootsSpec)) fixRootsUptoCard

/-- THE SECOND FORM's CARD OF 'fleuronlaw02.FixSines'. -/
def fixSinesUptoCard : Claim7 := { stood := { row := fixSinesUptoRow, standIns := [], harness := (true, "5d23e6b050707f5a406631c389fbd670ee127d3ca867c74318cfbd48d197eb7c"), looks := true }, kinds := [], alts := [], laidByText := true, laidKinds := [.data, .data, .data], laidTests := true, laidLooks := .later }
def FixSinesUptoCardSaid : Prop := Claim7.holds Tryd.pinned (.plain (OpenSpec.upto fixSinesSpec)) fixSinesUptoCard

/-- THE SECOND FORM's CARD OF 'fleuronlaw02.FixTurns'. -/
def fixTurnsUptoCard : Claim7 := { stood := { row := fixTurnsUptoRow, standIns := [], harness := (true, "5d23e6b050707f5a406631c389fbd670ee127d3ca867c74318cfbd48d197eb7c"), looks := true }, kinds := [], alts := [], laidByText := true, laidKinds := [.data, .data, .data], laidTests := true, laidLooks := .later }
def FixTurnsUptoCardSaid : Prop := Claim7.holds Tryd.pinned (.plain (OpenSpec.upto fixTurnsSpec)) fixTurnsUptoCard

/-- THE SECOND FORM's CARD OF 'fleuronlaw02.FixArgs'. -/
def fixArgsUptoCard : Claim7 := { stood := { row := fixArgsUptoRow, standIns := [], harness := (true, "5d23e6b050707f5a406631c389fbd670ee127d3ca867c74318cfbd48d197eb7c"), looks := true }, kinds := [], alts := [], laidByText := true, laidKinds := [.data, .data, .data], laidTests := true, laidLooks := .later }
def FixArgsUptoCardSaid : Prop := Claim7.holds Tryd.pinned (.plain (OpenSpec.upto fixArgsSpec)) fixArgsUptoCard

/-- THE SECOND FORM's CARD OF 'fleuronlaw02.FixTexts'. -/
def fixTextsUptoCard : Claim7 := { stood := { row := fixTextsUptoRow, standIns := [], harness := (true, "5d23e6b050707f5a406631c389fbd670ee127d3ca867c74318cfbd48d197eb7c"), looks := true }, kinds := [], alts := [], laidByText := true, laidKinds := [.data, .data, .data], laidTests := true, laidLooks := .later }
def FixTextsUptoCardSaid : Prop := Claim7.holds Tryd.pinned (.plain (OpenSpec.upto fixTextsSpec)) fixTextsUptoCard

/-- THE SECOND FORM's CARD OF 'fleuronlaw02.FixQuarters'. -/
def fixQuartersUptoCard : Claim7 := { stood := { row := fixQuartersUptoRow, standIns := [], harness := (true, "5d23e6b050707f5a406631c389fbd670ee127d3ca867c74318cfbd48d197eb7c"), looks := true }, kinds := [], alts := [], laidByText := true, laidKinds := [.data, .data, .data], laidTests := true, laidLooks := .later }
def FixQuartersUptoCardSaid : Prop := Claim7.holds Tryd.pinned (.plain (OpenSpec.upto fixQuartersSpec)) fixQuartersUptoCard

/-- THE SECOND FORM's CARD OF 'fleuronlaw02.FixHypots'. -/
def fixHypotsUptoCard : Claim7 := { stood := { row := fixHypotsUptoRow, standIns := [], harness := (true, "5d23e6b050707f5a406631c389fbd670ee127d3ca867c74318cfbd48d197eb7c"), looks := true }, kinds := [], alts := [], laidByText := true, laidKinds := [.data, .data, .data], laidTests := true, laidLooks := .later }
def FixHypotsUptoCardSaid : Prop := Claim7.holds Tryd.pinned (.plain (OpenSpec.upto fixHypotsSpec)) fixHypotsUptoCard

/-- THE SECOND FORM's CARD OF 'fleuronlaw02.FixBack'. -/
def fixBackUptoCard : Claim7 := { stood := { row := fixBackUptoRow, standIns := [], harness := (true, "5d23e6b050707f5a406631c389fbd670ee127d3ca867c74318cfbd48d197eb7c"), looks := true }, kinds := [], alts := [], laidByText := true, laidKinds := [.data, .data, .data], laidTests := true, laidLooks := .later }
def FixBackUptoCardSaid : Prop := Claim7.holds Tryd.pinned (.plain (OpenSpec.upto fixBackSpec)) fixBackUptoCard

/-- THE SECOND FORM's CARD OF 'fleuronlaw02.FixTurned'. -/
def fixTurnedUptoCard : Claim7 := { stood := { row := fixTurnedUptoRow, standIns := [], harness := (true, "5d23e6b050707f5a406631c389fbd670ee127d3ca867c74318cfbd48d197eb7c"), looks := true }, kinds := [], alts := [], laidByText := true, laidKinds := [.data, .data, .data], laidTests := true, laidLooks := .later }
def FixTurnedUptoCardSaid : Prop := Claim7.holds Tryd.pinned (.plain (OpenSpec.upto fixTurnedSpec)) fixTurnedUptoCard

/-- THE SECOND FORM's CARD OF 'fleuronlaw01.NumTexts'. -/
def numTextsUptoCard : Claim7 := { stood := { row := numTextsUptoRow, standIns := [], harness := (true, "5d23e6b050707f5a406631c389fbd670ee127d3ca867c74318cfbd48d197eb7c"), looks := true }, kinds := [], alts := [], laidByText := true, laidKinds := [.data, .data, .data, .sentinel, .sentinel], laidTests := true, laidLooks := .later }
def NumTextsUptoCardSaid : Prop := Claim7.holds Tryd.pinned (.plain (OpenSpec.upto numTextsSpec)) numTextsUptoCard

/-- THE SECOND FORM's CARD OF 'fleuronlaw01.NumBack'. -/
def numBackUptoCard : Claim7 := { stood := { row := numBackUptoRow, standIns := [], harness := (true, "5d23e6b050707f5a406631c389fbd670ee127d3ca867c74318cfbd48d197eb7c"), looks := true }, kinds := [], alts := [], laidByText := true, laidKinds := [.data, .data, .data, .sentinel, .sentinel], laidTests := true, laidLooks := .later }
def NumBackUptoCardSaid : Prop := Claim7.holds Tryd.pinned (.plain (OpenSpec.upto numBackSpec)) numBackUptoCard
end Rows
end Go.Proofs.YtanhomngnickfaaDoor
