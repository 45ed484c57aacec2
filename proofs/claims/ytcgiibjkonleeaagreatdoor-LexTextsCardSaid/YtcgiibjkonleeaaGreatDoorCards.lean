/-
  DERIVED. GIVEN WITH THE SEED: THE CARDS: each row of YtcgiibjkonleeaaGreatDoorRows.lean that lists a variable, with what it lists TIED to the program's text (the seventh form; the later family's looks); each row that meets fmt, with fmt's text TOLD by the authors' own Lean function (tested against real Go, not proved from fmt's source: count such statements apart). THE CARD IS WHAT COUNTS. Prove the row's statement (the work); the ties are given (YtcgiibjkonleeaaGreatDoorTie.lean); close each card by the builder's one call (the guide's Derived/Test/ToyasCard.lean, 'card_holds'). Laid BY PROGRAM, IN A SANDBOX (cutbox-door.mjs). By AI agents, Wed Nov 11 2026. No macro, syntax, notation, axiom, sorry.
-/
import Derived.Test.YtcgiibjkonleeaaGreatDoorRows
import GoSem.ClaimSeven
namespace Go.Proofs.YtcgiibjkonleeaaGreatDoor
namespace Rows

/-- THE TIED CARD OF 'fleuronlaw03.LexTokens'. -/
def lexTokensCard : Claim7 := { stood := { row := lexTokensRow, standIns := [], harness := (true, "8011e10ae729a25ec5456da88c36139c11afc2d35c7f8f1df4742d1a9c0afe2b"), looks := false }, kinds := [], alts := [], laidByText := true, laidKinds := [.data, .data, .data, .data, .data, .data, .pinned], laidTests := true, laidLooks := .later }
def LexTokensCardSaid : Prop := Claim7.holds Tryz.pinned (.plain (OpenSpec.ofChange lexTokensSpec)) lexTokensCard

/-- THE TIED CARD OF 'fleuronlaw03.LexTexts'. -/
def lexTextsCard : Claim7 := { stood := { row := lexTextsRow, standIns := [], harness := (true, "8011e10ae729a25ec5456da88c36139c11afc2d35c7f8f1df4742d1a9c0afe2b"), looks := false }, kinds := [], alts := [], laidByText := true, laidKinds := [.data, .data, .data, .data, .data, .data, .pinned], laidTests := true, laidLooks := .later }
def LexTextsCardSaid : Prop := Claim7.holds Tryz.pinned (.plain (OpenSpec.ofChange lexTextsSpec)) lexTextsCard

/-- THE TIED CARD OF 'fleuronlaw03.LexValid'. -/
def lexValidCard : Claim7 := { stood := { row := lexValidRow, standIns := [], harness := (true, "8011e10ae729a25ec5456da88c36139c11afc2d35c7f8f1df4742d1a9c0afe2b"), looks := false }, kinds := [], alts := [], laidByText := true, laidKinds := [.data, .data, .data, .data, .data, .data, .pinned], laidTests := true, laidLooks := .later }
def LexValidCardSaid : Prop := Claim7.holds Tryz.pinned (.plain (OpenSpec.ofChange lexValidSpec)) lexValidCard

/-- THE SECOND FORM's CARD OF 'fleuronlaw03.LexTokens'. -/
def lexTokensUptoCard : Claim7 := { stood := { row := lexTokensUptoRow, standIns := [], harness := (true, "8011e10ae729a25ec5456da88c36139c11afc2d35c7f8f1df4742d1a9c0afe2b"), looks := false }, kinds := [], alts := [], laidByText := true, laidKinds := [.data, .data, .data, .data, .data, .data, .pinned], laidTests := true, laidLooks := .later }
def LexTokensUptoCardSaid : Prop := Claim7.holds Tryz.pinned (.plain (OpenSpec.upto lexTokensSpec)) lexTokensUptoCard

/-- THE SECOND FORM's CARD OF 'fleuronlaw03.LexTexts'. -/
def lexTextsUptoCard : Claim7 := { stood := { row := lexTextsUptoRow, standIns := [], harness := (true, "8011e10ae729a25ec5456da88c36139c11afc2d35c7f8f1df4742d1a9c0afe2b"), looks := false }, kinds := [], alts := [], laidByText := true, laidKinds := [.data, .data, .data, .data, .data, .data, .pinned], laidTests := true, laidLooks := .later }
def LexTextsUptoCardSaid : Prop := Claim7.holds Tryz.pinned (.plain (OpenSpec.upto lexTextsSpec)) lexTextsUptoCard

/-- THE SECOND FORM's CARD OF 'fleuronlaw03.LexValid'. -/
def lexValidUptoCard : Claim7 := { stood := { row := lexValidUptoRow, standIns := [], harness := (true, "8011e10ae729a25ec5456da88c36139c11afc2d35c7f8f1df4742d1a9c0afe2b"), looks := false }, kinds := [], alts := [], laidByText := true, laidKinds := [.data, .data, .data, .data, .data, .data, .pinned], laidTests := true, laidLooks := .later }
def LexValidUptoCardSaid : Prop := Claim7.holds Tryz.pinned (.plain (OpenSpec.upto lexValidSpec)) lexValidUptoCard
end Rows
end Go.Proofs.YtcgiibjkonleeaaGreatDoor
