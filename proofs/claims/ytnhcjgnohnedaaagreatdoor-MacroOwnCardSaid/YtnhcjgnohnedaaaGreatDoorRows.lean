/-
  NARROWER THAN 'FOR EVERY INPUT', by the rows' own cells (each row's printed sentence says how): MacroExpands: laid · MacroRenames: laid · MacroAgain: laid · MacroPlain: laid · MacroRenamed: laid · MacroOwn: laid.
  DERIVED. THE GIVEN ROWS OF THIS SEAT. 6 by the template 'for every input the law returns true; each argument reads behind the call as it read before'; 0 by the template 'total and deterministic' (their statements: YtnhcjgnohnedaaaGreatDoorTotals.lean).
  GIVEN WITH THE SEED: the statements are not yours to turn. If you find one false, say at which input.
  Laid BY PROGRAM, IN A SANDBOX (cutbox-rows.mjs): the forced cells as the released guide's own fill.sh prints them over the translation 87986cf6646debf2… (all of the seat's roots in one cut). By AI agents, Wed Nov 11 2026. No macro, syntax, notation, axiom, sorry.
-/
import Derived.Test.YtnhcjgnohnedaaaGreatDoorChecked
import GoSem.PinnedTables
import GoSem.Claim
import GoSem.ClaimJoined
import GoSem.ClaimMapViews
import Derived.JoinedTies
import Derived.KernelRfl
namespace Go.Proofs.YtnhcjgnohnedaaaGreatDoor
/- THE CELL 'sum', in the pinned program and in every row, IS THE sha256 OF THE DUMP (.gsa) THAT YtnhcjgnohnedaaaGreatDoorProg.lean LOADS. Nothing in Lean hashes anything: it is a label: what it is worth is what the hold of that sum in a sandbox is worth. -/
noncomputable def Tryz.pinned : Pinned := { name := "ytnhcjgnohnedaaagreatdoor", sum := "87986cf6646debf281fce88d964de46eef60f48844750692a5d8b0750b123b5b", checked := Tryz.checked }
namespace Rows
def none {H : Type} : Left H := { results := [], args := [] }

/- WHAT THE LISTED PACKAGE-LEVEL VARIABLES READ AS WHEN THE CALL BEGINS. Each datum BY PROGRAM (the guide's laid-datum.mjs) off the statement by which the dump's own 'gosem.cut.vars' lays the variable. In a bare row this is a premise. The card (YtnhcjgnohnedaaaGreatDoorCards.lean) ties it to the program's text. -/
def laid_math_bits_deBruijn32tab {H : Type} : DataW H := .agg [.lit (.int .u8 0), .lit (.int .u8 1), .lit (.int .u8 28), .lit (.int .u8 2), .lit (.int .u8 29), .lit (.int .u8 14), .lit (.int .u8 24), .lit (.int .u8 3), .lit (.int .u8 30), .lit (.int .u8 22), .lit (.int .u8 20), .lit (.int .u8 15), .lit (.int .u8 25), .lit (.int .u8 17), .lit (.int .u8 4), .lit (.int .u8 8), .lit (.int .u8 31), .lit (.int .u8 27), .lit (.int .u8 13), .lit (.int .u8 23), .lit (.int .u8 21), .lit (.int .u8 19), .lit (.int .u8 16), .lit (.int .u8 7), .lit (.int .u8 26), .lit (.int .u8 12), .lit (.int .u8 18), .lit (.int .u8 6), .lit (.int .u8 11), .lit (.int .u8 5), .lit (.int .u8 10), .lit (.int .u8 9)]
def laid_math_bits_deBruijn64tab {H : Type} : DataW H := .agg [.lit (.int .u8 0), .lit (.int .u8 1), .lit (.int .u8 56), .lit (.int .u8 2), .lit (.int .u8 57), .lit (.int .u8 49), .lit (.int .u8 28), .lit (.int .u8 3), .lit (.int .u8 61), .lit (.int .u8 58), .lit (.int .u8 42), .lit (.int .u8 50), .lit (.int .u8 38), .lit (.int .u8 29), .lit (.int .u8 17), .lit (.int .u8 4), .lit (.int .u8 62), .lit (.int .u8 47), .lit (.int .u8 59), .lit (.int .u8 36), .lit (.int .u8 45), .lit (.int .u8 43), .lit (.int .u8 51), .lit (.int .u8 22), .lit (.int .u8 53), .lit (.int .u8 39), .lit (.int .u8 33), .lit (.int .u8 30), .lit (.int .u8 24), .lit (.int .u8 18), .lit (.int .u8 12), .lit (.int .u8 5), .lit (.int .u8 63), .lit (.int .u8 55), .lit (.int .u8 48), .lit (.int .u8 27), .lit (.int .u8 60), .lit (.int .u8 41), .lit (.int .u8 37), .lit (.int .u8 16), .lit (.int .u8 46), .lit (.int .u8 35), .lit (.int .u8 44), .lit (.int .u8 21), .lit (.int .u8 52), .lit (.int .u8 32), .lit (.int .u8 23), .lit (.int .u8 11), .lit (.int .u8 54), .lit (.int .u8 26), .lit (.int .u8 40), .lit (.int .u8 15), .lit (.int .u8 34), .lit (.int .u8 20), .lit (.int .u8 31), .lit (.int .u8 10), .lit (.int .u8 25), .lit (.int .u8 14), .lit (.int .u8 19), .lit (.int .u8 9), .lit (.int .u8 13), .lit (.int .u8 8), .lit (.int .u8 7), .lit (.int .u8 6)]
def laid_internal_strconv_uint64pow10 {H : Type} : DataW H := .agg [.lit (.int .u64 1), .lit (.int .u64 10), .lit (.int .u64 100), .lit (.int .u64 1000), .lit (.int .u64 10000), .lit (.int .u64 100000), .lit (.int .u64 1000000), .lit (.int .u64 10000000), .lit (.int .u64 100000000), .lit (.int .u64 1000000000), .lit (.int .u64 10000000000), .lit (.int .u64 100000000000), .lit (.int .u64 1000000000000), .lit (.int .u64 10000000000000), .lit (.int .u64 100000000000000), .lit (.int .u64 1000000000000000), .lit (.int .u64 10000000000000000), .lit (.int .u64 100000000000000000), .lit (.int .u64 1000000000000000000), .lit (.int .u64 10000000000000000000)]
def laid_unicode_utf8_acceptRanges {H : Type} : DataW H := .agg [.agg [.lit (.int .u8 128), .lit (.int .u8 191)], .agg [.lit (.int .u8 160), .lit (.int .u8 191)], .agg [.lit (.int .u8 128), .lit (.int .u8 159)], .agg [.lit (.int .u8 144), .lit (.int .u8 191)], .agg [.lit (.int .u8 128), .lit (.int .u8 143)], .agg [.lit (.int .u8 0), .lit (.int .u8 0)], .agg [.lit (.int .u8 0), .lit (.int .u8 0)], .agg [.lit (.int .u8 0), .lit (.int .u8 0)], .agg [.lit (.int .u8 0), .lit (.int .u8 0)], .agg [.lit (.int .u8 0), .lit (.int .u8 0)], .agg [.lit (.int .u8 0), .lit (.int .u8 0)], .agg [.lit (.int .u8 0), .lit (.int .u8 0)], .agg [.lit (.int .u8 0), .lit (.int .u8 0)], .agg [.lit (.int .u8 0), .lit (.int .u8 0)], .agg [.lit (.int .u8 0), .lit (.int .u8 0)], .agg [.lit (.int .u8 0), .lit (.int .u8 0)]]
def laid_fleuron_lex_words {H : Type} : DataW H := .agg [.lit (.string [97, 98, 115]), .lit (.string [97, 108, 115, 111]), .lit (.string [97, 110, 100]), .lit (.string [97, 110, 103, 108, 101]), .lit (.string [98, 101, 103, 105, 110, 99, 104, 97, 114]), .lit (.string [98, 101, 103, 105, 110, 103, 114, 111, 117, 112]), .lit (.string [98, 111, 111, 108, 101, 97, 110]), .lit (.string [99, 104, 97, 114]), .lit (.string [99, 108, 105, 112]), .lit (.string [99, 111, 100, 101]), .lit (.string [99, 111, 110, 116, 114, 111, 108, 115]), .lit (.string [99, 111, 115, 100]), .lit (.string [99, 117, 114, 108]), .lit (.string [99, 121, 99, 108, 101]), .lit (.string [100, 101, 99, 105, 109, 97, 108]), .lit (.string [100, 101, 102]), .lit (.string [100, 105, 114]), .lit (.string [100, 105, 114, 101, 99, 116, 105, 111, 110]), .lit (.string [100, 111, 116, 112, 114, 111, 100]), .lit (.string [100, 114, 97, 119]), .lit (.string [101, 108, 115, 101]), .lit (.string [101, 108, 115, 101, 105, 102]), .lit (.string [101, 110, 100, 99, 104, 97, 114]), .lit (.string [101, 110, 100, 100, 101, 102]), .lit (.string [101, 110, 100, 102, 111, 114]), .lit (.string [101, 110, 100, 103, 114, 111, 117, 112]), .lit (.string [101, 118, 101, 110, 99, 108, 105, 112]), .lit (.string [101, 118, 101, 110, 102, 105, 108, 108]), .lit (.string [101, 120, 105, 116, 105, 102]), .lit (.string [102, 97, 108, 115, 101]), .lit (.string [102, 105]), .lit (.string [102, 105, 108, 108]), .lit (.string [102, 108, 111, 111, 114]), .lit (.string [102, 111, 114]), .lit (.string [102, 111, 114, 101, 118, 101, 114]), .lit (.string [105, 100, 101, 110, 116, 105, 116, 121]), .lit (.string [105, 102]), .lit (.string [105, 110, 118, 101, 114, 115, 101]), .lit (.string [107, 101, 114, 110]), .lit (.string [107, 110, 111, 119, 110]), .lit (.string [108, 101, 110, 103, 116, 104]), .lit (.string [108, 101, 116]), .lit (.string [108, 105, 103, 116, 97, 98, 108, 101]), .lit (.string [109, 101, 115, 115, 97, 103, 101]), .lit (.string [109, 111, 100]), .lit (.string [110, 111, 116]), .lit (.string [110, 117, 109, 101, 114, 105, 99]), .lit (.string [111, 100, 100]), .lit (.string [111, 102]), .lit (.string [111, 114]), .lit (.string [112, 97, 105, 114]), .lit (.string [112, 97, 116, 104]), .lit (.string [112, 101, 110]), .lit (.string [112, 101, 110, 99, 105, 114, 99, 108, 101]), .lit (.string [112, 101, 110, 115, 113, 117, 97, 114, 101]), .lit (.string [112, 105, 99, 107, 117, 112]), .lit (.string [112, 111, 105, 110, 116]), .lit (.string [112, 111, 115, 116, 99, 111, 110, 116, 114, 111, 108]), .lit (.string [112, 114, 101, 99, 111, 110, 116, 114, 111, 108]), .lit (.string [114, 101, 118, 101, 114, 115, 101]), .lit (.string [114, 111, 116, 97, 116, 101, 100]), .lit (.string [115, 97, 118, 101]), .lit (.string [115, 99, 97, 108, 101, 100]), .lit (.string [115, 104, 105, 102, 116, 101, 100]), .lit (.string [115, 104, 111, 119]), .lit (.string [115, 105, 110, 100]), .lit (.string [115, 108, 97, 110, 116, 101, 100]), .lit (.string [115, 113, 114, 116]), .lit (.string [115, 116, 101, 112]), .lit (.string [115, 116, 114, 105, 110, 103]), .lit (.string [115, 117, 98, 112, 97, 116, 104]), .lit (.string [116, 101, 110, 115, 105, 111, 110]), .lit (.string [116, 114, 97, 110, 115, 102, 111, 114, 109]), .lit (.string [116, 114, 97, 110, 115, 102, 111, 114, 109, 101, 100]), .lit (.string [116, 114, 117, 101]), .lit (.string [117, 110, 99, 108, 105, 112]), .lit (.string [117, 110, 107, 110, 111, 119, 110]), .lit (.string [117, 110, 116, 105, 108]), .lit (.string [119, 105, 116, 104, 105, 110, 107]), .lit (.string [120, 112, 97, 114, 116]), .lit (.string [120, 115, 99, 97, 108, 101, 100]), .lit (.string [120, 120, 112, 97, 114, 116]), .lit (.string [120, 121, 112, 97, 114, 116]), .lit (.string [121, 112, 97, 114, 116]), .lit (.string [121, 115, 99, 97, 108, 101, 100]), .lit (.string [121, 120, 112, 97, 114, 116]), .lit (.string [121, 121, 112, 97, 114, 116])]
def laid_fleuron_lex_signs {H : Type} : DataW H := .agg [.lit (.string [58, 61]), .lit (.string [61, 58, 124]), .lit (.string [61, 58]), .lit (.string [124, 61, 58, 124]), .lit (.string [124, 61, 58]), .lit (.string [46, 46]), .lit (.string [45, 45]), .lit (.string [43, 43]), .lit (.string [43, 45, 43]), .lit (.string [42, 42]), .lit (.string [60, 61]), .lit (.string [62, 61]), .lit (.string [60, 62]), .lit (.string [61]), .lit (.string [58]), .lit (.string [59]), .lit (.string [44]), .lit (.string [40]), .lit (.string [41]), .lit (.string [91]), .lit (.string [93]), .lit (.string [123]), .lit (.string [125]), .lit (.string [43]), .lit (.string [45]), .lit (.string [42]), .lit (.string [47]), .lit (.string [60]), .lit (.string [62]), .lit (.string [38]), .lit (.string [46])]
/-- One of Go's own tables, pinned by name: the form's constant. -/
def laid_unicode_utf8_first : DataW Unit := Go.Pinned.utf8First

/-- 'fleuronlaw04.MacroExpands': WHATEVER THE INPUT: true; the input reads as it did. -/
def macroExpandsSpec : ChangeSpec := { name := "macroExpands", fn := fun _ => fun
  | [d] => { results := [.lit (.bool true)], args := [d] }
  | _ => none }
def macroExpandsRow : OpenClaim := { program := "ytnhcjgnohnedaaagreatdoor", sum := "87986cf6646debf281fce88d964de46eef60f48844750692a5d8b0750b123b5b", func := "fleuron/fleuronlaw04.MacroExpands", spec := "macroExpands", inPlace := ["internal/abi.NoEscape", "internal/bytealg.IndexByteString", "internal/bytealg.IndexString"], unfollowed := true, recurses := true, named := ["fleuron/lex.words", "fleuron/lex.signs", "internal/strconv.uint64pow10", "math/bits.deBruijn32tab", "math/bits.deBruijn64tab", "unicode/utf8.first", "unicode/utf8.acceptRanges", "internal/bytealg.MaxLen"], apart := false, laid := [("math/bits.deBruijn32tab", laid_math_bits_deBruijn32tab), ("math/bits.deBruijn64tab", laid_math_bits_deBruijn64tab), ("internal/strconv.uint64pow10", laid_internal_strconv_uint64pow10), ("unicode/utf8.acceptRanges", laid_unicode_utf8_acceptRanges), ("fleuron/lex.words", laid_fleuron_lex_words), ("fleuron/lex.signs", laid_fleuron_lex_signs), ("unicode/utf8.first", laid_unicode_utf8_first)] }
def MacroExpandsSaid : Prop := macroExpandsRow.holds Tryz.pinned (OpenSpec.ofChange macroExpandsSpec)

/-- ITS FALSE NEIGHBOUR: 'it returns false'. Refute it at one input. -/
def macroExpandsWrong : ChangeSpec := { name := "macroExpands", fn := fun _ => fun
  | [d] => { results := [.lit (.bool false)], args := [d] }
  | _ => none }
def MacroExpandsWrongFalsely : Prop := macroExpandsRow.holds Tryz.pinned (OpenSpec.ofChange macroExpandsWrong)

/-- 'fleuronlaw04.MacroRenames': WHATEVER THE INPUT: true; the input reads as it did. -/
def macroRenamesSpec : ChangeSpec := { name := "macroRenames", fn := fun _ => fun
  | [d1, d2, d3] => { results := [.lit (.bool true)], args := [d1, d2, d3] }
  | _ => none }
def macroRenamesRow : OpenClaim := { program := "ytnhcjgnohnedaaagreatdoor", sum := "87986cf6646debf281fce88d964de46eef60f48844750692a5d8b0750b123b5b", func := "fleuron/fleuronlaw04.MacroRenames", spec := "macroRenames", inPlace := ["internal/abi.NoEscape", "internal/bytealg.IndexByteString", "internal/bytealg.IndexString"], unfollowed := true, recurses := true, named := ["fleuron/lex.words", "fleuron/lex.signs", "internal/strconv.uint64pow10", "math/bits.deBruijn32tab", "math/bits.deBruijn64tab", "unicode/utf8.first", "unicode/utf8.acceptRanges", "internal/bytealg.MaxLen"], apart := false, laid := [("math/bits.deBruijn32tab", laid_math_bits_deBruijn32tab), ("math/bits.deBruijn64tab", laid_math_bits_deBruijn64tab), ("internal/strconv.uint64pow10", laid_internal_strconv_uint64pow10), ("unicode/utf8.acceptRanges", laid_unicode_utf8_acceptRanges), ("fleuron/lex.words", laid_fleuron_lex_words), ("fleuron/lex.signs", laid_fleuron_lex_signs), ("unicode/utf8.first", laid_unicode_utf8_first)] }
def MacroRenamesSaid : Prop := macroRenamesRow.holds Tryz.pinned (OpenSpec.ofChange macroRenamesSpec)

/-- ITS FALSE NEIGHBOUR: 'it returns false'. Refute it at one input. -/
def macroRenamesWrong : ChangeSpec := { name := "macroRenames", fn := fun _ => fun
  | [d1, d2, d3] => { results := [.lit (.bool false)], args := [d1, d2, d3] }
  | _ => none }
def MacroRenamesWrongFalsely : Prop := macroRenamesRow.holds Tryz.pinned (OpenSpec.ofChange macroRenamesWrong)

/-- 'fleuronlaw04.MacroAgain': WHATEVER THE INPUT: true; the input reads as it did. -/
def macroAgainSpec : ChangeSpec := { name := "macroAgain", fn := fun _ => fun
  | [d] => { results := [.lit (.bool true)], args := [d] }
  | _ => none }
def macroAgainRow : OpenClaim := { program := "ytnhcjgnohnedaaagreatdoor", sum := "87986cf6646debf281fce88d964de46eef60f48844750692a5d8b0750b123b5b", func := "fleuron/fleuronlaw04.MacroAgain", spec := "macroAgain", inPlace := ["internal/abi.NoEscape", "internal/bytealg.IndexByteString", "internal/bytealg.IndexString"], unfollowed := true, recurses := true, named := ["fleuron/lex.words", "fleuron/lex.signs", "internal/strconv.uint64pow10", "math/bits.deBruijn32tab", "math/bits.deBruijn64tab", "unicode/utf8.first", "unicode/utf8.acceptRanges", "internal/bytealg.MaxLen"], apart := false, laid := [("math/bits.deBruijn32tab", laid_math_bits_deBruijn32tab), ("math/bits.deBruijn64tab", laid_math_bits_deBruijn64tab), ("internal/strconv.uint64pow10", laid_internal_strconv_uint64pow10), ("unicode/utf8.acceptRanges", laid_unicode_utf8_acceptRanges), ("fleuron/lex.words", laid_fleuron_lex_words), ("fleuron/lex.signs", laid_fleuron_lex_signs), ("unicode/utf8.first", laid_unicode_utf8_first)] }
def MacroAgainSaid : Prop := macroAgainRow.holds Tryz.pinned (OpenSpec.ofChange macroAgainSpec)

/-- ITS FALSE NEIGHBOUR: 'it returns false'. Refute it at one input. -/
def macroAgainWrong : ChangeSpec := { name := "macroAgain", fn := fun _ => fun
  | [d] => { results := [.lit (.bool false)], args := [d] }
  | _ => none }
def MacroAgainWrongFalsely : Prop := macroAgainRow.holds Tryz.pinned (OpenSpec.ofChange macroAgainWrong)

/-- 'fleuronlaw04.MacroPlain': WHATEVER THE INPUT: true; the input reads as it did. -/
def macroPlainSpec : ChangeSpec := { name := "macroPlain", fn := fun _ => fun
  | [d] => { results := [.lit (.bool true)], args := [d] }
  | _ => none }
def macroPlainRow : OpenClaim := { program := "ytnhcjgnohnedaaagreatdoor", sum := "87986cf6646debf281fce88d964de46eef60f48844750692a5d8b0750b123b5b", func := "fleuron/fleuronlaw04.MacroPlain", spec := "macroPlain", inPlace := ["internal/abi.NoEscape", "internal/bytealg.IndexByteString", "internal/bytealg.IndexString"], unfollowed := true, recurses := true, named := ["fleuron/lex.words", "fleuron/lex.signs", "internal/strconv.uint64pow10", "math/bits.deBruijn32tab", "math/bits.deBruijn64tab", "unicode/utf8.first", "unicode/utf8.acceptRanges", "internal/bytealg.MaxLen"], apart := false, laid := [("math/bits.deBruijn32tab", laid_math_bits_deBruijn32tab), ("math/bits.deBruijn64tab", laid_math_bits_deBruijn64tab), ("internal/strconv.uint64pow10", laid_internal_strconv_uint64pow10), ("unicode/utf8.acceptRanges", laid_unicode_utf8_acceptRanges), ("fleuron/lex.words", laid_fleuron_lex_words), ("fleuron/lex.signs", laid_fleuron_lex_signs), ("unicode/utf8.first", laid_unicode_utf8_first)] }
def MacroPlainSaid : Prop := macroPlainRow.holds Tryz.pinned (OpenSpec.ofChange macroPlainSpec)

/-- ITS FALSE NEIGHBOUR: 'it returns false'. Refute it at one input. -/
def macroPlainWrong : ChangeSpec := { name := "macroPlain", fn := fun _ => fun
  | [d] => { results := [.lit (.bool false)], args := [d] }
  | _ => none }
def MacroPlainWrongFalsely : Prop := macroPlainRow.holds Tryz.pinned (OpenSpec.ofChange macroPlainWrong)

/-- 'fleuronlaw04.MacroRenamed': WHATEVER THE INPUT: true; the input reads as it did. -/
def macroRenamedSpec : ChangeSpec := { name := "macroRenamed", fn := fun _ => fun
  | [d1, d2, d3] => { results := [.lit (.bool true)], args := [d1, d2, d3] }
  | _ => none }
def macroRenamedRow : OpenClaim := { program := "ytnhcjgnohnedaaagreatdoor", sum := "87986cf6646debf281fce88d964de46eef60f48844750692a5d8b0750b123b5b", func := "fleuron/fleuronlaw04.MacroRenamed", spec := "macroRenamed", inPlace := ["internal/abi.NoEscape", "internal/bytealg.IndexByteString", "internal/bytealg.IndexString"], unfollowed := true, recurses := true, named := ["fleuron/lex.words", "fleuron/lex.signs", "internal/strconv.uint64pow10", "math/bits.deBruijn32tab", "math/bits.deBruijn64tab", "unicode/utf8.first", "unicode/utf8.acceptRanges", "internal/bytealg.MaxLen"], apart := false, laid := [("math/bits.deBruijn32tab", laid_math_bits_deBruijn32tab), ("math/bits.deBruijn64tab", laid_math_bits_deBruijn64tab), ("internal/strconv.uint64pow10", laid_internal_strconv_uint64pow10), ("unicode/utf8.acceptRanges", laid_unicode_utf8_acceptRanges), ("fleuron/lex.words", laid_fleuron_lex_words), ("fleuron/lex.signs", laid_fleuron_lex_signs), ("unicode/utf8.first", laid_unicode_utf8_first)] }
def MacroRenamedSaid : Prop := macroRenamedRow.holds Tryz.pinned (OpenSpec.ofChange macroRenamedSpec)

/-- ITS FALSE NEIGHBOUR: 'it returns false'. Refute it at one input. -/
def macroRenamedWrong : ChangeSpec := { name := "macroRenamed", fn := fun _ => fun
  | [d1, d2, d3] => { results := [.lit (.bool false)], args := [d1, d2, d3] }
  | _ => none }
def MacroRenamedWrongFalsely : Prop := macroRenamedRow.holds Tryz.pinned (OpenSpec.ofChange macroRenamedWrong)

/-- 'fleuronlaw04.MacroOwn': WHATEVER THE INPUT: true; the input reads as it did. -/
def macroOwnSpec : ChangeSpec := { name := "macroOwn", fn := fun _ => fun
  | [d1, d2, d3] => { results := [.lit (.bool true)], args := [d1, d2, d3] }
  | _ => none }
def macroOwnRow : OpenClaim := { program := "ytnhcjgnohnedaaagreatdoor", sum := "87986cf6646debf281fce88d964de46eef60f48844750692a5d8b0750b123b5b", func := "fleuron/fleuronlaw04.MacroOwn", spec := "macroOwn", inPlace := ["internal/abi.NoEscape", "internal/bytealg.IndexByteString", "internal/bytealg.IndexString"], unfollowed := true, recurses := true, named := ["fleuron/lex.words", "fleuron/lex.signs", "internal/strconv.uint64pow10", "math/bits.deBruijn32tab", "math/bits.deBruijn64tab", "unicode/utf8.first", "unicode/utf8.acceptRanges", "internal/bytealg.MaxLen"], apart := false, laid := [("math/bits.deBruijn32tab", laid_math_bits_deBruijn32tab), ("math/bits.deBruijn64tab", laid_math_bits_deBruijn64tab), ("internal/strconv.uint64pow10", laid_internal_strconv_uint64pow10), ("unicode/utf8.acceptRanges", laid_unicode_utf8_acceptRanges), ("fleuron/lex.words", laid_fleuron_lex_words), ("fleuron/lex.signs", laid_fleuron_lex_signs), ("unicode/utf8.first", laid_unicode_utf8_first)] }
def MacroOwnSaid : Prop := macroOwnRow.holds Tryz.pinned (OpenSpec.ofChange macroOwnSpec)

/-- ITS FALSE NEIGHBOUR: 'it returns false'. Refute it at one input. -/
def macroOwnWrong : ChangeSpec := { name := "macroOwn", fn := fun _ => fun
  | [d1, d2, d3] => { results := [.lit (.bool false)], args := [d1, d2, d3] }
  | _ => none }
def MacroOwnWrongFalsely : Prop := macroOwnRow.holds Tryz.pinned (OpenSpec.ofChange macroOwnWrong)

/- THE SECOND FORM. 'bulk': how many values and letters a reading holds, each counted each time it is reached (what is shared counts as often as it is met; a slice's spare places count too). A statement '..UptoSaid' is the law's where the arguments, and the package variables that the reading takes, are together of bulk at most 1048576: NARROWER than '..Said'. Prove '..Said' where nothing that the law and all that it calls make is longer than what came in: it says more and counts as full. Else prove '..UptoSaid'. A law counts once. -/
mutual
def uptoBulk {H : Type} : DataW H → Nat
  | .lit (.string bytes) => bytes.length + 1
  | .lit _ => 1
  | .nil => 1
  | .ptr d => uptoBulk d + 1
  | .slice elems spare => uptoBulkAll elems + uptoBulkAll spare + 1
  | .agg parts => uptoBulkAll parts + 1
  | .iface _ d => uptoBulk d + 1
  | .map entries => uptoBulkEntries entries + 1
  | .held _ => 1
def uptoBulkAll {H : Type} : List (DataW H) → Nat
  | [] => 0
  | d :: r => uptoBulk d + uptoBulkAll r
def uptoBulkEntries {H : Type} : List (Lit × DataW H) → Nat
  | [] => 0
  | x :: r => uptoBulkEntry x + uptoBulkEntries r
def uptoBulkEntry {H : Type} : Lit × DataW H → Nat
  | (.string bytes, d) => bytes.length + uptoBulk d + 1
  | (_, d) => uptoBulk d + 1
 end
def uptoSmall : (H : Type) → List (DataW H) → Bool := fun _ ds => decide (uptoBulkAll ds ≤ 1048576)
def OpenSpec.upto (s : _root_.Go.ChangeSpec) : _root_.Go.OpenSpec := { _root_.Go.OpenSpec.ofChange s with cond := some uptoSmall }

/-- 'fleuronlaw04.MacroExpands', WHERE WHAT IT READS IS OF BULK AT MOST 1048576: true; the input reads as it did. -/
def macroExpandsUptoRow : OpenClaim := { program := "ytnhcjgnohnedaaagreatdoor", sum := "87986cf6646debf281fce88d964de46eef60f48844750692a5d8b0750b123b5b", func := "fleuron/fleuronlaw04.MacroExpands", spec := "macroExpands", inPlace := ["internal/abi.NoEscape", "internal/bytealg.IndexByteString", "internal/bytealg.IndexString"], unfollowed := true, recurses := true, named := ["fleuron/lex.words", "fleuron/lex.signs", "internal/strconv.uint64pow10", "math/bits.deBruijn32tab", "math/bits.deBruijn64tab", "unicode/utf8.first", "unicode/utf8.acceptRanges", "internal/bytealg.MaxLen"], apart := false, laid := [("math/bits.deBruijn32tab", laid_math_bits_deBruijn32tab), ("math/bits.deBruijn64tab", laid_math_bits_deBruijn64tab), ("internal/strconv.uint64pow10", laid_internal_strconv_uint64pow10), ("unicode/utf8.acceptRanges", laid_unicode_utf8_acceptRanges), ("fleuron/lex.words", laid_fleuron_lex_words), ("fleuron/lex.signs", laid_fleuron_lex_signs), ("unicode/utf8.first", laid_unicode_utf8_first)], narrowed := true }
def MacroExpandsUptoSaid : Prop := macroExpandsUptoRow.holds Tryz.pinned (OpenSpec.upto macroExpandsSpec)

/-- 'fleuronlaw04.MacroRenames', WHERE WHAT IT READS IS OF BULK AT MOST 1048576: true; the input reads as it did. -/
def macroRenamesUptoRow : OpenClaim := { program := "ytnhcjgnohnedaaagreatdoor", sum := "87986cf6646debf281fce88d964de46eef60f48844750692a5d8b0750b123b5b", func := "fleuron/fleuronlaw04.MacroRenames", spec := "macroRenames", inPlace := ["internal/abi.NoEscape", "internal/bytealg.IndexByteString", "internal/bytealg.IndexString"], unfollowed := true, recurses := true, named := ["fleuron/lex.words", "fleuron/lex.signs", "internal/strconv.uint64pow10", "math/bits.deBruijn32tab", "math/bits.deBruijn64tab", "unicode/utf8.first", "unicode/utf8.acceptRanges", "internal/bytealg.MaxLen"], apart := false, laid := [("math/bits.deBruijn32tab", laid_math_bits_deBruijn32tab), ("math/bits.deBruijn64tab", laid_math_bits_deBruijn64tab), ("internal/strconv.uint64pow10", laid_internal_strconv_uint64pow10), ("unicode/utf8.acceptRanges", laid_unicode_utf8_acceptRanges), ("fleuron/lex.words", laid_fleuron_lex_words), ("fleuron/lex.signs", laid_fleuron_lex_signs), ("unicode/utf8.first", laid_unicode_utf8_first)], narrowed := true }
def MacroRenamesUptoSaid : Prop := macroRenamesUptoRow.holds Tryz.pinned (OpenSpec.upto macroRenamesSpec)

/-- 'fleuronlaw04.MacroAgain', WHERE WHAT IT READS IS OF BULK AT MOST 1048576: true; the input reads as it did. -/
def macroAgainUptoRow : OpenClaim := { program := "ytnhcjgnohnedaaagreatdoor", sum := "87986cf6646debf281fce88d964de46eef60f48844750692a5d8b0750b123b5b", func := "fleuron/fleuronlaw04.MacroAgain", spec := "macroAgain", inPlace := ["internal/abi.NoEscape", "internal/bytealg.IndexByteString", "internal/bytealg.IndexString"], unfollowed := true, recurses := true, named := ["fleuron/lex.words", "fleuron/lex.signs", "internal/strconv.uint64pow10", "math/bits.deBruijn32tab", "math/bits.deBruijn64tab", "unicode/utf8.first", "unicode/utf8.acceptRanges", "internal/bytealg.MaxLen"], apart := false, laid := [("math/bits.deBruijn32tab", laid_math_bits_deBruijn32tab), ("math/bits.deBruijn64tab", laid_math_bits_deBruijn64tab), ("internal/strconv.uint64pow10", laid_internal_strconv_uint64pow10), ("unicode/utf8.acceptRanges", laid_unicode_utf8_acceptRanges), ("fleuron/lex.words", laid_fleuron_lex_words), ("fleuron/lex.signs", laid_fleuron_lex_signs), ("unicode/utf8.first", laid_unicode_utf8_first)], narrowed := true }
def MacroAgainUptoSaid : Prop := macroAgainUptoRow.holds Tryz.pinned (OpenSpec.upto macroAgainSpec)

/-- 'fleuronlaw04.MacroPlain', WHERE WHAT IT READS IS OF BULK AT MOST 1048576: true; the input reads as it did. -/
def macroPlainUptoRow : OpenClaim := { program := "ytnhcjgnohnedaaagreatdoor", sum := "87986cf6646debf281fce88d964de46eef60f48844750692a5d8b0750b123b5b", func := "fleuron/fleuronlaw04.MacroPlain", spec := "macroPlain", inPlace := ["internal/abi.NoEscape", "internal/bytealg.IndexByteString", "internal/bytealg.IndexString"], unfollowed := true, recurses := true, named := ["fleuron/lex.words", "fleuron/lex.signs", "internal/strconv.uint64pow10", "math/bits.deBruijn32tab", "math/bits.deBruijn64tab", "unicode/utf8.first", "unicode/utf8.acceptRanges", "internal/bytealg.MaxLen"], apart := false, laid := [("math/bits.deBruijn32tab", laid_math_bits_deBruijn32tab), ("math/bits.deBruijn64tab", laid_math_bits_deBruijn64tab), ("internal/strconv.uint64pow10", laid_internal_strconv_uint64pow10), ("unicode/utf8.acceptRanges", laid_unicode_utf8_acceptRanges), ("fleuron/lex.words", laid_fleuron_lex_words), ("fleuron/lex.signs", laid_fleuron_lex_signs), ("unicode/utf8.first", laid_unicode_utf8_first)], narrowed := true }
def MacroPlainUptoSaid : Prop := macroPlainUptoRow.holds Tryz.pinned (OpenSpec.upto macroPlainSpec)

/-- 'fleuronlaw04.MacroRenamed', WHERE WHAT IT READS IS OF BULK AT MOST 1048576: true; the input reads as it did. -/
def macroRenamedUptoRow : OpenClaim := { program := "ytnhcjgnohnedaaagreatdoor", sum := "87986cf6646debf281fce88d964de46eef60f48844750692a5d8b0750b123b5b", func := "fleuron/fleuronlaw04.MacroRenamed", spec := "macroRenamed", inPlace := ["internal/abi.NoEscape", "internal/bytealg.IndexByteString", "internal/bytealg.IndexString"], unfollowed := true, recurses := true, named := ["fleuron/lex.words", "fleuron/lex.signs", "internal/strconv.uint64pow10", "math/bits.deBruijn32tab", "math/bits.deBruijn64tab", "unicode/utf8.first", "unicode/utf8.acceptRanges", "internal/bytealg.MaxLen"], apart := false, laid := [("math/bits.deBruijn32tab", laid_math_bits_deBruijn32tab), ("math/bits.deBruijn64tab", laid_math_bits_deBruijn64tab), ("internal/strconv.uint64pow10", laid_internal_strconv_uint64pow10), ("unicode/utf8.acceptRanges", laid_unicode_utf8_acceptRanges), ("fleuron/lex.words", laid_fleuron_lex_words), ("fleuron/lex.signs", laid_fleuron_lex_signs), ("unicode/utf8.first", laid_unicode_utf8_first)], narrowed := true }
def MacroRenamedUptoSaid : Prop := macroRenamedUptoRow.holds Tryz.pinned (OpenSpec.upto macroRenamedSpec)

/-- 'fleuronlaw04.MacroOwn', WHERE WHAT IT READS IS OF BULK AT MOST 1048576: true; the input reads as it did. -/
def macroOwnUptoRow : OpenClaim := { program := "ytnhcjgnohnedaaagreatdoor", sum := "87986cf6646debf281fce88d964de46eef60f48844750692a5d8b0750b123b5b", func := "fleuron/fleuronlaw04.MacroOwn", spec := "macroOwn", inPlace := ["internal/abi.NoEscape", "internal/bytealg.IndexByteString", "internal/bytealg.IndexString"], unfollowed := true, recurses := true, named := ["fleuron/lex.words", "fleuron/lex.signs", "internal/strconv.uint64pow10", "math/bits.deBruijn32tab", "math/bits.deBruijn64tab", "unicode/utf8.first", "unicode/utf8.acceptRanges", "internal/bytealg.MaxLen"], apart := false, laid := [("math/bits.deBruijn32tab", laid_math_bits_deBruijn32tab), ("math/bits.deBruijn64tab", laid_math_bits_deBruijn64tab), ("internal/strconv.uint64pow10", laid_internal_strconv_uint64pow10), ("unicode/utf8.acceptRanges", laid_unicode_utf8_acceptRanges), ("fleuron/lex.words", laid_fleuron_lex_words), ("fleuron/lex.signs", laid_fleuron_lex_signs), ("unicode/utf8.first", laid_unicode_utf8_first)], narrowed := true }
def MacroOwnUptoSaid : Prop := macroOwnUptoRow.holds Tryz.pinned (OpenSpec.upto macroOwnSpec)

end Rows
end Go.Proofs.YtnhcjgnohnedaaaGreatDoor
