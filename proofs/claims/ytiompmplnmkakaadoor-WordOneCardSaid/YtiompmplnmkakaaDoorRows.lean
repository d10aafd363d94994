/-
  NARROWER THAN 'FOR EVERY INPUT', by the rows' own cells (each row's printed sentence says how): WordFinds: laid · WordTexts: laid · WordBack: laid · WordShort: laid · WordMore: laid · WordOne: laid · WordNumbers: laid.
  DERIVED. THE GIVEN ROWS OF THIS SEAT. 7 by the template 'for every input the law returns true; each argument reads behind the call as it read before'; 0 by the template 'total and deterministic' (their statements: YtiompmplnmkakaaDoorTotals.lean).
  GIVEN WITH THE SEED: the statements are not yours to turn. If you find one false, say at which input.
  Laid BY PROGRAM, IN A SANDBOX (cutbox-rows.mjs): the forced cells as the released guide's own fill.sh prints them over the translation 4e5235e4c39d0c3f… (all of the seat's roots in one cut). By AI agents, Wed Nov 11 2026. No macro, syntax, notation, axiom, sorry.
-/
import Derived.Test.YtiompmplnmkakaaDoorChecked
import GoSem.PinnedTables
import GoSem.Claim
import GoSem.ClaimJoined
import GoSem.ClaimMapViews
import Derived.JoinedTies
import Derived.KernelRfl
namespace Go.Proofs.YtiompmplnmkakaaDoor
/- THE CELL 'sum', in the pinned program and in every row, IS THE sha256 OF THE DUMP (.gsa) THAT YtiompmplnmkakaaDoorProg.lean LOADS. Nothing in Lean hashes anything: it is a label: what it is worth is what the hold of that sum in a sandbox is worth. -/
noncomputable def Tryd.pinned : Pinned := { name := "ytiompmplnmkakaadoor", sum := "4e5235e4c39d0c3fdad8dcff6274c68a5a274d8a71f36bde292001e8997d6e04", checked := Tryd.checked }
namespace Rows
def none {H : Type} : Left H := { results := [], args := [] }

/- WHAT THE LISTED PACKAGE-LEVEL VARIABLES READ AS WHEN THE CALL BEGINS. Each datum BY PROGRAM (the guide's laid-datum.mjs) off the statement by which the dump's own 'gosem.cut.vars' lays the variable. In a bare row this is a premise. The card (YtiompmplnmkakaaDoorCards.lean) ties it to the program's text. -/
def laid_unicode_utf8_acceptRanges {H : Type} : DataW H := .agg [.agg [.lit (.int .u8 128), .lit (.int .u8 191)], .agg [.lit (.int .u8 160), .lit (.int .u8 191)], .agg [.lit (.int .u8 128), .lit (.int .u8 159)], .agg [.lit (.int .u8 144), .lit (.int .u8 191)], .agg [.lit (.int .u8 128), .lit (.int .u8 143)], .agg [.lit (.int .u8 0), .lit (.int .u8 0)], .agg [.lit (.int .u8 0), .lit (.int .u8 0)], .agg [.lit (.int .u8 0), .lit (.int .u8 0)], .agg [.lit (.int .u8 0), .lit (.int .u8 0)], .agg [.lit (.int .u8 0), .lit (.int .u8 0)], .agg [.lit (.int .u8 0), .lit (.int .u8 0)], .agg [.lit (.int .u8 0), .lit (.int .u8 0)], .agg [.lit (.int .u8 0), .lit (.int .u8 0)], .agg [.lit (.int .u8 0), .lit (.int .u8 0)], .agg [.lit (.int .u8 0), .lit (.int .u8 0)], .agg [.lit (.int .u8 0), .lit (.int .u8 0)]]
def laid_analemma_word_lines {H : Type} : DataW H := .agg [.lit (.string []), .lit (.string [114, 117, 108, 101]), .lit (.string [122, 111, 110, 101]), .lit (.string [108, 105, 110, 107]), .lit (.string [115, 104, 105, 102, 116]), .lit (.string []), .lit (.string []), .lit (.string []), .lit (.string []), .lit (.string []), .lit (.string []), .lit (.string []), .lit (.string [])]
def laid_analemma_word_months {H : Type} : DataW H := .agg [.lit (.string []), .lit (.string [106, 97, 110, 117, 97, 114, 121]), .lit (.string [102, 101, 98, 114, 117, 97, 114, 121]), .lit (.string [109, 97, 114, 99, 104]), .lit (.string [97, 112, 114, 105, 108]), .lit (.string [109, 97, 121]), .lit (.string [106, 117, 110, 101]), .lit (.string [106, 117, 108, 121]), .lit (.string [97, 117, 103, 117, 115, 116]), .lit (.string [115, 101, 112, 116, 101, 109, 98, 101, 114]), .lit (.string [111, 99, 116, 111, 98, 101, 114]), .lit (.string [110, 111, 118, 101, 109, 98, 101, 114]), .lit (.string [100, 101, 99, 101, 109, 98, 101, 114])]
def laid_analemma_word_weekdays {H : Type} : DataW H := .agg [.lit (.string [115, 117, 110, 100, 97, 121]), .lit (.string [109, 111, 110, 100, 97, 121]), .lit (.string [116, 117, 101, 115, 100, 97, 121]), .lit (.string [119, 101, 100, 110, 101, 115, 100, 97, 121]), .lit (.string [116, 104, 117, 114, 115, 100, 97, 121]), .lit (.string [102, 114, 105, 100, 97, 121]), .lit (.string [115, 97, 116, 117, 114, 100, 97, 121]), .lit (.string []), .lit (.string []), .lit (.string []), .lit (.string []), .lit (.string []), .lit (.string [])]
def laid_analemma_word_years {H : Type} : DataW H := .agg [.lit (.string []), .lit (.string [111, 110, 108, 121]), .lit (.string [109, 97, 120, 105, 109, 117, 109]), .lit (.string []), .lit (.string []), .lit (.string []), .lit (.string []), .lit (.string []), .lit (.string []), .lit (.string []), .lit (.string []), .lit (.string []), .lit (.string [])]
/-- One of Go's own tables, pinned by name: the form's constant. -/
def laid_unicode_CaseRanges : DataW Unit := Go.Pinned.caseRanges
/-- One of Go's own tables, pinned by name: the form's constant. -/
def laid_unicode_utf8_first : DataW Unit := Go.Pinned.utf8First

/-- 'analemmalaw08.WordFinds': WHATEVER THE INPUT: true; the input reads as it did. -/
def wordFindsSpec : ChangeSpec := { name := "wordFinds", fn := fun _ => fun
  | [d] => { results := [.lit (.bool true)], args := [d] }
  | _ => none }
def wordFindsRow : OpenClaim := { program := "ytiompmplnmkakaadoor", sum := "4e5235e4c39d0c3fdad8dcff6274c68a5a274d8a71f36bde292001e8997d6e04", func := "analemma/analemmalaw08.WordFinds", spec := "wordFinds", inPlace := ["internal/abi.NoEscape", "internal/bytealg.MakeNoZero"], unfollowed := true, recurses := true, named := ["analemma/word.lines", "analemma/word.months", "analemma/word.weekdays", "analemma/word.years", "unicode/utf8.first", "unicode/utf8.acceptRanges", "unicode.CaseRanges"], apart := false, laid := [("unicode/utf8.acceptRanges", laid_unicode_utf8_acceptRanges), ("analemma/word.lines", laid_analemma_word_lines), ("analemma/word.months", laid_analemma_word_months), ("analemma/word.weekdays", laid_analemma_word_weekdays), ("analemma/word.years", laid_analemma_word_years), ("unicode.CaseRanges", laid_unicode_CaseRanges), ("unicode/utf8.first", laid_unicode_utf8_first)] }
def WordFindsSaid : Prop := wordFindsRow.holds Tryd.pinned (OpenSpec.ofChange wordFindsSpec)

/-- ITS FALSE NEIGHBOUR: 'it returns false'. Refute it at one input. -/
def wordFindsWrong : ChangeSpec := { name := "wordFinds", fn := fun _ => fun
  | [d] => { results := [.lit (.bool false)], args := [d] }
  | _ => none }
def WordFindsWrongFalsely : Prop := wordFindsRow.holds Tryd.pinned (OpenSpec.ofChange wordFindsWrong)

/-- 'analemmalaw08.WordTexts': WHATEVER THE INPUT: true; the input reads as it did. -/
def wordTextsSpec : ChangeSpec := { name := "wordTexts", fn := fun _ => fun
  | [d] => { results := [.lit (.bool true)], args := [d] }
  | _ => none }
def wordTextsRow : OpenClaim := { program := "ytiompmplnmkakaadoor", sum := "4e5235e4c39d0c3fdad8dcff6274c68a5a274d8a71f36bde292001e8997d6e04", func := "analemma/analemmalaw08.WordTexts", spec := "wordTexts", inPlace := ["internal/abi.NoEscape", "internal/bytealg.MakeNoZero"], unfollowed := true, recurses := true, named := ["analemma/word.months", "unicode/utf8.first", "unicode/utf8.acceptRanges", "unicode.CaseRanges", "analemma/word.weekdays", "analemma/word.lines", "analemma/word.years"], apart := false, laid := [("unicode/utf8.acceptRanges", laid_unicode_utf8_acceptRanges), ("analemma/word.lines", laid_analemma_word_lines), ("analemma/word.months", laid_analemma_word_months), ("analemma/word.weekdays", laid_analemma_word_weekdays), ("analemma/word.years", laid_analemma_word_years), ("unicode.CaseRanges", laid_unicode_CaseRanges), ("unicode/utf8.first", laid_unicode_utf8_first)] }
def WordTextsSaid : Prop := wordTextsRow.holds Tryd.pinned (OpenSpec.ofChange wordTextsSpec)

/-- ITS FALSE NEIGHBOUR: 'it returns false'. Refute it at one input. -/
def wordTextsWrong : ChangeSpec := { name := "wordTexts", fn := fun _ => fun
  | [d] => { results := [.lit (.bool false)], args := [d] }
  | _ => none }
def WordTextsWrongFalsely : Prop := wordTextsRow.holds Tryd.pinned (OpenSpec.ofChange wordTextsWrong)

/-- 'analemmalaw08.WordBack': WHATEVER THE INPUT: true; the input reads as it did. -/
def wordBackSpec : ChangeSpec := { name := "wordBack", fn := fun _ => fun
  | [d1, d2, d3, d4] => { results := [.lit (.bool true)], args := [d1, d2, d3, d4] }
  | _ => none }
def wordBackRow : OpenClaim := { program := "ytiompmplnmkakaadoor", sum := "4e5235e4c39d0c3fdad8dcff6274c68a5a274d8a71f36bde292001e8997d6e04", func := "analemma/analemmalaw08.WordBack", spec := "wordBack", inPlace := ["internal/abi.NoEscape", "internal/bytealg.MakeNoZero"], unfollowed := true, recurses := true, named := ["analemma/word.lines", "analemma/word.months", "analemma/word.weekdays", "analemma/word.years", "unicode/utf8.first", "unicode/utf8.acceptRanges", "unicode.CaseRanges"], apart := false, laid := [("unicode/utf8.acceptRanges", laid_unicode_utf8_acceptRanges), ("analemma/word.lines", laid_analemma_word_lines), ("analemma/word.months", laid_analemma_word_months), ("analemma/word.weekdays", laid_analemma_word_weekdays), ("analemma/word.years", laid_analemma_word_years), ("unicode.CaseRanges", laid_unicode_CaseRanges), ("unicode/utf8.first", laid_unicode_utf8_first)] }
def WordBackSaid : Prop := wordBackRow.holds Tryd.pinned (OpenSpec.ofChange wordBackSpec)

/-- ITS FALSE NEIGHBOUR: 'it returns false'. Refute it at one input. -/
def wordBackWrong : ChangeSpec := { name := "wordBack", fn := fun _ => fun
  | [d1, d2, d3, d4] => { results := [.lit (.bool false)], args := [d1, d2, d3, d4] }
  | _ => none }
def WordBackWrongFalsely : Prop := wordBackRow.holds Tryd.pinned (OpenSpec.ofChange wordBackWrong)

/-- 'analemmalaw08.WordShort': WHATEVER THE INPUT: true; the input reads as it did. -/
def wordShortSpec : ChangeSpec := { name := "wordShort", fn := fun _ => fun
  | [d1, d2] => { results := [.lit (.bool true)], args := [d1, d2] }
  | _ => none }
def wordShortRow : OpenClaim := { program := "ytiompmplnmkakaadoor", sum := "4e5235e4c39d0c3fdad8dcff6274c68a5a274d8a71f36bde292001e8997d6e04", func := "analemma/analemmalaw08.WordShort", spec := "wordShort", inPlace := ["internal/abi.NoEscape", "internal/bytealg.MakeNoZero"], unfollowed := true, recurses := true, named := ["analemma/word.months", "unicode/utf8.first", "unicode/utf8.acceptRanges", "unicode.CaseRanges", "analemma/word.weekdays", "analemma/word.lines", "analemma/word.years"], apart := false, laid := [("unicode/utf8.acceptRanges", laid_unicode_utf8_acceptRanges), ("analemma/word.lines", laid_analemma_word_lines), ("analemma/word.months", laid_analemma_word_months), ("analemma/word.weekdays", laid_analemma_word_weekdays), ("analemma/word.years", laid_analemma_word_years), ("unicode.CaseRanges", laid_unicode_CaseRanges), ("unicode/utf8.first", laid_unicode_utf8_first)] }
def WordShortSaid : Prop := wordShortRow.holds Tryd.pinned (OpenSpec.ofChange wordShortSpec)

/-- ITS FALSE NEIGHBOUR: 'it returns false'. Refute it at one input. -/
def wordShortWrong : ChangeSpec := { name := "wordShort", fn := fun _ => fun
  | [d1, d2] => { results := [.lit (.bool false)], args := [d1, d2] }
  | _ => none }
def WordShortWrongFalsely : Prop := wordShortRow.holds Tryd.pinned (OpenSpec.ofChange wordShortWrong)

/-- 'analemmalaw08.WordMore': WHATEVER THE INPUT: true; the input reads as it did. -/
def wordMoreSpec : ChangeSpec := { name := "wordMore", fn := fun _ => fun
  | [d1, d2, d3, d4] => { results := [.lit (.bool true)], args := [d1, d2, d3, d4] }
  | _ => none }
def wordMoreRow : OpenClaim := { program := "ytiompmplnmkakaadoor", sum := "4e5235e4c39d0c3fdad8dcff6274c68a5a274d8a71f36bde292001e8997d6e04", func := "analemma/analemmalaw08.WordMore", spec := "wordMore", inPlace := ["internal/abi.NoEscape", "internal/bytealg.MakeNoZero"], unfollowed := true, recurses := true, named := ["analemma/word.lines", "analemma/word.months", "analemma/word.weekdays", "analemma/word.years", "unicode/utf8.first", "unicode/utf8.acceptRanges", "unicode.CaseRanges"], apart := false, laid := [("unicode/utf8.acceptRanges", laid_unicode_utf8_acceptRanges), ("analemma/word.lines", laid_analemma_word_lines), ("analemma/word.months", laid_analemma_word_months), ("analemma/word.weekdays", laid_analemma_word_weekdays), ("analemma/word.years", laid_analemma_word_years), ("unicode.CaseRanges", laid_unicode_CaseRanges), ("unicode/utf8.first", laid_unicode_utf8_first)] }
def WordMoreSaid : Prop := wordMoreRow.holds Tryd.pinned (OpenSpec.ofChange wordMoreSpec)

/-- ITS FALSE NEIGHBOUR: 'it returns false'. Refute it at one input. -/
def wordMoreWrong : ChangeSpec := { name := "wordMore", fn := fun _ => fun
  | [d1, d2, d3, d4] => { results := [.lit (.bool false)], args := [d1, d2, d3, d4] }
  | _ => none }
def WordMoreWrongFalsely : Prop := wordMoreRow.holds Tryd.pinned (OpenSpec.ofChange wordMoreWrong)

/-- 'analemmalaw08.WordOne': WHATEVER THE INPUT: true; the input reads as it did. -/
def wordOneSpec : ChangeSpec := { name := "wordOne", fn := fun _ => fun
  | [d] => { results := [.lit (.bool true)], args := [d] }
  | _ => none }
def wordOneRow : OpenClaim := { program := "ytiompmplnmkakaadoor", sum := "4e5235e4c39d0c3fdad8dcff6274c68a5a274d8a71f36bde292001e8997d6e04", func := "analemma/analemmalaw08.WordOne", spec := "wordOne", inPlace := ["internal/abi.NoEscape", "internal/bytealg.MakeNoZero"], unfollowed := true, recurses := true, named := ["analemma/word.lines", "analemma/word.months", "analemma/word.weekdays", "analemma/word.years", "unicode/utf8.first", "unicode/utf8.acceptRanges", "unicode.CaseRanges"], apart := false, laid := [("unicode/utf8.acceptRanges", laid_unicode_utf8_acceptRanges), ("analemma/word.lines", laid_analemma_word_lines), ("analemma/word.months", laid_analemma_word_months), ("analemma/word.weekdays", laid_analemma_word_weekdays), ("analemma/word.years", laid_analemma_word_years), ("unicode.CaseRanges", laid_unicode_CaseRanges), ("unicode/utf8.first", laid_unicode_utf8_first)] }
def WordOneSaid : Prop := wordOneRow.holds Tryd.pinned (OpenSpec.ofChange wordOneSpec)

/-- ITS FALSE NEIGHBOUR: 'it returns false'. Refute it at one input. -/
def wordOneWrong : ChangeSpec := { name := "wordOne", fn := fun _ => fun
  | [d] => { results := [.lit (.bool false)], args := [d] }
  | _ => none }
def WordOneWrongFalsely : Prop := wordOneRow.holds Tryd.pinned (OpenSpec.ofChange wordOneWrong)

/-- 'analemmalaw08.WordNumbers': WHATEVER THE INPUT: true; the input reads as it did. -/
def wordNumbersSpec : ChangeSpec := { name := "wordNumbers", fn := fun _ => fun
  | [d] => { results := [.lit (.bool true)], args := [d] }
  | _ => none }
def wordNumbersRow : OpenClaim := { program := "ytiompmplnmkakaadoor", sum := "4e5235e4c39d0c3fdad8dcff6274c68a5a274d8a71f36bde292001e8997d6e04", func := "analemma/analemmalaw08.WordNumbers", spec := "wordNumbers", inPlace := ["internal/abi.NoEscape", "internal/bytealg.MakeNoZero"], unfollowed := true, recurses := true, named := ["analemma/word.months", "unicode/utf8.first", "unicode/utf8.acceptRanges", "unicode.CaseRanges", "analemma/word.weekdays", "analemma/word.lines", "analemma/word.years"], apart := false, laid := [("unicode/utf8.acceptRanges", laid_unicode_utf8_acceptRanges), ("analemma/word.lines", laid_analemma_word_lines), ("analemma/word.months", laid_analemma_word_months), ("analemma/word.weekdays", laid_analemma_word_weekdays), ("analemma/word.years", laid_analemma_word_years), ("unicode.CaseRanges", laid_unicode_CaseRanges), ("unicode/utf8.first", laid_unicode_utf8_first)] }
def WordNumbersSaid : Prop := wordNumbersRow.holds Tryd.pinned (OpenSpec.ofChange wordNumbersSpec)

/-- ITS FALSE NEIGHBOUR: 'it returns false'. Refute it at one input. -/
def wordNumbersWrong : ChangeSpec := { name := "wordNumbers", fn := fun _ => fun
  | [d] => { results := [.lit (.bool false)], args := [d] }
  | _ => none }
def WordNumbersWrongFalsely : Prop := wordNumbersRow.holds Tryd.pinned (OpenSpec.ofChange wordNumbersWrong)

/- THE SECOND FORM. 'bulk': how many values and letters a reading holds, each counted each time it is reached (what is shared counts as often as it is met; a slice's spare places count too). A statement '..UptoSaid' is the law's where the arguments, and the package variables that the reading takes, are together of bulk at most 1048576: NARROWER than '..Said'. Prove '..Said' where nothing that the law and all that it calls make is longer than what came in: it says more and counts as full. Else prove '..UptoSaid'. A law counts once. -/
mutual
def uptoBulk {H : Type} : DataW H → Nat
  | .lit (.string bytes) => bytes.length + 1
  | .lit _ => 1
  | .nil => 1
  | .ptr d => uptoBulk d + 1
  | .slice elems spare => uptoBulkAll elems + uptoBulkAll spare + 1
  | .agg parts => uptoBulkAll parts + 1
  | .iface _ d => uptoBulk d + 1
  | .map entries => uptoBulkEntries entries + 1
  | .held _ => 1
def uptoBulkAll {H : Type} : List (DataW H) → Nat
  | [] => 0
  | d :: r => uptoBulk d + uptoBulkAll r
def uptoBulkEntries {H : Type} : List (Lit × DataW H) → Nat
  | [] => 0
  | x :: r => uptoBulkEntry x + uptoBulkEntries r
def uptoBulkEntry {H : Type} : Lit × DataW H → Nat
  | (.string bytes, d) => bytes.length + uptoBulk d + 1
  | (_, d) => uptoBulk d + 1
 end
def uptoSmall : (H : Type) → List (DataW H) → Bool := fun _ ds => decide (uptoBulkAll ds ≤ 1048576)
def OpenSpec.upto (s : _root_.Go.ChangeSpec) : _root_.Go.OpenSpec := { _root_.Go.OpenSpec.ofChange s with cond := some uptoSmall }

/-- 'analemmalaw08.WordFinds', WHERE WHAT IT READS IS OF BULK AT MOST 1048576: true; the input reads as it did. -/
def wordFindsUptoRow : OpenClaim := { program := "ytiompmplnmkakaadoor", sum := "4e5235e4c39d0c3fdad8dcff6274c68a5a274d8a71f36bde292001e8997d6e04", func := "analemma/analemmalaw08.WordFinds", spec := "wordFinds", inPlace := ["internal/abi.NoEscape", "internal/bytealg.MakeNoZero"], unfollowed := true, recurses := true, named := ["analemma/word.lines", "analemma/word.months", "analemma/word.weekdays", "analemma/word.years", "unicode/utf8.first", "unicode/utf8.acceptRanges", "unicode.CaseRanges"], apart := false, laid := [("unicode/utf8.acceptRanges", laid_unicode_utf8_acceptRanges), ("analemma/word.lines", laid_analemma_word_lines), ("analemma/word.months", laid_analemma_word_months), ("analemma/word.weekdays", laid_analemma_word_weekdays), ("analemma/word.years", laid_analemma_word_years), ("unicode.CaseRanges", laid_unicode_CaseRanges), ("unicode/utf8.first", laid_unicode_utf8_first)], narrowed := true }
def WordFindsUptoSaid : Prop := wordFindsUptoRow.holds Tryd.pinned (OpenSpec.upto wordFindsSpec)

/-- 'analemmalaw08.WordTexts', WHERE WHAT IT READS IS OF BULK AT MOST 1048576: true; the input reads as it did. -/
def wordTextsUptoRow : OpenClaim := { program := "ytiompmplnmkakaadoor", sum := "4e5235e4c39d0c3fdad8dcff6274c68a5a274d8a71f36bde292001e8997d6e04", func := "analemma/analemmalaw08.WordTexts", spec := "wordTexts", inPlace := ["internal/abi.NoEscape", "internal/bytealg.MakeNoZero"], unfollowed := true, recurses := true, named := ["analemma/word.months", "unicode/utf8.first", "unicode/utf8.acceptRanges", "unicode.CaseRanges", "analemma/word.weekdays", "analemma/word.lines", "analemma/word.years"], apart := false, laid := [("unicode/utf8.acceptRanges", laid_unicode_utf8_acceptRanges), ("analemma/word.lines", laid_analemma_word_lines), ("analemma/word.months", laid_analemma_word_months), ("analemma/word.weekdays", laid_analemma_word_weekdays), ("analemma/word.years", laid_analemma_word_years), ("unicode.CaseRanges", laid_unicode_CaseRanges), ("unicode/utf8.first", laid_unicode_utf8_first)], narrowed := true }
def WordTextsUptoSaid : Prop := wordTextsUptoRow.holds Tryd.pinned (OpenSpec.upto wordTextsSpec)

/-- 'analemmalaw08.WordBack', WHERE WHAT IT READS IS OF BULK AT MOST 1048576: true; the input reads as it did. -/
def wordBackUptoRow : OpenClaim := { program := "ytiompmplnmkakaadoor", sum := "4e5235e4c39d0c3fdad8dcff6274c68a5a274d8a71f36bde292001e8997d6e04", func := "analemma/analemmalaw08.WordBack", spec := "wordBack", inPlace := ["internal/abi.NoEscape", "internal/bytealg.MakeNoZero"], unfollowed := true, recurses := true, named := ["analemma/word.lines", "analemma/word.months", "analemma/word.weekdays", "analemma/word.years", "unicode/utf8.first", "unicode/utf8.acceptRanges", "unicode.CaseRanges"], apart := false, laid := [("unicode/utf8.acceptRanges", laid_unicode_utf8_acceptRanges), ("analemma/word.lines", laid_analemma_word_lines), ("analemma/word.months", laid_analemma_word_months), ("analemma/word.weekdays", laid_analemma_word_weekdays), ("analemma/word.years", laid_analemma_word_years), ("unicode.CaseRanges", laid_unicode_CaseRanges), ("unicode/utf8.first", laid_unicode_utf8_first)], narrowed := true }
def WordBackUptoSaid : Prop := wordBackUptoRow.holds Tryd.pinned (OpenSpec.upto wordBackSpec)

/-- 'analemmalaw08.WordShort', WHERE WHAT IT READS IS OF BULK AT MOST 1048576: true; the input reads as it did. -/
def wordShortUptoRow : OpenClaim := { program := "ytiompmplnmkakaadoor", sum := "4e5235e4c39d0c3fdad8dcff6274c68a5a274d8a71f36bde292001e8997d6e04", func := "analemma/analemmalaw08.WordShort", spec := "wordShort", inPlace := ["internal/abi.NoEscape", "internal/bytealg.MakeNoZero"], unfollowed := true, recurses := true, named := ["analemma/word.months", "unicode/utf8.first", "unicode/utf8.acceptRanges", "unicode.CaseRanges", "analemma/word.weekdays", "analemma/word.lines", "analemma/word.years"], apart := false, laid := [("unicode/utf8.acceptRanges", laid_unicode_utf8_acceptRanges), ("analemma/word.lines", laid_analemma_word_lines), ("analemma/word.months", laid_analemma_word_months), ("analemma/word.weekdays", laid_analemma_word_weekdays), ("analemma/word.years", laid_analemma_word_years), ("unicode.CaseRanges", laid_unicode_CaseRanges), ("unicode/utf8.first", laid_unicode_utf8_first)], narrowed := true }
def WordShortUptoSaid : Prop := wordShortUptoRow.holds Tryd.pinned (OpenSpec.upto wordShortSpec)

/-- 'analemmalaw08.WordMore', WHERE WHAT IT READS IS OF BULK AT MOST 1048576: true; the input reads as it did. -/
def wordMoreUptoRow : OpenClaim := { program := "ytiompmplnmkakaadoor", sum := "4e5235e4c39d0c3fdad8dcff6274c68a5a274d8a71f36bde292001e8997d6e04", func := "analemma/analemmalaw08.WordMore", spec := "wordMore", inPlace := ["internal/abi.NoEscape", "internal/bytealg.MakeNoZero"], unfollowed := true, recurses := true, named := ["analemma/word.lines", "analemma/word.months", "analemma/word.weekdays", "analemma/word.years", "unicode/utf8.first", "unicode/utf8.acceptRanges", "unicode.CaseRanges"], apart := false, laid := [("unicode/utf8.acceptRanges", laid_unicode_utf8_acceptRanges), ("analemma/word.lines", laid_analemma_word_lines), ("analemma/word.months", laid_analemma_word_months), ("analemma/word.weekdays", laid_analemma_word_weekdays), ("analemma/word.years", laid_analemma_word_years), ("unicode.CaseRanges", laid_unicode_CaseRanges), ("unicode/utf8.first", laid_unicode_utf8_first)], narrowed := true }
def WordMoreUptoSaid : Prop := wordMoreUptoRow.holds Tryd.pinned (OpenSpec.upto wordMoreSpec)

/-- 'analemmalaw08.WordOne', WHERE WHAT IT READS IS OF BULK AT MOST 1048576: true; the input reads as it did. -/
def wordOneUptoRow : OpenClaim := { program := "ytiompmplnmkakaadoor", sum := "4e5235e4c39d0c3fdad8dcff6274c68a5a274d8a71f36bde292001e8997d6e04", func := "analemma/analemmalaw08.WordOne", spec := "wordOne", inPlace := ["internal/abi.NoEscape", "internal/bytealg.MakeNoZero"], unfollowed := true, recurses := true, named := ["analemma/word.lines", "analemma/word.months", "analemma/word.weekdays", "analemma/word.years", "unicode/utf8.first", "unicode/utf8.acceptRanges", "unicode.CaseRanges"], apart := false, laid := [("unicode/utf8.acceptRanges", laid_unicode_utf8_acceptRanges), ("analemma/word.lines", laid_analemma_word_lines), ("analemma/word.months", laid_analemma_word_months), ("analemma/word.weekdays", laid_analemma_word_weekdays), ("analemma/word.years", laid_analemma_word_years), ("unicode.CaseRanges", laid_unicode_CaseRanges), ("unicode/utf8.first", laid_unicode_utf8_first)], narrowed := true }
def WordOneUptoSaid : Prop := wordOneUptoRow.holds Tryd.pinned (OpenSpec.upto wordOneSpec)

/-- 'analemmalaw08.WordNumbers', WHERE WHAT IT READS IS OF BULK AT MOST 1048576: true; the input reads as it did. -/
def wordNumbersUptoRow : OpenClaim := { program := "ytiompmplnmkakaadoor", sum := "4e5235e4c39d0c3fdad8dcff6274c68a5a274d8a71f36bde292001e8997d6e04", func := "analemma/analemmalaw08.WordNumbers", spec := "wordNumbers", inPlace := ["internal/abi.NoEscape", "internal/bytealg.MakeNoZero"], unfollowed := true, recurses := true, named := ["analemma/word.months", "unicode/utf8.first", "unicode/utf8.acceptRanges", "unicode.CaseRanges", "analemma/word.weekdays", "analemma/word.lines", "analemma/word.years"], apart := false, laid := [("unicode/utf8.acceptRanges", laid_unicode_utf8_acceptRanges), ("analemma/word.lines", laid_analemma_word_lines), ("analemma/word.months", laid_analemma_word_months), ("analemma/word.weekdays", laid_analemma_word_weekdays), ("analemma/word.years", laid_analemma_word_years), ("unicode.CaseRanges", laid_unicode_CaseRanges), ("unicode/utf8.first", laid_unicode_utf8_first)], narrowed := true }
def WordNumbersUptoSaid : Prop := wordNumbersUptoRow.holds Tryd.pinned (OpenSpec.upto wordNumbersSpec)

end Rows
end Go.Proofs.YtiompmplnmkakaaDoor
