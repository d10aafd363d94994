/-
  DERIVED. GIVEN WITH THE SEED: THE CARDS: each row of YtlekbbggbfhgaaaDoorRows.lean that lists a variable, with what it lists TIED to the program's text (the seventh form; the later family's looks); each row that meets fmt, with fmt's text TOLD by the authors' own Lean function (tested against real Go, not proved from fmt's source: count such statements apart). THE CARD IS WHAT COUNTS. Prove the row's statement (the work); the ties are given (YtlekbbggbfhgaaaDoorTie.lean); close each card by the builder's one call (the guide's Derived/Test/ToyasCard.lean, 'card_holds'). Laid BY PROGRAM, IN A SANDBOX (cutbox-door.mjs). By AI agents, Wed Nov 11 2026. No macro, syntax, notation, axiom, sorry.
-/
import Derived.Test.YtlekbbggbfhgaaaDoorRows
import GoSem.ClaimSeven
namespace Go.Proofs.YtlekbbggbfhgaaaDoor
namespace Rows

/-- THE TIED CARD OF 'analemmalaw05.LexemeLines'. -/
def lexemeLinesCard : Claim7 := { stood := { row := lexemeLinesRow, standIns := [], harness := (true, "e72d02667c99ecdf78ab772935db40bbd0f627d2b688a75f10709ec592dfc1b1"), looks := false }, kinds := [], alts := [], laidByText := true, laidKinds := [.data, .pinned], laidTests := true, laidLooks := .later }
def LexemeLinesCardSaid : Prop := Claim7.holds Tryd.pinned (.plain (OpenSpec.ofChange lexemeLinesSpec)) lexemeLinesCard

/-- THE TIED CARD OF 'analemmalaw05.LexemeFields'. -/
def lexemeFieldsCard : Claim7 := { stood := { row := lexemeFieldsRow, standIns := [], harness := (true, "e72d02667c99ecdf78ab772935db40bbd0f627d2b688a75f10709ec592dfc1b1"), looks := false }, kinds := [], alts := [], laidByText := true, laidKinds := [.data, .pinned], laidTests := true, laidLooks := .later }
def LexemeFieldsCardSaid : Prop := Claim7.holds Tryd.pinned (.plain (OpenSpec.ofChange lexemeFieldsSpec)) lexemeFieldsCard

/-- THE TIED CARD OF 'analemmalaw05.LexemeBack'. -/
def lexemeBackCard : Claim7 := { stood := { row := lexemeBackRow, standIns := [], harness := (true, "e72d02667c99ecdf78ab772935db40bbd0f627d2b688a75f10709ec592dfc1b1"), looks := false }, kinds := [], alts := [], laidByText := true, laidKinds := [.data, .pinned], laidTests := true, laidLooks := .later }
def LexemeBackCardSaid : Prop := Claim7.holds Tryd.pinned (.plain (OpenSpec.ofChange lexemeBackSpec)) lexemeBackCard

/-- THE TIED CARD OF 'analemmalaw05.LexemeText'. -/
def lexemeTextCard : Claim7 := { stood := { row := lexemeTextRow, standIns := [], harness := (true, "e72d02667c99ecdf78ab772935db40bbd0f627d2b688a75f10709ec592dfc1b1"), looks := false }, kinds := [], alts := [], laidByText := true, laidKinds := [.data, .pinned], laidTests := true, laidLooks := .later }
def LexemeTextCardSaid : Prop := Claim7.holds Tryd.pinned (.plain (OpenSpec.ofChange lexemeTextSpec)) lexemeTextCard

/-- THE TIED CARD OF 'analemmalaw05.LexemeQuotes'. -/
def lexemeQuotesCard : Claim7 := { stood := { row := lexemeQuotesRow, standIns := [], harness := (true, "e72d02667c99ecdf78ab772935db40bbd0f627d2b688a75f10709ec592dfc1b1"), looks := false }, kinds := [], alts := [], laidByText := true, laidKinds := [.data, .pinned], laidTests := true, laidLooks := .later }
def LexemeQuotesCardSaid : Prop := Claim7.holds Tryd.pinned (.plain (OpenSpec.ofChange lexemeQuotesSpec)) lexemeQuotesCard

/-- THE TIED CARD OF 'analemmalaw05.LexemeWrong'. -/
def lexemeWrongCard : Claim7 := { stood := { row := lexemeWrongRow, standIns := [], harness := (true, "e72d02667c99ecdf78ab772935db40bbd0f627d2b688a75f10709ec592dfc1b1"), looks := false }, kinds := [], alts := [], laidByText := true, laidKinds := [.data, .pinned], laidTests := true, laidLooks := .later }
def LexemeWrongCardSaid : Prop := Claim7.holds Tryd.pinned (.plain (OpenSpec.ofChange lexemeWrongSpec)) lexemeWrongCard

/-- THE TIED CARD OF 'analemmalaw05.LexemeLong'. -/
def lexemeLongCard : Claim7 := { stood := { row := lexemeLongRow, standIns := [], harness := (true, "e72d02667c99ecdf78ab772935db40bbd0f627d2b688a75f10709ec592dfc1b1"), looks := false }, kinds := [], alts := [], laidByText := true, laidKinds := [.data, .pinned], laidTests := true, laidLooks := .later }
def LexemeLongCardSaid : Prop := Claim7.holds Tryd.pinned (.plain (OpenSpec.ofChange lexemeLongSpec)) lexemeLongCard

/-- THE TIED CARD OF 'analemmalaw05.LexemeHuge'. -/
def lexemeHugeCard : Claim7 := { stood := { row := lexemeHugeRow, standIns := [], harness := (true, "e72d02667c99ecdf78ab772935db40bbd0f627d2b688a75f10709ec592dfc1b1"), looks := false }, kinds := [], alts := [], laidByText := true, laidKinds := [.data, .pinned], laidTests := true, laidLooks := .later }
def LexemeHugeCardSaid : Prop := Claim7.holds Tryd.pinned (.plain (OpenSpec.ofChange lexemeHugeSpec)) lexemeHugeCard

/-- THE SECOND FORM's CARD OF 'analemmalaw05.LexemeLines'. -/
def lexemeLinesUptoCard : Claim7 := { stood := { row := lexemeLinesUptoRow, standIns := [], harness := (true, "e72d02667c99ecdf78ab772935db40bbd0f627d2b688a75f10709ec592dfc1b1"), looks := false }, kinds := [], alts := [], laidByText := true, laidKinds := [.data, .pinned], laidTests := true, laidLooks := .later }
def LexemeLinesUptoCardSaid : Prop := Claim7.holds Tryd.pinned (.plain (OpenSpec.upto lexemeLinesSpec)) lexemeLinesUptoCard

/-- THE SECOND FORM's CARD OF 'analemmalaw05.LexemeFields'. -/
def lexemeFieldsUptoCard : Claim7 := { stood := { row := lexemeFieldsUptoRow, standIns := [], harness := (true, "e72d02667c99ecdf78ab772935db40bbd0f627d2b688a75f10709ec592dfc1b1"), looks := false }, kinds := [], alts := [], laidByText := true, laidKinds := [.data, .pinned], laidTests := true, laidLooks := .later }
def LexemeFieldsUptoCardSaid : Prop := Claim7.holds Tryd.pinned (.plain (OpenSpec.upto lexemeFieldsSpec)) lexemeFieldsUptoCard

/-- THE SECOND FORM's CARD OF 'analemmalaw05.LexemeBack'. -/
def lexemeBackUptoCard : Claim7 := { stood := { row := lexemeBackUptoRow, standIns := [], harness := (true, "e72d02667c99ecdf78ab772935db40bbd0f627d2b688a75f10709ec592dfc1b1"), looks := false }, kinds := [], alts := [], laidByText := true, laidKinds := [.data, .pinned], laidTests := true, laidLooks := .later }
def LexemeBackUptoCardSaid : Prop := Claim7.holds Tryd.pinned (.plain (OpenSpec.upto lexemeBackSpec)) lexemeBackUptoCard

/-- THE SECOND FORM's CARD OF 'analemmalaw05.LexemeText'. -/
def lexemeTextUptoCard : Claim7 := { stood := { row := lexemeTextUptoRow, standIns := [], harness := (true, "e72d02667c99ecdf78ab772935db40bbd0f627d2b688a75f10709ec592dfc1b1"), looks := false }, kinds := [], alts := [], laidByText := true, laidKinds := [.data, .pinned], laidTests := true, laidLooks := .later }
def LexemeTextUptoCardSaid : Prop := Claim7.holds Tryd.pinned (.plain (OpenSpec.upto lexemeTextSpec)) lexemeTextUptoCard

/-- THE SECOND FORM's CARD OF 'analemmalaw05.LexemeQuotes'. -/
def lexemeQuotesUptoCard : Claim7 := { stood := { row := lexemeQuotesUptoRow, standIns := [], harness := (true, "e72d02667c99ecdf78ab772935db40bbd0f627d2b688a75f10709ec592dfc1b1"), looks := false }, kinds := [], alts := [], laidByText := true, laidKinds := [.data, .pinned], laidTests := true, laidLooks := .later }
def LexemeQuotesUptoCardSaid : Prop := Claim7.holds Tryd.pinned (.plain (OpenSpec.upto lexemeQuotesSpec)) lexemeQuotesUptoCard

/-- THE SECOND FORM's CARD OF 'analemmalaw05.LexemeWrong'. -/
def lexemeWrongUptoCard : Claim7 := { stood := { row := lexemeWrongUptoRow, standIns := [], harness := (true, "e72d02667c99ecdf78ab772935db40bbd0f627d2b688a75f10709ec592dfc1b1"), looks := false }, kinds := [], alts := [], laidByText := true, laidKinds := [.data, .pinned], laidTests := true, laidLooks := .later }
def LexemeWrongUptoCardSaid : Prop := Claim7.holds Tryd.pinned (.plain (OpenSpec.upto lexemeWrongSpec)) lexemeWrongUptoCard

/-- THE SECOND FORM's CARD OF 'analemmalaw05.LexemeLong'. -/
def lexemeLongUptoCard : Claim7 := { stood := { row := lexemeLongUptoRow, standIns := [], harness := (true, "e72d02667c99ecdf78ab772935db40bbd0f627d2b688a75f10709ec592dfc1b1"), looks := false }, kinds := [], alts := [], laidByText := true, laidKinds := [.data, .pinned], laidTests := true, laidLooks := .later }
def LexemeLongUptoCardSaid : Prop := Claim7.holds Tryd.pinned (.plain (OpenSpec.upto lexemeLongSpec)) lexemeLongUptoCard

/-- THE SECOND FORM's CARD OF 'analemmalaw05.LexemeHuge'. -/
def lexemeHugeUptoCard : Claim7 := { stood := { row := lexemeHugeUptoRow, standIns := [], harness := (true, "e72d02667c99ecdf78ab772935db40bbd0f627d2b688a75f10709ec592dfc1b1"), looks := false }, kinds := [], alts := [], laidByText := true, laidKinds := [.data, .pinned], laidTests := true, laidLooks := .later }
def LexemeHugeUptoCardSaid : Prop := Claim7.holds Tryd.pinned (.plain (OpenSpec.upto lexemeHugeSpec)) lexemeHugeUptoCard
end Rows
end Go.Proofs.YtlekbbggbfhgaaaDoor
