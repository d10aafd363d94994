/-
  DERIVED. GIVEN WITH THE SEED: THE CARDS: each row of YtedcfnaphfgfjaaDoorRows.lean that lists a variable, with what it lists TIED to the program's text (the seventh form; the later family's looks); each row that meets fmt, with fmt's text TOLD by the authors' own Lean function (tested against real Go, not proved from fmt's source: count such statements apart). THE CARD IS WHAT COUNTS. Prove the row's statement (the work); the ties are given (YtedcfnaphfgfjaaDoorTie.lean); close each card by the builder's one call (the guide's Derived/Test/ToyasCard.lean, 'card_holds'). Laid BY PROGRAM, IN A SANDBOX (cutbox-door.mjs). By AI agents, Wed Nov 11 2026. No macro, syntax, notation, axiom, sorry.
-/
import Derived.Test.YtedcfnaphfgfjaaDoorRows
import GoSem.ClaimSeven
namespace Go.Proofs.YtedcfnaphfgfjaaDoor
namespace Rows

/-- THE TIED CARD OF 'analemmalaw09.DayspecReads'. -/
def dayspecReadsCard : Claim7 := { stood := { row := dayspecReadsRow, standIns := [], harness := (true, "ed18cc1f7b8cff2d4797e6fb25800701a7d7a2af4545dfac90f16eb8fce6b3fb"), looks := false }, kinds := [], alts := [], laidByText := true, laidKinds := [.data, .data, .data, .data, .data, .data, .data, .wider, .pinned, .pinned], laidTests := true, laidLooks := .later }
def DayspecReadsCardSaid : Prop := Claim7.holds Tryd.pinned (.plain (OpenSpec.ofChange dayspecReadsSpec)) dayspecReadsCard

/-- THE TIED CARD OF 'analemmalaw09.DayspecBack'. -/
def dayspecBackCard : Claim7 := { stood := { row := dayspecBackRow, standIns := [], harness := (true, "ed18cc1f7b8cff2d4797e6fb25800701a7d7a2af4545dfac90f16eb8fce6b3fb"), looks := false }, kinds := [], alts := [], laidByText := true, laidKinds := [.data, .data, .data, .data, .data, .data, .data, .wider, .pinned, .pinned], laidTests := true, laidLooks := .later }
def DayspecBackCardSaid : Prop := Claim7.holds Tryd.pinned (.plain (OpenSpec.ofChange dayspecBackSpec)) dayspecBackCard

/-- THE TIED CARD OF 'analemmalaw09.DayspecWords'. -/
def dayspecWordsCard : Claim7 := { stood := { row := dayspecWordsRow, standIns := [], harness := (true, "ed18cc1f7b8cff2d4797e6fb25800701a7d7a2af4545dfac90f16eb8fce6b3fb"), looks := false }, kinds := [], alts := [], laidByText := true, laidKinds := [.data, .data, .data, .data, .data, .data, .data, .wider, .pinned, .pinned], laidTests := true, laidLooks := .later }
def DayspecWordsCardSaid : Prop := Claim7.holds Tryd.pinned (.plain (OpenSpec.ofChange dayspecWordsSpec)) dayspecWordsCard

/-- THE TIED CARD OF 'analemmalaw09.DayspecRefuses'. -/
def dayspecRefusesCard : Claim7 := { stood := { row := dayspecRefusesRow, standIns := [], harness := (true, "ed18cc1f7b8cff2d4797e6fb25800701a7d7a2af4545dfac90f16eb8fce6b3fb"), looks := false }, kinds := [], alts := [], laidByText := true, laidKinds := [.data, .data, .data, .data, .data, .data, .data, .wider, .pinned, .pinned], laidTests := true, laidLooks := .later }
def DayspecRefusesCardSaid : Prop := Claim7.holds Tryd.pinned (.plain (OpenSpec.ofChange dayspecRefusesSpec)) dayspecRefusesCard

/-- THE SECOND FORM's CARD OF 'analemmalaw09.DayspecReads'. -/
def dayspecReadsUptoCard : Claim7 := { stood := { row := dayspecReadsUptoRow, standIns := [], harness := (true, "ed18cc1f7b8cff2d4797e6fb25800701a7d7a2af4545dfac90f16eb8fce6b3fb"), looks := false }, kinds := [], alts := [], laidByText := true, laidKinds := [.data, .data, .data, .data, .data, .data, .data, .wider, .pinned, .pinned], laidTests := true, laidLooks := .later }
def DayspecReadsUptoCardSaid : Prop := Claim7.holds Tryd.pinned (.plain (OpenSpec.upto dayspecReadsSpec)) dayspecReadsUptoCard

/-- THE SECOND FORM's CARD OF 'analemmalaw09.DayspecBack'. -/
def dayspecBackUptoCard : Claim7 := { stood := { row := dayspecBackUptoRow, standIns := [], harness := (true, "ed18cc1f7b8cff2d4797e6fb25800701a7d7a2af4545dfac90f16eb8fce6b3fb"), looks := false }, kinds := [], alts := [], laidByText := true, laidKinds := [.data, .data, .data, .data, .data, .data, .data, .wider, .pinned, .pinned], laidTests := true, laidLooks := .later }
def DayspecBackUptoCardSaid : Prop := Claim7.holds Tryd.pinned (.plain (OpenSpec.upto dayspecBackSpec)) dayspecBackUptoCard

/-- THE SECOND FORM's CARD OF 'analemmalaw09.DayspecWords'. -/
def dayspecWordsUptoCard : Claim7 := { stood := { row := dayspecWordsUptoRow, standIns := [], harness := (true, "ed18cc1f7b8cff2d4797e6fb25800701a7d7a2af4545dfac90f16eb8fce6b3fb"), looks := false }, kinds := [], alts := [], laidByText := true, laidKinds := [.data, .data, .data, .data, .data, .data, .data, .wider, .pinned, .pinned], laidTests := true, laidLooks := .later }
def DayspecWordsUptoCardSaid : Prop := Claim7.holds Tryd.pinned (.plain (OpenSpec.upto dayspecWordsSpec)) dayspecWordsUptoCard

/-- THE SECOND FORM's CARD OF 'analemmalaw09.DayspecRefuses'. -/
def dayspecRefusesUptoCard : Claim7 := { stood := { row := dayspecRefusesUptoRow, standIns := [], harness := (true, "ed18cc1f7b8cff2d4797e6fb25800701a7d7a2af4545dfac90f16eb8fce6b3fb"), looks := false }, kinds := [], alts := [], laidByText := true, laidKinds := [.data, .data, .data, .data, .data, .data, .data, .wider, .pinned, .pinned], laidTests := true, laidLooks := .later }
def DayspecRefusesUptoCardSaid : Prop := Claim7.holds Tryd.pinned (.plain (OpenSpec.upto dayspecRefusesSpec)) dayspecRefusesUptoCard
end Rows
end Go.Proofs.YtedcfnaphfgfjaaDoor
