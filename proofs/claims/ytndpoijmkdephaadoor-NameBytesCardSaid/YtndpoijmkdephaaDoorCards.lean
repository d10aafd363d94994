/-
  DERIVED. GIVEN WITH THE SEED: THE CARDS: each row of YtndpoijmkdephaaDoorRows.lean that lists a variable, with what it lists TIED to the program's text (the seventh form; the later family's looks); each row that meets fmt, with fmt's text TOLD by the authors' own Lean function (tested against real Go, not proved from fmt's source: count such statements apart). THE CARD IS WHAT COUNTS. Prove the row's statement (the work); the ties are given (YtndpoijmkdephaaDoorTie.lean); close each card by the builder's one call (the guide's Derived/Test/ToyasCard.lean, 'card_holds'). Laid BY PROGRAM, IN A SANDBOX (cutbox-door.mjs). By AI agents, Wed Nov 11 2026. No macro, syntax, notation, axiom, sorry.
-/
import Derived.Test.YtndpoijmkdephaaDoorRows
import GoSem.ClaimSeven
namespace Go.Proofs.YtndpoijmkdephaaDoor
namespace Rows

/-- THE TIED CARD OF 'analemmalaw07.NameStrings'. -/
def nameStringsCard : Claim7 := { stood := { row := nameStringsRow, standIns := [], harness := (true, "202ee4250d81b4a0533c8fa98be4cda889a09a8571e914097f515713ce1e73dd"), looks := false }, kinds := [], alts := [], laidByText := true, laidKinds := [.data], laidTests := true, laidLooks := .later }
def NameStringsCardSaid : Prop := Claim7.holds Tryd.pinned (.plain (OpenSpec.ofChange nameStringsSpec)) nameStringsCard

/-- THE TIED CARD OF 'analemmalaw07.NameParts'. -/
def namePartsCard : Claim7 := { stood := { row := namePartsRow, standIns := [], harness := (true, "202ee4250d81b4a0533c8fa98be4cda889a09a8571e914097f515713ce1e73dd"), looks := false }, kinds := [], alts := [], laidByText := true, laidKinds := [.data, .data, .pinned], laidTests := true, laidLooks := .later }
def NamePartsCardSaid : Prop := Claim7.holds Tryd.pinned (.plain (OpenSpec.ofChange namePartsSpec)) namePartsCard

/-- THE TIED CARD OF 'analemmalaw07.NameBytes'. -/
def nameBytesCard : Claim7 := { stood := { row := nameBytesRow, standIns := [], harness := (true, "202ee4250d81b4a0533c8fa98be4cda889a09a8571e914097f515713ce1e73dd"), looks := false }, kinds := [], alts := [], laidByText := true, laidKinds := [.data], laidTests := true, laidLooks := .later }
def NameBytesCardSaid : Prop := Claim7.holds Tryd.pinned (.plain (OpenSpec.ofChange nameBytesSpec)) nameBytesCard

/-- THE TIED CARD OF 'analemmalaw07.NameAmong'. -/
def nameAmongCard : Claim7 := { stood := { row := nameAmongRow, standIns := [], harness := (true, "202ee4250d81b4a0533c8fa98be4cda889a09a8571e914097f515713ce1e73dd"), looks := false }, kinds := [], alts := [], laidByText := true, laidKinds := [.data], laidTests := true, laidLooks := .later }
def NameAmongCardSaid : Prop := Claim7.holds Tryd.pinned (.plain (OpenSpec.ofChange nameAmongSpec)) nameAmongCard

/-- THE SECOND FORM's CARD OF 'analemmalaw07.NameStrings'. -/
def nameStringsUptoCard : Claim7 := { stood := { row := nameStringsUptoRow, standIns := [], harness := (true, "202ee4250d81b4a0533c8fa98be4cda889a09a8571e914097f515713ce1e73dd"), looks := false }, kinds := [], alts := [], laidByText := true, laidKinds := [.data], laidTests := true, laidLooks := .later }
def NameStringsUptoCardSaid : Prop := Claim7.holds Tryd.pinned (.plain (OpenSpec.upto nameStringsSpec)) nameStringsUptoCard

/-- THE SECOND FORM's CARD OF 'analemmalaw07.NameParts'. -/
def namePartsUptoCard : Claim7 := { stood := { row := namePartsUptoRow, standIns := [], harness := (true, "202ee4250d81b4a0533c8fa98be4cda889a09a8571e914097f515713ce1e73dd"), looks := false }, kinds := [], alts := [], laidByText := true, laidKinds := [.data, .data, .pinned], laidTests := true, laidLooks := .later }
def NamePartsUptoCardSaid : Prop := Claim7.holds Tryd.pinned (.plain (OpenSpec.upto namePartsSpec)) namePartsUptoCard

/-- THE SECOND FORM's CARD OF 'analemmalaw07.NameBytes'. -/
def nameBytesUptoCard : Claim7 := { stood := { row := nameBytesUptoRow, standIns := [], harness := (true, "202ee4250d81b4a0533c8fa98be4cda889a09a8571e914097f515713ce1e73dd"), looks := false }, kinds := [], alts := [], laidByText := true, laidKinds := [.data], laidTests := true, laidLooks := .later }
def NameBytesUptoCardSaid : Prop := Claim7.holds Tryd.pinned (.plain (OpenSpec.upto nameBytesSpec)) nameBytesUptoCard

/-- THE SECOND FORM's CARD OF 'analemmalaw07.NameAmong'. -/
def nameAmongUptoCard : Claim7 := { stood := { row := nameAmongUptoRow, standIns := [], harness := (true, "202ee4250d81b4a0533c8fa98be4cda889a09a8571e914097f515713ce1e73dd"), looks := false }, kinds := [], alts := [], laidByText := true, laidKinds := [.data], laidTests := true, laidLooks := .later }
def NameAmongUptoCardSaid : Prop := Claim7.holds Tryd.pinned (.plain (OpenSpec.upto nameAmongSpec)) nameAmongUptoCard
end Rows
end Go.Proofs.YtndpoijmkdephaaDoor
