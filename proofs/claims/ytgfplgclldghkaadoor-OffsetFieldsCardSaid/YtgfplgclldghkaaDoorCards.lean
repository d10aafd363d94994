/-
  DERIVED. GIVEN WITH THE SEED: THE CARDS: each row of YtgfplgclldghkaaDoorRows.lean that lists a variable, with what it lists TIED to the program's text (the seventh form; the later family's looks); each row that meets fmt, with fmt's text TOLD by the authors' own Lean function (tested against real Go, not proved from fmt's source: count such statements apart). THE CARD IS WHAT COUNTS. Prove the row's statement (the work); the ties are given (YtgfplgclldghkaaDoorTie.lean); close each card by the builder's one call (the guide's Derived/Test/ToyasCard.lean, 'card_holds'). Laid BY PROGRAM, IN A SANDBOX (cutbox-door.mjs). By AI agents, Wed Nov 11 2026. No macro, syntax, notation, axiom, sorry.
-/
import Derived.Test.YtgfplgclldghkaaDoorRows
import GoSem.ClaimSeven
namespace Go.Proofs.YtgfplgclldghkaaDoor
namespace Rows

/-- THE TIED CARD OF 'analemmalaw04.OffsetParses'. -/
def offsetParsesCard : Claim7 := { stood := { row := offsetParsesRow, standIns := [], harness := (true, "2bdb2beccd40ce2badee86133b721f1e9dda721387f38a75a120a549b4e2bc37"), looks := false }, kinds := [], alts := [], laidByText := true, laidKinds := [.data, .data, .data, .data], laidTests := true, laidLooks := .later }
def OffsetParsesCardSaid : Prop := Claim7.holds Tryd.pinned (.plain (OpenSpec.ofChange offsetParsesSpec)) offsetParsesCard

/-- THE TIED CARD OF 'analemmalaw04.OffsetPrints'. -/
def offsetPrintsCard : Claim7 := { stood := { row := offsetPrintsRow, standIns := [], harness := (true, "2bdb2beccd40ce2badee86133b721f1e9dda721387f38a75a120a549b4e2bc37"), looks := false }, kinds := [], alts := [], laidByText := true, laidKinds := [.data, .data, .data, .data], laidTests := true, laidLooks := .later }
def OffsetPrintsCardSaid : Prop := Claim7.holds Tryd.pinned (.plain (OpenSpec.ofChange offsetPrintsSpec)) offsetPrintsCard

/-- THE TIED CARD OF 'analemmalaw04.OffsetBack'. -/
def offsetBackCard : Claim7 := { stood := { row := offsetBackRow, standIns := [], harness := (true, "2bdb2beccd40ce2badee86133b721f1e9dda721387f38a75a120a549b4e2bc37"), looks := false }, kinds := [], alts := [], laidByText := true, laidKinds := [.data, .data, .data, .data], laidTests := true, laidLooks := .later }
def OffsetBackCardSaid : Prop := Claim7.holds Tryd.pinned (.plain (OpenSpec.ofChange offsetBackSpec)) offsetBackCard

/-- THE TIED CARD OF 'analemmalaw04.OffsetFields'. -/
def offsetFieldsCard : Claim7 := { stood := { row := offsetFieldsRow, standIns := [], harness := (true, "2bdb2beccd40ce2badee86133b721f1e9dda721387f38a75a120a549b4e2bc37"), looks := false }, kinds := [], alts := [], laidByText := true, laidKinds := [.data, .data, .data, .data], laidTests := true, laidLooks := .later }
def OffsetFieldsCardSaid : Prop := Claim7.holds Tryd.pinned (.plain (OpenSpec.ofChange offsetFieldsSpec)) offsetFieldsCard

/-- THE TIED CARD OF 'analemmalaw04.OffsetOrder'. -/
def offsetOrderCard : Claim7 := { stood := { row := offsetOrderRow, standIns := [], harness := (true, "2bdb2beccd40ce2badee86133b721f1e9dda721387f38a75a120a549b4e2bc37"), looks := false }, kinds := [], alts := [], laidByText := true, laidKinds := [.data, .data, .data, .data], laidTests := true, laidLooks := .later }
def OffsetOrderCardSaid : Prop := Claim7.holds Tryd.pinned (.plain (OpenSpec.ofChange offsetOrderSpec)) offsetOrderCard

/-- THE TIED CARD OF 'analemmalaw04.OffsetSpoilt'. -/
def offsetSpoiltCard : Claim7 := { stood := { row := offsetSpoiltRow, standIns := [], harness := (true, "2bdb2beccd40ce2badee86133b721f1e9dda721387f38a75a120a549b4e2bc37"), looks := false }, kinds := [], alts := [], laidByText := true, laidKinds := [.data, .data, .data, .data], laidTests := true, laidLooks := .later }
def OffsetSpoiltCardSaid : Prop := Claim7.holds Tryd.pinned (.plain (OpenSpec.ofChange offsetSpoiltSpec)) offsetSpoiltCard

/-- THE TIED CARD OF 'analemmalaw04.OffsetRefuses'. -/
def offsetRefusesCard : Claim7 := { stood := { row := offsetRefusesRow, standIns := [], harness := (true, "2bdb2beccd40ce2badee86133b721f1e9dda721387f38a75a120a549b4e2bc37"), looks := false }, kinds := [], alts := [], laidByText := true, laidKinds := [.data, .data, .data, .data], laidTests := true, laidLooks := .later }
def OffsetRefusesCardSaid : Prop := Claim7.holds Tryd.pinned (.plain (OpenSpec.ofChange offsetRefusesSpec)) offsetRefusesCard

/-- THE SECOND FORM's CARD OF 'analemmalaw04.OffsetParses'. -/
def offsetParsesUptoCard : Claim7 := { stood := { row := offsetParsesUptoRow, standIns := [], harness := (true, "2bdb2beccd40ce2badee86133b721f1e9dda721387f38a75a120a549b4e2bc37"), looks := false }, kinds := [], alts := [], laidByText := true, laidKinds := [.data, .data, .data, .data], laidTests := true, laidLooks := .later }
def OffsetParsesUptoCardSaid : Prop := Claim7.holds Tryd.pinned (.plain (OpenSpec.upto offsetParsesSpec)) offsetParsesUptoCard

/-- THE SECOND FORM's CARD OF 'analemmalaw04.OffsetPrints'. -/
def offsetPrintsUptoCard : Claim7 := { stood := { row := offsetPrintsUptoRow, standIns := [], harness := (true, "2bdb2beccd40ce2badee86133b721f1e9dda721387f38a75a120a549b4e2bc37"), looks := false }, kinds := [], alts := [], laidByText := true, laidKinds := [.data, .data, .data, .data], laidTests := true, laidLooks := .later }
def OffsetPrintsUptoCardSaid : Prop := Claim7.holds Tryd.pinned (.plain (OpenSpec.upto offsetPrintsSpec)) offsetPrintsUptoCard

/-- THE SECOND FORM's CARD OF 'analemmalaw04.OffsetBack'. -/
def offsetBackUptoCard : Claim7 := { stood := { row := offsetBackUptoRow, standIns := [], harness := (true, "2bdb2beccd40ce2badee86133b721f1e9dda721387f38a75a120a549b4e2bc37"), looks := false }, kinds := [], alts := [], laidByText := true, laidKinds := [.data, .data, .data, .data], laidTests := true, laidLooks := .later }
def OffsetBackUptoCardSaid : Prop := Claim7.holds Tryd.pinned (.plain (OpenSpec.upto offsetBackSpec)) offsetBackUptoCard

/-- THE SECOND FORM's CARD OF 'analemmalaw04.OffsetFields'. -/
def offsetFieldsUptoCard : Claim7 := { stood := { row := offsetFieldsUptoRow, standIns := [], harness := (true, "2bdb2beccd40ce2badee86133b721f1e9dda721387f38a75a120a549b4e2bc37"), looks := false }, kinds := [], alts := [], laidByText := true, laidKinds := [.data, .data, .data, .data], laidTests := true, laidLooks := .later }
def OffsetFieldsUptoCardSaid : Prop := Claim7.holds Tryd.pinned (.plain (OpenSpec.upto offsetFieldsSpec)) offsetFieldsUptoCard

/-- THE SECOND FORM's CARD OF 'analemmalaw04.OffsetOrder'. -/
def offsetOrderUptoCard : Claim7 := { stood := { row := offsetOrderUptoRow, standIns := [], harness := (true, "2bdb2beccd40ce2badee86133b721f1e9dda721387f38a75a120a549b4e2bc37"), looks := false }, kinds := [], alts := [], laidByText := true, laidKinds := [.data, .data, .data, .data], laidTests := true, laidLooks := .later }
def OffsetOrderUptoCardSaid : Prop := Claim7.holds Tryd.pinned (.plain (OpenSpec.upto offsetOrderSpec)) offsetOrderUptoCard

/-- THE SECOND FORM's CARD OF 'analemmalaw04.OffsetSpoilt'. -/
def offsetSpoiltUptoCard : Claim7 := { stood := { row := offsetSpoiltUptoRow, standIns := [], harness := (true, "2bdb2beccd40ce2badee86133b721f1e9dda721387f38a75a120a549b4e2bc37"), looks := false }, kinds := [], alts := [], laidByText := true, laidKinds := [.data, .data, .data, .data], laidTests := true, laidLooks := .later }
def OffsetSpoiltUptoCardSaid : Prop := Claim7.holds Tryd.pinned (.plain (OpenSpec.upto offsetSpoiltSpec)) offsetSpoiltUptoCard

/-- THE SECOND FORM's CARD OF 'analemmalaw04.OffsetRefuses'. -/
def offsetRefusesUptoCard : Claim7 := { stood := { row := offsetRefusesUptoRow, standIns := [], harness := (true, "2bdb2beccd40ce2badee86133b721f1e9dda721387f38a75a120a549b4e2bc37"), looks := false }, kinds := [], alts := [], laidByText := true, laidKinds := [.data, .data, .data, .data], laidTests := true, laidLooks := .later }
def OffsetRefusesUptoCardSaid : Prop := Claim7.holds Tryd.pinned (.plain (OpenSpec.upto offsetRefusesSpec)) offsetRefusesUptoCard
end Rows
end Go.Proofs.YtgfplgclldghkaaDoor
