/- What the condition on the listed variable gives the walks: the table of civil lies in its block. -/
import Derived.Test.YtdlclpkhjblgjaaDoorCivil
import Derived.ProofKit
import Derived.LaidMore
import Derived.Lib.LaidTab
import Derived.Stop.Joined
namespace Go.Proofs.YtdlclpkhjblgjaaDoor
open Go.ChangeShapes Go.WideShapes Go.ChangeAt Go.RowKit

def laidL : List (String × DataW Unit) := [("analemma/civil.daysBefore", Rows.laid_analemma_civil_daysBefore)]
theorem own : ownKnob Tryd.prog.godebug = none := by kernel_rfl
theorem laidOut : laidOutB Tryd.prog = true := by kernel_rfl
theorem gDays : Tryd.prog.globalNamed "analemma/civil.daysBefore" = some 0 := by kernel_rfl
theorem gDaysT : (Tryd.prog.globals[0]?).map (·.type) = some 57 := by kernel_rfl
theorem cInt : Tryd.prog.cellsOf 3 = 1 := by kernel_rfl
theorem c13 : Tryd.prog.cellsOf 57 = 13 := by kernel_rfl
theorem door_met (os : Os) (args : Array Value) : laidMetH Tryd.prog laidL ((World.doorLaid Tryd.prog 400 os).forCall (fun _ _ => 0) ⟨#[], args, []⟩).memory :=
  laidMetH_of_parts3 (fuel := 8) (laidMet_of_run' 8 (by kernel_rfl) (by kernel_rfl)) (by kernel_rfl) (by kernel_rfl)
theorem laid_facts {W : World} (h : laidMetH Tryd.prog laidL W) : TabW W := by
  rw [MakeChecks.laidMetH_plain _ _ _ (by kernel_rfl)] at h
  have hT := Lib.tabIs_of_head (k := .i64) (zs := [0, 31, 59, 90, 120, 151, 181, 212, 243, 273, 304, 334, 365]) gDays gDaysT Tryd.underlying57 Tryd.underlying3 cInt c13 h
  intro i hi
  exact hT.cell gDays i (by simpa using hi)
end Go.Proofs.YtdlclpkhjblgjaaDoor
