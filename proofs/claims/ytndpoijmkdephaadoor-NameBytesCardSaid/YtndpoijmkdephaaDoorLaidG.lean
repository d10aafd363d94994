/- What the condition on the listed variable gives the walks of layer 7: the table of the kinds of bytes lies in its block. -/
import Derived.Test.YtndpoijmkdephaaDoorNa
import Derived.ProofKit
import Derived.LaidMore
import Derived.Lib.LaidTab
import Derived.Stop.Joined
import Derived.Stop.LaidErr
namespace Go.Proofs.YtndpoijmkdephaaDoor
open Go.ChangeShapes Go.WideShapes Go.ChangeAt Go.RowKit

def laidL : List (String × DataW Unit) := [("analemma/name.kinds", Rows.laid_analemma_name_kinds)]
theorem own : ownKnob Tryd.prog.godebug = none := by kernel_rfl
theorem laidOut : laidOutB Tryd.prog = true := by kernel_rfl
theorem gKd : Tryd.prog.globalNamed "analemma/name.kinds" = some 0 := by kernel_rfl
theorem gKdT : (Tryd.prog.globals[0]?).map (·.type) = some 67 := by kernel_rfl
theorem cU8 : Tryd.prog.cellsOf 5 = 1 := by kernel_rfl
theorem c128 : Tryd.prog.cellsOf 67 = 128 := by kernel_rfl
theorem door_met (os : Os) (args : Array Value) : laidMetH Tryd.prog laidL ((World.doorLaid Tryd.prog 400 os).forCall (fun _ _ => 0) ⟨#[], args, []⟩).memory :=
  laidMetH_of_parts3 (fuel := 8) (laidMet_of_run' 8 (by kernel_rfl) (by kernel_rfl)) (by kernel_rfl) (by kernel_rfl)
theorem kd_tab : ∀ j, j < 128 → ((List.range 128).map fun j => (Nm.kd j : Int)).getD j 0 = (Nm.kd j : Int) := by decide +kernel
theorem laid_facts {W : World} (h : laidMetH Tryd.prog laidL W) : KdW W := by
  rw [MakeChecks.laidMetH_plain _ _ _ (by kernel_rfl)] at h
  have hP := Lib.tabIs_of_head (k := .u8) (zs := (List.range 128).map fun j => (Nm.kd j : Int)) gKd gKdT Tryd.underlying67 Tryd.underlying5 cU8 c128 h
  intro j hj
  rw [hP.cell gKd j (by simpa using hj), kd_tab j hj]
end Go.Proofs.YtndpoijmkdephaaDoor
