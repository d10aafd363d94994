/- What the condition on the listed variables, and the world's shape, give the walk of NameParts. -/
import Derived.Test.YtndpoijmkdephaaDoorNa
import Derived.Test.YtndpoijmkdephaaDoorLxl
import Derived.ProofKit
import Derived.LaidMore
import Derived.Lay
import Derived.Lib.LaidTab
import Derived.Stop.Joined
import Derived.Stop.LaidErr
import Derived.Deep.DeepHandedRow
import Derived.Shelf.Vars
namespace Go.Proofs.YtndpoijmkdephaaDoor
open Go.ChangeShapes Go.WideShapes Go.ChangeAt Go.RowKit
def laidL : List (String × DataW Unit) := [("analemma/name.kinds", Rows.laid_analemma_name_kinds), ("unicode/utf8.acceptRanges", Rows.laid_unicode_utf8_acceptRanges), ("unicode/utf8.first", Rows.laid_unicode_utf8_first)]
theorem own : ownKnob Tryd.prog.godebug = none := by kernel_rfl
theorem laidOut : laidOutB Tryd.prog = true := by kernel_rfl
theorem gKd : Tryd.prog.globalNamed "analemma/name.kinds" = some 0 := by kernel_rfl
theorem gKdT : (Tryd.prog.globals[0]?).map (·.type) = some 67 := by kernel_rfl
theorem cU8 : Tryd.prog.cellsOf 5 = 1 := by kernel_rfl
theorem c128 : Tryd.prog.cellsOf 67 = 128 := by kernel_rfl
theorem all_met (os : Os) (args : Array Value) : laidMetH Tryd.prog laidL ((World.laidAll Tryd.prog os laidL).forCall (fun _ _ => 0) ⟨#[], args, []⟩).memory := by
  rw [MakeChecks.laidMetH_plain _ _ _ (by kernel_rfl)]; exact laidMet_laidAll _ (by kernel_rfl) (by kernel_rfl)
theorem max_of {W : World} (h : W.ShapedOpen Tryd.prog) : MaxW W :=
  cell_of_shapedOpen_int (g := 1) (t := 3) (zero := #[.int .i64 0]) h (of_decide_eq_true (by kernel_rfl)) (by kernel_rfl) rfl (by kernel_rfl) (by kernel_rfl) Tryd.underlying3
theorem kd_tab : ∀ j, j < 128 → ((List.range 128).map fun j => (Nm.kd j : Int)).getD j 0 = (Nm.kd j : Int) := by decide +kernel
theorem laid_facts {W : World} (h : laidMetH Tryd.prog laidL W) : KdW W := by
  rw [MakeChecks.laidMetH_plain _ _ _ (by kernel_rfl)] at h
  have hP := Lib.tabIs_of_head (k := .u8) (zs := (List.range 128).map fun j => (Nm.kd j : Int)) gKd gKdT Tryd.underlying67 Tryd.underlying5 cU8 c128 h
  intro j hj
  rw [hP.cell gKd j (by simpa using hj), kd_tab j hj]
end Go.Proofs.YtndpoijmkdephaaDoor
