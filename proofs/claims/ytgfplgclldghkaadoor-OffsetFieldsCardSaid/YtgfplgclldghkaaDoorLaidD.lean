/- What the condition on the listed variables gives the walks of layer 4: the tables lie in their blocks. -/
import Derived.Test.YtgfplgclldghkaaDoorOpr
import Derived.ProofKit
import Derived.LaidMore
import Derived.Lib.LaidTab
import Derived.Stop.Joined
import Derived.Stop.LaidErr
namespace Go.Proofs.YtgfplgclldghkaaDoor
open Go.ChangeShapes Go.WideShapes Go.ChangeAt Go.RowKit

def laidL : List (String × DataW Unit) := [("math/bits.deBruijn32tab", Rows.laid_math_bits_deBruijn32tab), ("math/bits.deBruijn64tab", Rows.laid_math_bits_deBruijn64tab), ("internal/strconv.uint64pow10", Rows.laid_internal_strconv_uint64pow10), ("analemma/offset.counts", Rows.laid_analemma_offset_counts)]
theorem own : ownKnob Tryd.prog.godebug = none := by kernel_rfl
theorem laidOut : laidOutB Tryd.prog = true := by kernel_rfl
theorem gPow : Tryd.prog.globalNamed "internal/strconv.uint64pow10" = some 2 := by kernel_rfl
theorem gPowT : (Tryd.prog.globals[2]?).map (·.type) = some 76 := by kernel_rfl
theorem gCts : Tryd.prog.globalNamed "analemma/offset.counts" = some 0 := by kernel_rfl
theorem gCtsT : (Tryd.prog.globals[0]?).map (·.type) = some 50 := by kernel_rfl
theorem cU64 : Tryd.prog.cellsOf 70 = 1 := by kernel_rfl
theorem cI64 : Tryd.prog.cellsOf 2 = 1 := by kernel_rfl
theorem c20 : Tryd.prog.cellsOf 76 = 20 := by kernel_rfl
theorem c3 : Tryd.prog.cellsOf 50 = 3 := by kernel_rfl
theorem door_met (os : Os) (args : Array Value) : laidMetH Tryd.prog laidL ((World.doorLaid Tryd.prog 400 os).forCall (fun _ _ => 0) ⟨#[], args, []⟩).memory :=
  laidMetH_of_parts3 (fuel := 8) (laidMet_of_run' 8 (by kernel_rfl) (by kernel_rfl)) (by kernel_rfl) (by kernel_rfl)
theorem laid_facts {W : World} (h : laidMetH Tryd.prog laidL W) : CtsW W ∧ PowW W := by
  rw [MakeChecks.laidMetH_plain _ _ _ (by kernel_rfl)] at h
  have h3 := h.tail.tail
  have hP := Lib.tabIs_of_head (k := .u64) (zs := Lib.pow10Tab) gPow gPowT Tryd.underlying76 Tryd.underlying70 cU64 c20 h3
  have hC := Lib.tabIs_of_head (k := .i64) (zs := [3600, 60, 1]) gCts gCtsT Tryd.underlying50 Tryd.underlying2 cI64 c3 h3.tail
  refine ⟨fun i hi => ?_, hP⟩
  exact hC.cell gCts i (by simpa using hi)
end Go.Proofs.YtgfplgclldghkaaDoor
