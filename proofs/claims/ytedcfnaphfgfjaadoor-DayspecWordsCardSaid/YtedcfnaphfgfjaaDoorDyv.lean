/- The state of the walks of layer 9, of what the frames give. -/
import Derived.Test.YtedcfnaphfgfjaaDoorDyc
namespace Go.Proofs.YtedcfnaphfgfjaaDoor
open Go.RowKit Go.Shelf
/-- what the listed variables give -/
structure TabY0 (w : World) : Prop where
  weeks : Cs w 1 (strV weeksL)
  ops : Cs w 0 opsV
  fold : FoldW w
def MaxY (w : World) : Prop := ∃ m, w.cell? ⟨5, 0, none⟩ = some (.int .i64 m)
theorem TabY.of {w : World} (h : TabY0 w ∧ MaxY w) : TabY w := ⟨h.1.weeks, h.1.ops, h.1.fold, h.2⟩
end Go.Proofs.YtedcfnaphfgfjaaDoor
