/- What a row's frame asks of the program where no variable is listed. -/
import Derived.Test.YtejdeaacpjgjiaaKit
import Derived.ProofKit
namespace Go.Proofs.Ytejdeaacpjgjiaa
open Go.ChangeShapes Go.WideShapes Go.ChangeAt Go.RowKit
theorem own : ownKnob Try.prog.godebug = none := by kernel_rfl
theorem laidOut : laidOutB Try.prog = true := by kernel_rfl
end Go.Proofs.Ytejdeaacpjgjiaa
