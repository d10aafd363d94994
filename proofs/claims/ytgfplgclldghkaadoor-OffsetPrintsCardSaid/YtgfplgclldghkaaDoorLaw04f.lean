/- The walk of OffsetPrints. -/
import Derived.Test.YtgfplgclldghkaaDoorLaw04b
import Derived.Test.YtgfplgclldghkaaDoorRef04
namespace Go.Proofs.YtgfplgclldghkaaDoor
open Go.RowKit
theorem oprints_core (x : Int) (hx : Hid (-9223372036854775808 ≤ x ∧ x ≤ 9223372036854775807)) (S : ByteArray) (c : Int) (hS : Hid (prs x = (S, c))) (W0 : World) (hT : CtsW W0 ∧ PowW W0) : Calls Tryd.prog 4 #[.int .i64 x] W0 fun e w' => e = .returned (.bool true) ∧ Below W0.heap.size W0 w' := by
  have HC := Lib.hid (Ps.mk0 hT.1 hT.2)
  clear hT
  go_enter Tryd.func4, Tryd.ntmps4
  go_wp2_with fail
  refine (print_s _ S c hx hS HC).mono ?_; rintro e w1 ⟨rfl, HC⟩
  go_wp2_with fail
  refine (rprint_at x hx.out S c hS.out _).mono ?_; rintro e w2 ⟨rfl, rfl⟩
  go_wp2_with fail
  refine (works_s HC).mono ?_; rintro e w1 ⟨rfl, HC⟩
  go_wp2
  go_ret
  exact ⟨rfl, HC.out.1⟩
theorem oprints_walk (x : Int) (hx : (Lit.int .i64 x).wf = true) (W0 : World) (hT : CtsW W0 ∧ PowW W0) : Calls Tryd.prog 4 #[.int .i64 x] W0 fun e w' => e = .returned (.bool true) ∧ Below W0.heap.size W0 w' :=
  oprints_core x (Lib.hid (bounds_i64 hx)) _ _ (Lib.hid rfl) W0 hT
end Go.Proofs.YtgfplgclldghkaaDoor
