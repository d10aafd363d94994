/- The walk of OffsetParses. -/
import Derived.Test.YtgfplgclldghkaaDoorLaw04b
import Derived.Test.YtgfplgclldghkaaDoorRef04d
namespace Go.Proofs.YtgfplgclldghkaaDoor
open Go.RowKit
theorem hdwN {W0 w : World} (HC : Hid (Ps W0 w)) (n : Nat) : Hid (Ps W0 (w.drewN n)) := Ps.hbl HC (Dw.below (w := w) (w' := w.drewN n) ⟨n, rfl⟩)
theorem oparses_walk (s : ByteArray) (hs : s.size ≤ maxLen) (W0 : World) (hT : CtsW W0 ∧ PowW W0) : Calls Tryd.prog 3 #[.string s] W0 fun e w' => e = .returned (.bool true) ∧ Below W0.heap.size W0 w' := by
  have HC := Lib.hid (Ps.mk0 hT.1 hT.2)
  clear hT
  by_cases h : s.size ≤ 1000
  · have HA := fun w (HC : Hid (Ps W0 w)) => parse_any s w hs HC.out.2.1
    have HB := fun w => rparse_any s h w
    generalize (Of.parse s.data.toList).1 = y at *
    generalize (Of.parse s.data.toList).2 = f at *
    have h2 : (s.size : Int) ≤ 1000 := by omega
    clear hs
    go_enter Tryd.func3, Tryd.ntmps3
    go_wp2_with fail
    refine (HA _ HC).mono ?_; rintro e w1 ⟨rfl, hb⟩; replace HC := Ps.hbl HC hb; clear hb
    go_wp2_with fail
    refine (HB _).mono ?_; rintro e w2 ⟨rfl, n, rfl⟩; replace HC := hdwN HC n
    go_wp2_with fail
    refine (works_s HC).mono ?_; rintro e w1 ⟨rfl, HC⟩
    go_wp2
    go_ret
    exact ⟨rfl, HC.out.1⟩
  · have h2 : ¬ (s.size : Int) ≤ 1000 := by omega
    go_enter Tryd.func3, Tryd.ntmps3
    go_wp2_with fail
    refine (works_s HC).mono ?_; rintro e w1 ⟨rfl, HC⟩
    go_wp2
    go_ret
    exact ⟨rfl, HC.out.1⟩
end Go.Proofs.YtgfplgclldghkaaDoor
