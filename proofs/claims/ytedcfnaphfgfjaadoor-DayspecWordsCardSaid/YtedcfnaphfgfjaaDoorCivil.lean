/- The contracts of package civil: each function returns what the calendar of XCal says. -/
import Derived.Test.YtedcfnaphfgfjaaDoorKit
import Derived.Test.YtedcfnaphfgfjaaDoorCal
namespace Go.Proofs.YtedcfnaphfgfjaaDoor
open Go.RowKit

/-- the table of the days in front of each month lies in block 0 -/
def TabW (w : World) : Prop := ∀ i : Nat, i < 13 → w.cell? ⟨0, i, none⟩ = some (.int .i64 (Cal.tab i))
theorem TabW.dw {w w' : World} (h : TabW w) (k : Dw w w') : TabW w' := by
  intro i hi; rw [k.cell]; exact h i hi
theorem TabW.drewN {w : World} (h : TabW w) (n : Nat) : TabW (w.drewN n) := h.dw ⟨n, rfl⟩

theorem tm0b (y k : Int) : (y.tmod k == 0) = decide (y % k = 0) := by
  rw [Bool.eq_iff_iff]; simp [tm0]
theorem weekday_any (n : Int) (w : World) : Calls Tryd.prog 86 #[.int .i64 n] w fun e w' => e = .returned (.int .i64 (Cal.wd n)) ∧ w = w' := by
  have h1 : -6 ≤ n.tmod 7 ∧ n.tmod 7 ≤ 6 := by rw [Cal.tm_eq n 7 (by omega)]; split <;> omega
  have h2 : n.tmod 7 = if 0 ≤ n ∨ n % 7 = 0 then n % 7 else n % 7 - 7 := Cal.tm_eq n 7 (by omega)
  have H2 := Lib.hid h2
  clear h2
  go_enter Tryd.func86, Tryd.ntmps86
  go_wp2
  go_ret
  refine ⟨ret_int ?_, rfl⟩
  have h2 := H2.out
  unfold Cal.wd
  split at h2 <;> omega
end Go.Proofs.YtedcfnaphfgfjaaDoor
