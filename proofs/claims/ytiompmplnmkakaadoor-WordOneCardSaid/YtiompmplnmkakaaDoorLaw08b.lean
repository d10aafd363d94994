/- The walk of WordNumbers. -/
import Derived.Test.YtiompmplnmkakaaDoorLaw08
namespace Go.Proofs.YtiompmplnmkakaaDoor
open Go.RowKit
theorem txt_out (L : List ByteArray) (n : Int) (h : n < 0 ∨ 13 ≤ n) : txt L n = ⟨#[]⟩ := by
  unfold txt
  rw [if_neg (by omega)]
theorem txt_weeks (n : Int) (h : 7 ≤ n) : txt weeksL n = ⟨#[]⟩ := by
  by_cases h1 : n < 13
  · have : n = 7 ∨ n = 8 ∨ n = 9 ∨ n = 10 ∨ n = 11 ∨ n = 12 := by omega
    rcases this with rfl | rfl | rfl | rfl | rfl | rfl <;> decide +kernel
  · exact txt_out _ _ (by omega)
theorem txt_zero : txt monthsL 0 = ⟨#[]⟩ := by decide +kernel
set_option maxRecDepth 100000 in
set_option maxHeartbeats 4000000 in
/-- numbers that no month and no weekday have, have no words -/
theorem numbers_walk (a : Int) (wf : (Lit.int .u32 a).wf = true) (W0 : World) (hT : TabW W0) : Calls Tryd.prog 9 #[.int .u32 a] W0 fun e w' => e = .returned (.bool true) ∧ Below W0.heap.size W0 w' := by
  have HC := Lib.hid (Wo.mk0 hT)
  have hb : 0 ≤ a ∧ a ≤ 4294967295 := bounds_u32 wf
  have hE : (⟨#[]⟩ : ByteArray).toList.isEmpty = true := by rw [isEmpty_of]; rfl
  clear hT wf
  obtain ⟨h0, h1⟩ := hb
  have t1 : txt monthsL (-a) = ⟨#[]⟩ := by
    by_cases e : a = 0
    · subst e; exact txt_zero
    · exact txt_out _ _ (by omega)
  have t2 := txt_out monthsL (13 + a) (by omega)
  have t3 := txt_out weeksL (-1 - a) (by omega)
  have t4 := txt_weeks (7 + a) (by omega)
  have T1 := Lib.hid t1
  have T2 := Lib.hid t2
  have T3 := Lib.hid t3
  have T4 := Lib.hid t4
  clear t1 t2 t3 t4
  go_enter Tryd.func9, Tryd.ntmps9
  go_wp2_with fail
  refine (wMonthText_s _ _ T1 HC).mono ?_; rintro e w1 ⟨rfl, _, HC⟩
  go_wp2_with fail
  refine (wMonthText_s _ _ T2 HC).mono ?_; rintro e w2 ⟨rfl, _, HC⟩
  go_wp2_with fail
  refine (wWeekText_s _ _ T3 HC).mono ?_; rintro e w3 ⟨rfl, _, HC⟩
  go_wp2_with fail
  refine (wWeekText_s _ _ T4 HC).mono ?_; rintro e w4 ⟨rfl, _, HC⟩
  go_wp2_with fail
  refine (works8_s HC).mono ?_; rintro e w5 ⟨rfl, HC⟩
  go_wp2
  go_ret
  exact ⟨rfl, HC.out.1⟩
end Go.Proofs.YtiompmplnmkakaaDoor
