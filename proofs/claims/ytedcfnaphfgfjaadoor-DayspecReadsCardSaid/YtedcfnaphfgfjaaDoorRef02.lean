/- The contracts of the document's own answers for layer 2: each returns what XDfm says. -/
import Derived.Test.YtedcfnaphfgfjaaDoorDfal
import Derived.Test.YtedcfnaphfgfjaaDoorRef01
import Derived.LoopTactic
namespace Go.Proofs.YtedcfnaphfgfjaaDoor
open Go.RowKit

/-- whether a number is between two others -/
def inB (n a b : Int) : Bool := decide (a ≤ n) && decide (n ≤ b)
theorem rin2_any (n a b : Int) (w : World) : Calls Tryd.prog 47 #[.int .i64 n, .int .i64 a, .int .i64 b] w fun e w' => e = .returned (.bool (inB n a b)) ∧ w = w' := by
  by_cases h : a ≤ n
  all_goals
    go_enter Tryd.func47, Tryd.ntmps47
    go_wp2
    go_ret
    exact ⟨ret_bool (by simp [inB, h]; try omega), rfl⟩
theorem rin2_at (n a b : Int) (r : Bool) (hr : inB n a b = r) (w : World) : Calls Tryd.prog 47 #[.int .i64 n, .int .i64 a, .int .i64 b] w fun e w' => e = .returned (.bool r) ∧ w = w' := hr ▸ rin2_any n a b w
set_option maxHeartbeats 1000000 in
theorem rcheck_at (k wk d r : Int) (hr : (if Dfm.okD k wk d = true then 0 else 2) = r) (w : World) : Calls Tryd.prog 27 #[.agg #[.int .i64 k, .int .i64 wk, .int .i64 d]] w fun e w' => e = .returned (.int .i64 r) ∧ Below w.heap.size w w' := by
  have HS := Lib.hid (Cs.new w [.int .i64 k, .int .i64 wk, .int .i64 d] 23)
  generalize hbw : inB wk 0 6 = bw at *
  generalize hbd : inB d 1 31 = bd at *
  have HW := Lib.hid hbw
  have HD := Lib.hid hbd
  have hf : r = if (k = 1 ∧ wk = 0 ∧ bd = true) ∨ (k = 2 ∧ bw = true ∧ d = 0) ∨ ((k = 3 ∨ k = 4) ∧ bw = true ∧ bd = true) then 0 else 2 := by
    subst hr hbw hbd
    congr 1
    rw [Dfm.okD_iff]
    simp only [inB, Bool.and_eq_true, decide_eq_true_eq, eq_iff_iff]
    by_cases h1 : k = 1
    · subst h1; simp [Dfm.KW, Dfm.KL, Dfm.KM]; omega
    · by_cases h2 : k = 2
      · subst h2; simp [Dfm.KW, Dfm.KL, Dfm.KM]; omega
      · simp [Dfm.KW, Dfm.KL, Dfm.KM, h1, h2]; omega
  have HF := Lib.hid hf
  clear hbw hbd hr hf
  cases bw <;> cases bd
  all_goals
    go_enter Tryd.func27, Tryd.ntmps27
    go_wp2
    go_quiet ((first | (go_at_call_of 47 (Value.int IntKind.i64 wk); exact dw_same (rin2_at _ _ _ _ HW.out _)) | (go_at_call_of 47 (Value.int IntKind.i64 d); exact dw_same (rin2_at _ _ _ _ HD.out _))))
    have p0 := HS.out.at 0 rfl
    go_wp2
    all_goals
      go_ret
      exact ⟨ret_int (by rw [HF.out]; first | rfl | simp_all), ((Below.refl _ _).alloc (Nat.le_refl _) _).trans (Dw.below' ⟨_, rfl⟩ _)⟩
end Go.Proofs.YtedcfnaphfgfjaaDoor
