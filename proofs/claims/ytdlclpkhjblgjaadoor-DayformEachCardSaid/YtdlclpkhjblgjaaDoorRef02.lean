/- The contracts of the document's own answers for layer 2: each returns what XDfm says. -/
import Derived.Test.YtdlclpkhjblgjaaDoorDfal
import Derived.Test.YtdlclpkhjblgjaaDoorRef01
import Derived.LoopTactic
namespace Go.Proofs.YtdlclpkhjblgjaaDoor
open Go.RowKit

/-- whether a number is between two others -/
def inB (n a b : Int) : Bool := decide (a ≤ n) && decide (n ≤ b)
theorem rin2_any (n a b : Int) (w : World) : Calls Tryd.prog 27 #[.int .i64 n, .int .i64 a, .int .i64 b] w fun e w' => e = .returned (.bool (inB n a b)) ∧ w = w' := by
  by_cases h : a ≤ n
  all_goals
    go_enter Tryd.func27, Tryd.ntmps27
    go_wp2
    go_ret
    exact ⟨ret_bool (by simp [inB, h]; try omega), rfl⟩
theorem rin2_at (n a b : Int) (r : Bool) (hr : inB n a b = r) (w : World) : Calls Tryd.prog 27 #[.int .i64 n, .int .i64 a, .int .i64 b] w fun e w' => e = .returned (.bool r) ∧ w = w' := hr ▸ rin2_any n a b w
theorem rleap2_any (y : Int) (w : World) : Calls Tryd.prog 32 #[.int .i64 y] w fun e w' => e = .returned (.bool (Cal.leapB y)) ∧ w = w' := by
  go_enter Tryd.func32, Tryd.ntmps32
  go_wp2
  all_goals (go_ret; refine ⟨ret_bool ?_, rfl⟩; simp only [Cal.leapB, tm0] at *; simp [*, tm0b])
set_option maxHeartbeats 1000000 in
theorem rcheck_at (k wk d r : Int) (hr : (if Dfm.okD k wk d = true then 0 else 2) = r) (w : World) : Calls Tryd.prog 12 #[.agg #[.int .i64 k, .int .i64 wk, .int .i64 d]] w fun e w' => e = .returned (.int .i64 r) ∧ Below w.heap.size w w' := by
  have HS := Lib.hid (Cs.new w [.int .i64 k, .int .i64 wk, .int .i64 d] 23)
  generalize hbw : inB wk 0 6 = bw at *
  generalize hbd : inB d 1 31 = bd at *
  have HW := Lib.hid hbw
  have HD := Lib.hid hbd
  have hf : r = if (k = 1 ∧ wk = 0 ∧ bd = true) ∨ (k = 2 ∧ bw = true ∧ d = 0) ∨ ((k = 3 ∨ k = 4) ∧ bw = true ∧ bd = true) then 0 else 2 := by
    subst hr hbw hbd
    congr 1
    rw [Dfm.okD_iff]
    simp only [inB, Bool.and_eq_true, decide_eq_true_eq, eq_iff_iff]
    by_cases h1 : k = 1
    · subst h1; simp [Dfm.KW, Dfm.KL, Dfm.KM]; omega
    · by_cases h2 : k = 2
      · subst h2; simp [Dfm.KW, Dfm.KL, Dfm.KM]; omega
      · simp [Dfm.KW, Dfm.KL, Dfm.KM, h1, h2]; omega
  have HF := Lib.hid hf
  clear hbw hbd hr hf
  cases bw <;> cases bd
  all_goals
    go_enter Tryd.func12, Tryd.ntmps12
    go_wp2
    go_quiet ((first | (go_at_call_of 27 (Value.int IntKind.i64 wk); exact dw_same (rin2_at _ _ _ _ HW.out _)) | (go_at_call_of 27 (Value.int IntKind.i64 d); exact dw_same (rin2_at _ _ _ _ HD.out _))))
    have p0 := HS.out.at 0 rfl
    go_wp2
    all_goals
      go_ret
      exact ⟨ret_int (by rw [HF.out]; first | rfl | simp_all), ((Below.refl _ _).alloc (Nat.le_refl _) _).trans (Dw.below' ⟨_, rfl⟩ _)⟩
theorem ron_range (y m k wk d : Int) (h : Cal.okB y m 1 = false) (w : World) : Calls Tryd.prog 10 #[.int .i64 y, .int .i64 m, .agg #[.int .i64 k, .int .i64 wk, .int .i64 d]] w fun e w' => e = .returned (.tuple #[.int .i64 0, .int .i64 3]) ∧ Below w.heap.size w w' := by
  have hc : inB m 1 12 = false ∨ (inB m 1 12 = true ∧ y < -2000000000) ∨ (inB m 1 12 = true ∧ decide (y < -2000000000) = false ∧ 2000000000 < y) := by
    have := Dfm.ok1 y m
    rw [h] at this
    simp [inB] at this ⊢; omega
  clear h
  rcases hc with h | ⟨h, h1⟩ | ⟨h, h1, h2⟩
  all_goals
    have H := Lib.hid h
    clear h
    go_enter Tryd.func10, Tryd.ntmps10
    go_wp2_with fail
    refine (rin2_at _ _ _ _ H.out _).mono ?_; rintro e w1 ⟨rfl, rfl⟩
    go_wp2
    go_ret2
    exact ⟨rfl, (Below.refl _ _).alloc (Nat.le_refl _) _⟩
theorem ron_arg (y m k wk d : Int) (h : Cal.okB y m 1 = true) (hok : Dfm.okD k wk d = false) (w : World) : Calls Tryd.prog 10 #[.int .i64 y, .int .i64 m, .agg #[.int .i64 k, .int .i64 wk, .int .i64 d]] w fun e w' => e = .returned (.tuple #[.int .i64 0, .int .i64 2]) ∧ Below w.heap.size w w' := by
  have hm := (Dfm.ok1 y m).1 h
  have H : Hid (inB m 1 12 = true) := Lib.hid (by simp [inB]; omega)
  have h1 : decide (y < -2000000000) = false := by simp; omega
  have h2 : decide (2000000000 < y) = false := by simp; omega
  have HK : Hid ((if Dfm.okD k wk d = true then (0 : Int) else 2) = 2) := Lib.hid (by rw [hok]; rfl)
  clear h hok hm
  go_enter Tryd.func10, Tryd.ntmps10
  go_wp2_with fail
  refine (rin2_at _ _ _ _ H.out _).mono ?_; rintro e w1 ⟨rfl, rfl⟩
  go_wp2_with fail
  refine (rcheck_at _ _ _ _ HK.out _).mono ?_; rintro e w1 ⟨rfl, hb⟩
  have HB := Lib.hid hb
  clear hb
  go_wp2
  go_ret2
  exact ⟨rfl, ((Below.refl _ _).alloc (Nat.le_refl _) _).trans (HB.out.mono (by simp))⟩
theorem ron_none (y m k wk d : Int) (h : Cal.okB y m 1 = true) (hok : Dfm.okD k wk d = true) (hl : Cal.len y m < d) (w : World) : Calls Tryd.prog 10 #[.int .i64 y, .int .i64 m, .agg #[.int .i64 k, .int .i64 wk, .int .i64 d]] w fun e w' => e = .returned (.tuple #[.int .i64 0, .int .i64 4]) ∧ Below w.heap.size w w' := by
  have hm := (Dfm.ok1 y m).1 h
  have H : Hid (inB m 1 12 = true) := Lib.hid (by simp [inB]; omega)
  have h1 : decide (y < -2000000000) = false := by simp; omega
  have h2 : decide (2000000000 < y) = false := by simp; omega
  have HK : Hid ((if Dfm.okD k wk d = true then (0 : Int) else 2) = 0) := Lib.hid (by rw [hok]; rfl)
  have HS := Lib.hid (Cs.new w [.int .i64 k, .int .i64 wk, .int .i64 d] 23)
  clear h hok hm
  generalize hq : Cal.len y m = q at *
  have HQ := Lib.hid hq
  clear hq
  go_enter Tryd.func10, Tryd.ntmps10
  go_wp2_with fail
  refine (rin2_at _ _ _ _ H.out _).mono ?_; rintro e w1 ⟨rfl, rfl⟩
  go_wp2_with fail
  refine (rcheck_at _ _ _ _ HK.out _).mono ?_; rintro e w1 ⟨rfl, hb⟩
  have HB := Lib.hid hb
  have hs := Cs.hbl HS hb
  have p2 := hs.out.at 2 rfl
  clear hb
  go_wp2
  go_quiet ((go_at_call 28; exact dw_same (HQ.out ▸ rlen_any _ _ _)))
  go_wp2
  go_ret2
  exact ⟨rfl, (((Below.refl _ _).alloc (Nat.le_refl _) _).trans (HB.out.mono (by simp))).trans (Dw.below' ⟨_, rfl⟩ _)⟩
end Go.Proofs.YtdlclpkhjblgjaaDoor
