/- The examples of the chapter hold: the function works of the statements about layer 2 returns true. Forms, drafts, years. -/
import Derived.Test.YtdlclpkhjblgjaaDoorDfal
namespace Go.Proofs.YtdlclpkhjblgjaaDoor
open Go.RowKit

theorem fixed_any (d : Int) (w : World) : Calls Tryd.prog 24 #[.int .i64 d] w fun e w' => e = .returned (.agg #[.int .i64 1, .int .i64 0, .int .i64 d]) ∧ w.alloc (.cells #[.int .i64 1, .int .i64 0, .int .i64 d] 23) = w' := by
  go_enter Tryd.func24, Tryd.ntmps24
  go_wp2
  exact bodyPost_ret (v := .agg #[.int .i64 1, .int .i64 0, .int .i64 d]) (by simp [results, Tryd.results24, go_sem]) rfl ⟨rfl, rfl⟩
theorem last_any (wk : Int) (w : World) : Calls Tryd.prog 22 #[.int .i64 wk] w fun e w' => e = .returned (.agg #[.int .i64 2, .int .i64 wk, .int .i64 0]) ∧ w.alloc (.cells #[.int .i64 2, .int .i64 wk, .int .i64 0] 23) = w' := by
  go_enter Tryd.func22, Tryd.ntmps22
  go_wp2
  exact bodyPost_ret (v := .agg #[.int .i64 2, .int .i64 wk, .int .i64 0]) (by simp [results, Tryd.results22, go_sem]) rfl ⟨rfl, rfl⟩
theorem from_any (wk d : Int) (w : World) : Calls Tryd.prog 21 #[.int .i64 wk, .int .i64 d] w fun e w' => e = .returned (.agg #[.int .i64 3, .int .i64 wk, .int .i64 d]) ∧ w.alloc (.cells #[.int .i64 3, .int .i64 wk, .int .i64 d] 23) = w' := by
  go_enter Tryd.func21, Tryd.ntmps21
  go_wp2
  exact bodyPost_ret (v := .agg #[.int .i64 3, .int .i64 wk, .int .i64 d]) (by simp [results, Tryd.results21, go_sem]) rfl ⟨rfl, rfl⟩
theorem to_any (wk d : Int) (w : World) : Calls Tryd.prog 23 #[.int .i64 wk, .int .i64 d] w fun e w' => e = .returned (.agg #[.int .i64 4, .int .i64 wk, .int .i64 d]) ∧ w.alloc (.cells #[.int .i64 4, .int .i64 wk, .int .i64 d] 23) = w' := by
  go_enter Tryd.func23, Tryd.ntmps23
  go_wp2
  exact bodyPost_ret (v := .agg #[.int .i64 4, .int .i64 wk, .int .i64 d]) (by simp [results, Tryd.results23, go_sem]) rfl ⟨rfl, rfl⟩
/-- means: the day that a form means is that of a date -/
theorem means_at (y m k wk d mo da x : Int) (hx : Dfm.va y m k wk d = x) (he : Dfm.er y m k wk d = 0) (ho : Cal.okB y mo da = true) (hn : Cal.day y mo da = x) {w0 w : World} (hg : Hid (Gs w0 w)) : Calls Tryd.prog 31 #[.int .i64 y, .int .i64 m, .agg #[.int .i64 k, .int .i64 wk, .int .i64 d], .int .i64 mo, .int .i64 da] w fun e w' => e = .returned (.bool true) ∧ Below w.heap.size w w' := by
  have HC := Lib.hid (Gs.mk0 hg.out.2)
  have H := Lib.hid (And.intro hx (And.intro he (And.intro ho hn)))
  clear hx he ho hn hg
  go_enter Tryd.func31, Tryd.ntmps31
  go_wp2_with fail
  refine (on_at _ _ _ _ _ _ _ H.out.1 H.out.2.1 (Gs.hal HC _)).mono ?_; rintro e w1 ⟨rfl, hb⟩; replace HC := Gs.hbl (Gs.hal HC _) hb; clear hb
  go_wp2_with fail
  refine (days_g _ _ _ _ H.out.2.2.1 H.out.2.2.2 HC).mono ?_; rintro e w2 ⟨rfl, hd⟩; replace HC := Gs.hdw HC hd; clear hd
  go_wp2
  go_ret
  exact ⟨rfl, HC.out.1⟩
/-- fails: On answers 0 and an error -/
theorem fails_at (y m k wk d q : Int) (hx : Dfm.va y m k wk d = 0) (he : Dfm.er y m k wk d = q) {w0 w : World} (hg : Hid (Gs w0 w)) : Calls Tryd.prog 25 #[.int .i64 y, .int .i64 m, .agg #[.int .i64 k, .int .i64 wk, .int .i64 d], .int .i64 q] w fun e w' => e = .returned (.bool true) ∧ Below w.heap.size w w' := by
  have HC := Lib.hid (Gs.mk0 hg.out.2)
  have H := Lib.hid (And.intro hx he)
  clear hx he hg
  go_enter Tryd.func25, Tryd.ntmps25
  go_wp2_with fail
  refine (on_at _ _ _ _ _ _ _ H.out.1 H.out.2 (Gs.hal HC _)).mono ?_; rintro e w1 ⟨rfl, hb⟩; replace HC := Gs.hbl (Gs.hal HC _) hb; clear hb
  go_wp2
  go_ret
  exact ⟨rfl, HC.out.1⟩
set_option maxRecDepth 100000 in
set_option maxHeartbeats 4000000 in
theorem works2_any {w0 w : World} (hg : Hid (Gs w0 w)) : Calls Tryd.prog 13 #[] w fun e w' => e = .returned (.bool true) ∧ Below w.heap.size w w' := by
  have HC := Lib.hid (Gs.mk0 hg.out.2)
  clear hg
  go_enter Tryd.func13, Tryd.ntmps13
  go_wp2_with fail
  refine (last_any 0 _).mono ?_; rintro e w1 ⟨rfl, hw⟩; replace HC := Gs.hale HC hw; clear hw
  go_wp2_with fail
  refine (means_at 2026 3 2 0 0 3 29 20541 (by decide) (by decide) (by decide) (by decide) HC).mono ?_; rintro e w1 ⟨rfl, hb⟩; replace HC := Gs.hbl HC hb; clear hb
  go_wp2_with fail
  refine (from_any 0 8 _).mono ?_; rintro e w1 ⟨rfl, hw⟩; replace HC := Gs.hale HC hw; clear hw
  go_wp2_with fail
  refine (means_at 2026 3 3 0 8 3 8 20520 (by decide) (by decide) (by decide) (by decide) HC).mono ?_; rintro e w1 ⟨rfl, hb⟩; replace HC := Gs.hbl HC hb; clear hb
  go_wp2_with fail
  refine (fixed_any 31 _).mono ?_; rintro e w1 ⟨rfl, hw⟩; replace HC := Gs.hale HC hw; clear hw
  go_wp2_with fail
  refine (means_at 2026 3 1 0 31 3 31 20543 (by decide) (by decide) (by decide) (by decide) HC).mono ?_; rintro e w1 ⟨rfl, hb⟩; replace HC := Gs.hbl HC hb; clear hb
  go_wp2_with fail
  refine (fixed_any 29 _).mono ?_; rintro e w1 ⟨rfl, hw⟩; replace HC := Gs.hale HC hw; clear hw
  go_wp2_with fail
  refine (fails_at 2026 2 1 0 29 4 (by decide) (by decide) HC).mono ?_; rintro e w1 ⟨rfl, hb⟩; replace HC := Gs.hbl HC hb; clear hb
  go_wp2_with fail
  refine (to_any 6 1 _).mono ?_; rintro e w1 ⟨rfl, hw⟩; replace HC := Gs.hale HC hw; clear hw
  go_wp2_with fail
  refine (means_at 2026 2 4 6 1 1 31 20484 (by decide) (by decide) (by decide) (by decide) HC).mono ?_; rintro e w1 ⟨rfl, hb⟩; replace HC := Gs.hbl HC hb; clear hb
  go_wp2_with fail
  refine (from_any 1 28 _).mono ?_; rintro e w1 ⟨rfl, hw⟩; replace HC := Gs.hale HC hw; clear hw
  go_wp2_with fail
  refine (means_at 2026 2 3 1 28 3 2 20514 (by decide) (by decide) (by decide) (by decide) HC).mono ?_; rintro e w1 ⟨rfl, hb⟩; replace HC := Gs.hbl HC hb; clear hb
  go_wp2_with fail
  refine (fixed_any 29 _).mono ?_; rintro e w1 ⟨rfl, hw⟩; replace HC := Gs.hale HC hw; clear hw
  go_wp2_with fail
  refine (means_at 2028 2 1 0 29 2 29 21243 (by decide) (by decide) (by decide) (by decide) HC).mono ?_; rintro e w1 ⟨rfl, hb⟩; replace HC := Gs.hbl HC hb; clear hb
  go_wp2_with fail
  refine (from_any 4 29 _).mono ?_; rintro e w1 ⟨rfl, hw⟩; replace HC := Gs.hale HC hw; clear hw
  go_wp2_with fail
  refine (means_at 2028 2 3 4 29 3 2 21245 (by decide) (by decide) (by decide) (by decide) HC).mono ?_; rintro e w1 ⟨rfl, hb⟩; replace HC := Gs.hbl HC hb; clear hb
  go_wp2_with fail
  refine (fixed_any 1 _).mono ?_; rintro e w1 ⟨rfl, hw⟩; replace HC := Gs.hale HC hw; clear hw
  go_wp2_with fail
  refine (fails_at 2026 13 1 0 1 3 (by decide) (by decide) HC).mono ?_; rintro e w1 ⟨rfl, hb⟩; replace HC := Gs.hbl HC hb; clear hb
  go_wp2_with fail
  refine (fails_at 2026 1 5 0 1 2 (by decide) (by decide) HC).mono ?_; rintro e w1 ⟨rfl, hb⟩; replace HC := Gs.hbl HC hb; clear hb
  go_wp2_with fail
  refine (fixed_any 29 _).mono ?_; rintro e w1 ⟨rfl, hw⟩; replace HC := Gs.hale HC hw; clear hw
  go_wp2_with fail
  refine (always_at 2000 1048576 2 1 0 29 false (by decide) HC).mono ?_; rintro e w1 ⟨rfl, hb⟩; replace HC := Gs.hbl HC hb; clear hb
  go_wp2_with fail
  refine (fixed_any 28 _).mono ?_; rintro e w1 ⟨rfl, hw⟩; replace HC := Gs.hale HC hw; clear hw
  go_wp2_with fail
  refine (always_at 2000 1048576 2 1 0 28 true (by decide) HC).mono ?_; rintro e w1 ⟨rfl, hb⟩; replace HC := Gs.hbl HC hb; clear hb
  go_wp2_with fail
  refine (last_any 1 _).mono ?_; rintro e w1 ⟨rfl, hw⟩; replace HC := Gs.hale HC hw; clear hw
  go_wp2_with fail
  refine (always_at 2000 1048576 2 2 1 0 true (by decide) HC).mono ?_; rintro e w1 ⟨rfl, hb⟩; replace HC := Gs.hbl HC hb; clear hb
  go_wp2_with fail
  refine (from_any 1 30 _).mono ?_; rintro e w1 ⟨rfl, hw⟩; replace HC := Gs.hale HC hw; clear hw
  go_wp2_with fail
  refine (always_at 2000 1048576 2 3 1 30 false (by decide) HC).mono ?_; rintro e w1 ⟨rfl, hb⟩; replace HC := Gs.hbl HC hb; clear hb
  go_wp2_with fail
  refine (fixed_any 29 _).mono ?_; rintro e w1 ⟨rfl, hw⟩; replace HC := Gs.hale HC hw; clear hw
  go_wp2_with fail
  refine (always_at 2000 2000 2 1 0 29 true (by decide) HC).mono ?_; rintro e w1 ⟨rfl, hb⟩; replace HC := Gs.hbl HC hb; clear hb
  go_wp2_with fail
  refine (fixed_any 29 _).mono ?_; rintro e w1 ⟨rfl, hw⟩; replace HC := Gs.hale HC hw; clear hw
  go_wp2_with fail
  refine (always_at 2001 2000 2 1 0 29 true (by decide) HC).mono ?_; rintro e w1 ⟨rfl, hb⟩; replace HC := Gs.hbl HC hb; clear hb
  go_wp2_with fail
  refine (check_at 0 0 0 2 (by decide) _).mono ?_; rintro e w1 ⟨rfl, hb⟩; replace HC := Gs.hbl HC hb; clear hb
  go_wp2
  go_ret
  exact ⟨rfl, HC.out.1⟩
end Go.Proofs.YtdlclpkhjblgjaaDoor
