/- The examples of the chapter hold: the function works of the statements about layer 1 returns true. -/
import Derived.Test.YtllnimenbopcjaaDoorCivil
namespace Go.Proofs.YtllnimenbopcjaaDoor
open Go.RowKit

/-- the world of a walk: behind draws, and the table lies there -/
def St (w0 w : World) : Prop := Dw w0 w ∧ TabW w
theorem St.mk0 {w : World} (h : TabW w) : St w w := ⟨Dw.refl w, h⟩
theorem St.go {w0 w w1 : World} (h : St w0 w) (k : Dw w w1) : St w0 w1 := ⟨h.1.trans k, h.2.dw k⟩
theorem St.hid {w0 w w1 : World} (h : Hid (St w0 w)) (k : Dw w w1) : Hid (St w0 w1) := Lib.hid (h.out.go k)

theorem leap_at (y : Int) (b : Bool) (hb : Cal.leapB y = b) (w : World) : Calls Tryd.prog 13 #[.int .i64 y] w fun e w' => e = .returned (.bool b) ∧ w = w' := hb ▸ leap_any y w
theorem len_at (y m r : Int) (hr : Cal.len y m = r) {w0 w : World} (h : Hid (St w0 w)) : Calls Tryd.prog 15 #[.int .i64 y, .int .i64 m] w fun e w' => e = .returned (.int .i64 r) ∧ Dw w w' := hr ▸ len_any y m w h.out.2
theorem days_at (y m d n : Int) (ho : Cal.okB y m d = true) (hn : Cal.day y m d = n) {w0 w : World} (h : Hid (St w0 w)) : Calls Tryd.prog 11 #[.int .i64 y, .int .i64 m, .int .i64 d] w fun e w' => e = .returned (.tuple #[.int .i64 n, .int .i64 0]) ∧ Dw w w' := hn ▸ days_yes y m d w h.out.2 ho
theorem days_at_no (y m d : Int) (ho : Cal.okB y m d = false) {w0 w : World} (h : Hid (St w0 w)) : Calls Tryd.prog 11 #[.int .i64 y, .int .i64 m, .int .i64 d] w fun e w' => e = .returned (.tuple #[.int .i64 0, .int .i64 3]) ∧ Dw w w' := days_no y m d w h.out.2 ho
theorem date_at (n y m d : Int) (hn : -730485719528 ≤ n ∧ n ≤ 730484280837) (hy : Cal.dY n = y) (hm : Cal.dM n = m) (hd : Cal.dD n = d) (w : World) : Calls Tryd.prog 18 #[.int .i64 n] w fun e w' => e = .returned (.tuple #[.int .i64 y, .int .i64 m, .int .i64 d, .int .i64 0]) ∧ w = w' := by
  subst hy hm hd; exact date_yes n w hn
theorem wd_at (n r : Int) (hr : Cal.wd n = r) (w : World) : Calls Tryd.prog 20 #[.int .i64 n] w fun e w' => e = .returned (.int .i64 r) ∧ w = w' := hr ▸ weekday_any n w
theorem year_at (n r : Int) (hn : -9223372036854775808 ≤ n ∧ n ≤ 9223372036854775807) (hr : Cal.yr n = r) (w : World) : Calls Tryd.prog 22 #[.int .i64 n] w fun e w' => e = .returned (.int .i64 r) ∧ w = w' := hr ▸ year_any n w hn

set_option maxRecDepth 100000 in
set_option maxHeartbeats 1000000 in
theorem works_any (w : World) (ht : TabW w) : Calls Tryd.prog 17 #[] w fun e w' => e = .returned (.bool true) ∧ Dw w w' := by
  have HC := Lib.hid (St.mk0 ht)
  clear ht
  go_enter Tryd.func17, Tryd.ntmps17
  go_wp2_with fail
  refine (days_at 2000 3 1 11017 (by decide) (by decide) HC).mono ?_; rintro e w1 ⟨rfl, hd⟩; replace HC := St.hid HC hd; clear hd
  go_wp2_with fail
  refine (days_at 0 1 1 (-719528) (by decide) (by decide) HC).mono ?_; rintro e w1 ⟨rfl, hd⟩; replace HC := St.hid HC hd; clear hd
  go_wp2_with fail
  refine (days_at_no 2023 2 29 (by decide) HC).mono ?_; rintro e w1 ⟨rfl, hd⟩; replace HC := St.hid HC hd; clear hd
  go_wp2_with fail
  refine (days_at_no 2000000001 1 1 (by decide) HC).mono ?_; rintro e w1 ⟨rfl, hd⟩; replace HC := St.hid HC hd; clear hd
  go_wp2_with fail
  refine (date_at 19782 2024 2 29 (by decide) (by decide) (by decide) (by decide) _).mono ?_; rintro e w1 ⟨rfl, rfl⟩
  go_wp2_with fail
  refine (leap_at 1900 false (by decide) _).mono ?_; rintro e w1 ⟨rfl, rfl⟩
  go_wp2_with fail
  refine (leap_at 2000 true (by decide) _).mono ?_; rintro e w1 ⟨rfl, rfl⟩
  go_wp2_with fail
  refine (leap_at (-4) true (by decide) _).mono ?_; rintro e w1 ⟨rfl, rfl⟩
  go_wp2_with fail
  refine (leap_at (-100) false (by decide) _).mono ?_; rintro e w1 ⟨rfl, rfl⟩
  go_wp2_with fail
  refine (len_at 2023 2 28 (by decide) HC).mono ?_; rintro e w1 ⟨rfl, hd⟩; replace HC := St.hid HC hd; clear hd
  go_wp2_with fail
  refine (len_at 2024 2 29 (by decide) HC).mono ?_; rintro e w1 ⟨rfl, hd⟩; replace HC := St.hid HC hd; clear hd
  go_wp2_with fail
  refine (len_at 2024 13 0 (by decide) HC).mono ?_; rintro e w1 ⟨rfl, hd⟩; replace HC := St.hid HC hd; clear hd
  go_wp2_with fail
  refine (wd_at 0 4 (by decide) _).mono ?_; rintro e w1 ⟨rfl, rfl⟩
  go_wp2_with fail
  refine (wd_at 3 0 (by decide) _).mono ?_; rintro e w1 ⟨rfl, rfl⟩
  go_wp2_with fail
  refine (wd_at (-5) 6 (by decide) _).mono ?_; rintro e w1 ⟨rfl, rfl⟩
  go_wp2_with fail
  refine (year_at 0 1970 (by decide) (by decide) _).mono ?_; rintro e w1 ⟨rfl, rfl⟩
  go_wp2_with fail
  refine (year_at (-1) 1969 (by decide) (by decide) _).mono ?_; rintro e w1 ⟨rfl, rfl⟩
  go_wp2_with fail
  refine (year_at 9223372036854775807 2000000000 (by decide) (by decide) _).mono ?_; rintro e w1 ⟨rfl, rfl⟩
  go_wp2
  go_ret
  exact ⟨rfl, HC.out.1⟩
end Go.Proofs.YtllnimenbopcjaaDoor
