/- The walks of CivilDates and CivilDays: the program's answers are the document's. -/
import Derived.Test.YtllnimenbopcjaaDoorLawB
import Derived.Test.YtllnimenbopcjaaDoorRef01b
namespace Go.Proofs.YtllnimenbopcjaaDoor
open Go.RowKit

theorem rdays_at (y m d n : Int) (ho : Cal.okB y m d = true) (hn : Cal.day y m d = n) (w : World) : Calls Tryd.prog 12 #[.int .i64 y, .int .i64 m, .int .i64 d] w fun e w' => e = .returned (.tuple #[.int .i64 n, .int .i64 0]) ∧ w = w' := hn ▸ rdays_yes y m d w ho
theorem rlen_at (y m r : Int) (hr : Cal.len y m = r) (w : World) : Calls Tryd.prog 16 #[.int .i64 y, .int .i64 m] w fun e w' => e = .returned (.int .i64 r) ∧ w = w' := hr ▸ rlen_any y m w
theorem rdate_at (n y m d : Int) (hn : -730485719528 ≤ n ∧ n ≤ 730484280837) (hy : Cal.dY n = y) (hm : Cal.dM n = m) (hd : Cal.dD n = d) (w : World) : Calls Tryd.prog 19 #[.int .i64 n] w fun e w' => e = .returned (.tuple #[.int .i64 y, .int .i64 m, .int .i64 d, .int .i64 0]) ∧ w = w' := by
  subst hy hm hd; exact rdate_yes n w hn
theorem rwd_at (n r : Int) (hr : Cal.wd n = r) (w : World) : Calls Tryd.prog 21 #[.int .i64 n] w fun e w' => e = .returned (.int .i64 r) ∧ w = w' := hr ▸ rwd_any n w
theorem ryr_at (n r : Int) (hn : -9223372036854775808 ≤ n ∧ n ≤ 9223372036854775807) (hr : Cal.yr n = r) (w : World) : Calls Tryd.prog 23 #[.int .i64 n] w fun e w' => e = .returned (.int .i64 r) ∧ w = w' := hr ▸ ryr_any n w hn

theorem dates_core (y m d n l : Int) (b : Bool) (W : World) (hT : TabW W) (hl : Cal.len y m = l) (hb : Cal.leapB y = b) (hk : (Cal.okB y m d = true ∧ Cal.day y m d = n) ∨ (Cal.okB y m d = false)) :
    Calls Tryd.prog 3 #[.int .i64 y, .int .i64 m, .int .i64 d] W fun e w' => e = .returned (.bool true) ∧ Below W.heap.size W w' := by
  have HC := Lib.hid (St.mk0 hT)
  have HL := Lib.hid hl
  have HB := Lib.hid hb
  clear hT hl hb
  rcases hk with hk | hk
  all_goals
    have HK := Lib.hid hk
    clear hk
    go_enter Tryd.func3, Tryd.ntmps3
    go_wp2_with fail
    first | refine (days_at _ _ _ _ HK.out.1 HK.out.2 HC).mono ?_ | refine (days_at_no _ _ _ HK.out HC).mono ?_
    rintro e w1 ⟨rfl, hd⟩; replace HC := St.hid HC hd; clear hd
    go_wp2_with fail
    first | (refine (rdays_at _ _ _ _ HK.out.1 HK.out.2 _).mono ?_) | (refine (rdays_no _ _ _ _ HK.out).mono ?_)
    rintro e w1 ⟨rfl, rfl⟩
    go_wp2_with fail
    refine (leap_at _ _ HB.out _).mono ?_; rintro e w1 ⟨rfl, rfl⟩
    go_wp2_with fail
    refine (rleap_at _ _ HB.out _).mono ?_; rintro e w1 ⟨rfl, rfl⟩
    go_wp2_with fail
    refine (len_at _ _ _ HL.out HC).mono ?_; rintro e w1 ⟨rfl, hd⟩; replace HC := St.hid HC hd; clear hd
    go_wp2_with fail
    refine (rlen_at _ _ _ HL.out _).mono ?_; rintro e w1 ⟨rfl, rfl⟩
    go_wp2_with fail
    refine (works_at HC).mono ?_; rintro e w1 ⟨rfl, hd⟩; replace HC := St.hid HC hd; clear hd
    go_wp2
    go_ret
    exact ⟨rfl, HC.out.1.below⟩
theorem dates_walk (y : Int) (_w0 : (Lit.int .i64 y).wf = true) (m : Int) (_w1 : (Lit.int .i64 m).wf = true) (d : Int) (_w2 : (Lit.int .i64 d).wf = true) (W : World) (hT : TabW W) :
    Calls Tryd.prog 3 #[.int .i64 y, .int .i64 m, .int .i64 d] W fun e w' => e = .returned (.bool true) ∧ Below W.heap.size W w' :=
  dates_core y m d _ _ _ W hT rfl rfl (by cases h : Cal.okB y m d; exact .inr rfl; exact .inl ⟨rfl, rfl⟩)
theorem cdays_core (n y m d r t : Int) (W : World) (hT : TabW W) (hn : -9223372036854775808 ≤ n ∧ n ≤ 9223372036854775807) (hr : Cal.wd n = r) (ht : Cal.yr n = t) (hk : ((-730485719528 ≤ n ∧ n ≤ 730484280837) ∧ Cal.dY n = y ∧ Cal.dM n = m ∧ Cal.dD n = d) ∨ (n < -730485719528 ∨ 730484280837 < n)) :
    Calls Tryd.prog 4 #[.int .i64 n] W fun e w' => e = .returned (.bool true) ∧ Below W.heap.size W w' := by
  have HC := Lib.hid (St.mk0 hT)
  have HN := Lib.hid hn
  have HR := Lib.hid hr
  have HT := Lib.hid ht
  clear hT hn hr ht
  rcases hk with hk | hk
  all_goals
    have HK := Lib.hid hk
    clear hk
    go_enter Tryd.func4, Tryd.ntmps4
    go_wp2_with fail
    first | refine (date_at _ _ _ _ HK.out.1 HK.out.2.1 HK.out.2.2.1 HK.out.2.2.2 _).mono ?_ | refine (date_no _ _ HK.out).mono ?_
    rintro e w1 ⟨rfl, rfl⟩
    go_wp2_with fail
    first | refine (rdate_at _ _ _ _ HK.out.1 HK.out.2.1 HK.out.2.2.1 HK.out.2.2.2 _).mono ?_ | refine (rdate_no _ _ HN.out HK.out).mono ?_
    rintro e w1 ⟨rfl, rfl⟩
    go_wp2_with fail
    refine (wd_at _ _ HR.out _).mono ?_; rintro e w1 ⟨rfl, rfl⟩
    go_wp2_with fail
    refine (rwd_at _ _ HR.out _).mono ?_; rintro e w1 ⟨rfl, rfl⟩
    go_wp2_with fail
    refine (year_at _ _ HN.out HT.out _).mono ?_; rintro e w1 ⟨rfl, rfl⟩
    go_wp2_with fail
    refine (ryr_at _ _ HN.out HT.out _).mono ?_; rintro e w1 ⟨rfl, rfl⟩
    go_wp2_with fail
    refine (works_at HC).mono ?_; rintro e w1 ⟨rfl, hd⟩; replace HC := St.hid HC hd; clear hd
    go_wp2
    go_ret
    exact ⟨rfl, HC.out.1.below⟩
theorem cdays_walk (n : Int) (w0 : (Lit.int .i64 n).wf = true) (W : World) (hT : TabW W) :
    Calls Tryd.prog 4 #[.int .i64 n] W fun e w' => e = .returned (.bool true) ∧ Below W.heap.size W w' :=
  cdays_core n _ _ _ _ _ W hT (bd_i64 w0) rfl rfl (by
    by_cases h : -730485719528 ≤ n ∧ n ≤ 730484280837
    · exact .inl ⟨h, rfl, rfl, rfl⟩
    · exact .inr (by omega))
end Go.Proofs.YtllnimenbopcjaaDoor
