/- The contracts of the document's own answers for layer 1: each returns what the calendar of XCal says. -/
import Derived.Test.YtdlclpkhjblgjaaDoorCivil
namespace Go.Proofs.YtdlclpkhjblgjaaDoor
open Go.RowKit

theorem rleap_any (y : Int) (w : World) : Calls Tryd.prog 36 #[.int .i64 y] w fun e w' => e = .returned (.bool (Cal.leapB y)) ∧ w = w' := by
  go_enter Tryd.func36, Tryd.ntmps36
  go_wp2
  all_goals (go_ret; refine ⟨ret_bool ?_, rfl⟩; simp only [Cal.leapB, tm0] at *; simp [*, tm0b]; try omega)
theorem rleap_at (y : Int) (b : Bool) (hb : Cal.leapB y = b) (w : World) : Calls Tryd.prog 36 #[.int .i64 y] w fun e w' => e = .returned (.bool b) ∧ w = w' := hb ▸ rleap_any y w
theorem rsize_any (y : Int) (w : World) : Calls Tryd.prog 46 #[.int .i64 y] w fun e w' => e = .returned (.int .i64 (365 + Cal.lp y)) ∧ w = w' := by
  rcases Cal.leap_cases y with ⟨l1, l2⟩ | ⟨l1, l2⟩
  all_goals
    have L2 := Lib.hid l2
    have L1 := Lib.hid l1
    clear l1 l2
    go_enter Tryd.func46, Tryd.ntmps46
    go_wp2_with (go_at_call 36; refine (rleap_at _ _ L1.out _).mono ?_; rintro e w' ⟨rfl, rfl⟩)
    go_ret
    exact ⟨ret_int (by rw [L2.out]; decide), rfl⟩
theorem rin_yes (y : Int) (w : World) (h : -2000000000 ≤ y ∧ y ≤ 2000000000) : Calls Tryd.prog 37 #[.int .i64 y] w fun e w' => e = .returned (.bool true) ∧ w = w' := by
  obtain ⟨h1, h2⟩ := h
  go_enter Tryd.func37, Tryd.ntmps37
  go_wp2
  go_ret
  exact ⟨rfl, rfl⟩
theorem rin_no (y : Int) (w : World) (h : y < -2000000000 ∨ 2000000000 < y) : Calls Tryd.prog 37 #[.int .i64 y] w fun e w' => e = .returned (.bool false) ∧ w = w' := by
  rcases h with h | h
  all_goals
    go_enter Tryd.func37, Tryd.ntmps37
    go_wp2
    go_ret
    exact ⟨ret_bool (by first | rfl | (simp; omega)), rfl⟩
theorem rfloor_any (a b : Int) (w : World) (ha : -9223372036854775808 ≤ a ∧ a ≤ 9223372036854775807) (hb : 2 ≤ b ∧ b ≤ 1000000) : Calls Tryd.prog 45 #[.int .i64 a, .int .i64 b] w fun e w' => e = .returned (.int .i64 (a / b)) ∧ w = w' := by
  have hd := Cal.div_bd a b ha hb.1
  have h1 := Cal.fl_neg a b (by omega)
  have h2 := Cal.fl_pos a b (by omega)
  have H1 := Lib.hid h1
  have H2 := Lib.hid h2
  clear h1 h2
  go_enter Tryd.func45, Tryd.ntmps45
  go_wp2
  · have h := H1.out ‹_›
    go_ret
    exact ⟨ret_int (by rw [h]; exact wrap64_of (by omega)), rfl⟩
  · have h := H2.out ‹_›
    go_ret
    exact ⟨ret_int h, rfl⟩
theorem rwd_any (n : Int) (w : World) : Calls Tryd.prog 30 #[.int .i64 n] w fun e w' => e = .returned (.int .i64 (Cal.wd n)) ∧ w = w' := by
  have h1 : -6 ≤ n.tmod 7 ∧ n.tmod 7 ≤ 6 := by rw [Cal.tm_eq n 7 (by omega)]; split <;> omega
  have h2 : n.tmod 7 = if 0 ≤ n ∨ n % 7 = 0 then n % 7 else n % 7 - 7 := Cal.tm_eq n 7 (by omega)
  have H2 := Lib.hid h2
  clear h2
  go_enter Tryd.func30, Tryd.ntmps30
  go_wp2
  go_ret
  refine ⟨ret_int ?_, rfl⟩
  have h2 := H2.out
  unfold Cal.wd
  split at h2 <;> omega
/-- the length of a month, by its number -/
theorem len_31 (y m : Int) (h : m = 1 ∨ m = 3 ∨ m = 5 ∨ m = 7 ∨ m = 8 ∨ m = 10 ∨ m = 12) : Cal.len y m = 31 := by
  rcases h with h | h | h | h | h | h | h <;> subst h <;> simp [Cal.len, Cal.tab]
theorem len_30 (y m : Int) (h : m = 4 ∨ m = 6 ∨ m = 9 ∨ m = 11) : Cal.len y m = 30 := by
  rcases h with h | h | h | h <;> subst h <;> simp [Cal.len, Cal.tab]
theorem len_2 (y : Int) : Cal.len y 2 = 28 + Cal.lp y := by simp [Cal.len, Cal.tab]
set_option maxHeartbeats 1000000 in
theorem rlen_any (y m : Int) (w : World) : Calls Tryd.prog 28 #[.int .i64 y, .int .i64 m] w fun e w' => e = .returned (.int .i64 (Cal.len y m)) ∧ w = w' := by
  have a := len_31 y m
  have b := len_30 y m
  have c := len_2 y
  have d := Cal.len_no y m
  have AA := Lib.hid a
  have BB := Lib.hid b
  have CC := Lib.hid c
  have DD := Lib.hid d
  clear a b c d
  by_cases h2 : m = 2
  · subst h2
    rcases Cal.leap_cases y with ⟨l1, l2⟩ | ⟨l1, l2⟩
    all_goals
      have L2 := Lib.hid l2
      have L1 := Lib.hid l1
      clear l1 l2
      go_enter Tryd.func28, Tryd.ntmps28
      go_wp2_with (go_at_call 36; refine (rleap_at _ _ L1.out _).mono ?_; rintro e w' ⟨rfl, rfl⟩)
      go_ret
      exact ⟨ret_int (by rw [CC.out, L2.out]; decide), rfl⟩
  · have h2' : (m == 2) = false := by simpa using h2
    by_cases h31 : m = 1 ∨ m = 3 ∨ m = 5 ∨ m = 7 ∨ m = 8 ∨ m = 10 ∨ m = 12
    · have e := AA.out h31
      have E := Lib.hid e
      clear e h2 h2'
      rcases h31 with h | h | h | h | h | h | h <;> subst h
      all_goals
        go_enter Tryd.func28, Tryd.ntmps28
        go_wp2
        go_ret
        exact ⟨ret_int E.out.symm, rfl⟩
    · by_cases h30 : m = 4 ∨ m = 6 ∨ m = 9 ∨ m = 11
      · have e := BB.out h30
        have E := Lib.hid e
        clear e h2 h2' h31
        rcases h30 with h | h | h | h <;> subst h
        all_goals
          go_enter Tryd.func28, Tryd.ntmps28
          go_wp2
          go_ret
          exact ⟨ret_int E.out.symm, rfl⟩
      · have e := DD.out (by omega)
        have E := Lib.hid e
        have t1 : (m == 1) = false := by simp; omega
        have t3 : (m == 3) = false := by simp; omega
        have t4 : (m == 4) = false := by simp; omega
        have t5 : (m == 5) = false := by simp; omega
        have t6 : (m == 6) = false := by simp; omega
        have t7 : (m == 7) = false := by simp; omega
        have t8 : (m == 8) = false := by simp; omega
        have t9 : (m == 9) = false := by simp; omega
        have t10 : (m == 10) = false := by simp; omega
        have t11 : (m == 11) = false := by simp; omega
        have t12 : (m == 12) = false := by simp; omega
        clear e h2 h31 h30
        go_enter Tryd.func28, Tryd.ntmps28
        go_wp2
        go_ret
        exact ⟨ret_int E.out.symm, rfl⟩
/-- the days of a year that are in front of a month, year by year: the loops' relations -/
def YsIs (n y : Int) : Prop := n = Cal.ys y
def RestIs (n y r : Int) : Prop := r = n - Cal.ys y
def MonIs (n y m r : Int) : Prop := r = n - Cal.ys y - Cal.cum y m
theorem rfirst_any (y : Int) (w : World) (hy : -2000000000 ≤ y ∧ y ≤ 2000000000) : Calls Tryd.prog 38 #[.int .i64 y] w fun e w' => e = .returned (.int .i64 (Cal.ys y)) ∧ w = w' := by
  have hc := Cal.ys_cycle (y / 400)
  have HC := Lib.hid hc
  have b1 : -5000000 ≤ y / 400 ∧ y / 400 ≤ 5000000 := by omega
  have b2 : y / 400 * 400 ≤ y ∧ y < y / 400 * 400 + 400 := by omega
  clear hc
  go_enter Tryd.func38, Tryd.ntmps38
  go_wp2_with (go_at_call 45; refine (rfloor_any _ _ _ (by omega) (by omega)).mono ?_; rintro e w' ⟨rfl, rfl⟩)
  go_loop [4, 5] (fun s i => ∃ z d : Int, s = .int .i64 d ∧ i = .int .i64 z ∧ y / 400 * 400 ≤ z ∧ z ≤ y ∧ YsIs d z) (fun _ i => (y - intOf i).toNat)
  case atStart => exact ⟨y / 400 * 400, _, rfl, rfl, by omega, by omega, HC.out.symm⟩
  case round =>
    obtain ⟨z, d, rfl, rfl, hz1, hz2, hd⟩ := hrel
    have D := Lib.hid hd
    have bd : -800000000000 ≤ d ∧ d ≤ 800000000000 := by unfold YsIs Cal.ys at hd; omega
    clear hd
    have bl := Cal.lp_01 z
    have hs := Cal.ys_succ z
    have HS := Lib.hid hs
    clear hs
    by_cases hlt : z < y
    · go_wp2_with (go_at_call 46; refine (rsize_any _ _).mono ?_; rintro e w' ⟨rfl, rfl⟩)
      go_round
      case rel => exact ⟨z + 1, _, rfl, rfl, by omega, by omega, by unfold YsIs; rw [HS.out, ← show d = Cal.ys z from D.out]; omega⟩
      case measure => simp [intOf]; omega
    · obtain rfl : z = y := by omega
      go_wp2
      go_ret
      exact ⟨ret_int D.out, rfl⟩
theorem rdays_no (y m d : Int) (w : World) (h : Cal.okB y m d = false) : Calls Tryd.prog 29 #[.int .i64 y, .int .i64 m, .int .i64 d] w fun e w' => e = .returned (.tuple #[.int .i64 0, .int .i64 3]) ∧ w = w' := by
  have h' : (y < -2000000000 ∨ 2000000000 < y) ∨ d < 1 ∨ Cal.len y m < d := by
    unfold Cal.okB at h; simp at h; omega
  clear h
  by_cases h1 : y < -2000000000 ∨ 2000000000 < y
  · have H1 := Lib.hid h1
    clear h1 h'
    go_enter Tryd.func29, Tryd.ntmps29
    go_wp2_with (go_at_call 37; refine (rin_no _ _ H1.out).mono ?_; rintro e w' ⟨rfl, rfl⟩)
    go_ret2
    exact ⟨rfl, rfl⟩
  · have h2 : -2000000000 ≤ y ∧ y ≤ 2000000000 := by omega
    have H2 := Lib.hid h2
    clear h1 h2
    by_cases h3 : d < 1
    · clear h'
      go_enter Tryd.func29, Tryd.ntmps29
      go_wp2_with (go_at_call 37; refine (rin_yes _ _ H2.out).mono ?_; rintro e w' ⟨rfl, rfl⟩)
      go_ret2
      exact ⟨rfl, rfl⟩
    · have h4 : Cal.len y m < d := by have := H2.out; omega
      clear h'
      go_enter Tryd.func29, Tryd.ntmps29
      go_wp2_with (first | (go_at_call 37; refine (rin_yes _ _ H2.out).mono ?_; rintro e w' ⟨rfl, rfl⟩) | (go_at_call 28; refine (rlen_any _ _ _).mono ?_; rintro e w' ⟨rfl, rfl⟩))
      go_ret2
      exact ⟨rfl, rfl⟩
theorem rdays_yes (y m d : Int) (w : World) (h : Cal.okB y m d = true) : Calls Tryd.prog 29 #[.int .i64 y, .int .i64 m, .int .i64 d] w fun e w' => e = .returned (.tuple #[.int .i64 (Cal.day y m d), .int .i64 0]) ∧ w = w' := by
  have hm := Cal.ok_m y m d h
  have hl := Cal.len_bd y m hm
  rw [Cal.okB_iff] at h
  obtain ⟨y1, y2, d1, d2⟩ := h
  have H2 := Lib.hid (And.intro y1 y2)
  have hys : -800000000000 ≤ Cal.ys y ∧ Cal.ys y ≤ 800000000000 := by unfold Cal.ys; omega
  obtain ⟨m1, m2⟩ := hm
  go_enter Tryd.func29, Tryd.ntmps29
  go_wp2_with (first | (go_at_call 37; refine (rin_yes _ _ H2.out).mono ?_; rintro e w' ⟨rfl, rfl⟩) | (go_at_call 28; refine (rlen_any _ _ _).mono ?_; rintro e w' ⟨rfl, rfl⟩) | (go_at_call 38; refine (rfirst_any _ _ H2.out).mono ?_; rintro e w' ⟨rfl, rfl⟩))
  go_loop [8, 9] (fun s i => ∃ k c : Int, s = .int .i64 c ∧ i = .int .i64 k ∧ 1 ≤ k ∧ k ≤ m ∧ MonIs c y k 0) (fun _ i => (m - intOf i).toNat)
  case atStart => exact ⟨1, _, rfl, rfl, by omega, by omega, by unfold MonIs; rw [Cal.cum_one]; omega⟩
  case round =>
    obtain ⟨k, c, rfl, rfl, hk1, hk2, hd⟩ := hrel
    have D := Lib.hid hd
    have cb := Cal.cum_bd y k (by omega)
    have lk := Cal.len_bd y k (by omega)
    have lp := Cal.lp_01 y
    have bd : -800000001000 ≤ c ∧ c ≤ 800000001000 := by unfold MonIs at hd; omega
    clear hd lp
    by_cases hlt : k < m
    · have cs := Cal.cum_succ y k (by omega)
      have CS := Lib.hid cs
      clear cs
      go_wp2_with (go_at_call 28; refine (rlen_any _ _ _).mono ?_; rintro e w' ⟨rfl, rfl⟩)
      go_round
      case rel => exact ⟨k + 1, _, rfl, rfl, by omega, by omega, by have := D.out; unfold MonIs at *; rw [CS.out]; omega⟩
      case measure => simp [intOf]; omega
    · obtain rfl : k = m := by omega
      go_wp2
      go_ret2
      exact ⟨ret_two (by have := D.out; unfold MonIs at this; unfold Cal.day; omega) rfl, rfl⟩
end Go.Proofs.YtdlclpkhjblgjaaDoor
