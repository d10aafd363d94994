/- The contracts of package civil: each function returns what the calendar of XCal says. -/
import Derived.Test.YtllnimenbopcjaaDoorRows
import Derived.Test.YtllnimenbopcjaaDoorCal
import Derived.WalkKit
import Derived.WalkSpells
import Derived.Deep.QuietTactic
import Derived.BigQuiet
import Derived.Lib.Hide
namespace Go.Proofs.YtllnimenbopcjaaDoor
open Go.RowKit

theorem wrap64_of {x : Int} (h : -9223372036854775808 ≤ x ∧ x ≤ 9223372036854775807) : wrap64 x = x := IntWalk.wrap64_in x h
theorem tm0 (y k : Int) : y.tmod k = 0 ↔ y % k = 0 := by
  rw [← Int.dvd_iff_tmod_eq_zero, Int.dvd_iff_emod_eq_zero]
theorem ret_bool {a b : Bool} (h : a = b) : Ending.returned (.bool a) = .returned (.bool b) := by rw [h]
theorem ret_int {k : IntKind} {a b : Int} (h : a = b) : Ending.returned (.int k a) = .returned (.int k b) := by rw [h]
theorem results_tmp4 {fn : Func} {t u v x : Tmp} (h : fn.results = #[.tmp t, .tmp u, .tmp v, .tmp x]) (tmps : Array Value) (P : Program) (w : World) :
    (results fn tmps).run P w = .ok (.tuple #[tmps.getD t undef, tmps.getD u undef, tmps.getD v undef, tmps.getD x undef]) w := by simp [results, h]
theorem ret_two {k l : IntKind} {a b c d : Int} (h : a = c) (g : b = d) : Ending.returned (.tuple #[.int k a, .int l b]) = .returned (.tuple #[.int k c, .int l d]) := by rw [h, g]
theorem ret_four {k l m n : IntKind} {a b c d a' b' c' d' : Int} (h1 : a = a') (h2 : b = b') (h3 : c = c') (h4 : d = d') : Ending.returned (.tuple #[.int k a, .int l b, .int m c, .int n d]) = .returned (.tuple #[.int k a', .int l b', .int m c', .int n d']) := by rw [h1, h2, h3, h4]
/-- a world behind draws -/
def Dw (w w' : World) : Prop := ∃ n, w' = w.drewN n
theorem Dw.refl (w : World) : Dw w w := ⟨0, rfl⟩
theorem Dw.trans {a b c : World} (h : Dw a b) (k : Dw b c) : Dw a c := by
  obtain ⟨n, rfl⟩ := h; obtain ⟨m, rfl⟩ := k; exact ⟨n + m, World.drewN_drewN ..⟩
theorem Dw.drewN {a b : World} (h : Dw a b) (n : Nat) : Dw a (b.drewN n) := h.trans ⟨n, rfl⟩
theorem Dw.cell {a b : World} (h : Dw a b) (x : Addr) : b.cell? x = a.cell? x := by
  obtain ⟨n, rfl⟩ := h; simp
theorem dw_of {P : Program} {f : FuncId} {args : Array Value} {w : World} {n : Nat} {v : Value}
    (h : Calls P f args (w.drewN n) fun e w' => e = .returned v ∧ Dw (w.drewN n) w') : Calls P f args (w.drewN n) fun e w'' => e = .returned v ∧ ∃ m, w'' = w.drewN m :=
  h.mono fun _ _ ⟨he, m, hm⟩ => ⟨he, n + m, by rw [hm, World.drewN_drewN]⟩
theorem dw_same {P : Program} {f : FuncId} {args : Array Value} {w : World} {n : Nat} {v : Value}
    (h : Calls P f args (w.drewN n) fun e w' => e = .returned v ∧ w.drewN n = w') : Calls P f args (w.drewN n) fun e w'' => e = .returned v ∧ ∃ m, w'' = w.drewN m :=
  h.mono fun _ _ ⟨he, hm⟩ => ⟨he, n, hm.symm⟩
/-- the table of the days in front of each month lies in block 0 -/
def TabW (w : World) : Prop := ∀ i : Nat, i < 13 → w.cell? ⟨0, i, none⟩ = some (.int .i64 (Cal.tab i))
theorem TabW.dw {w w' : World} (h : TabW w) (k : Dw w w') : TabW w' := by
  intro i hi; rw [k.cell]; exact h i hi
theorem TabW.drewN {w : World} (h : TabW w) (n : Nat) : TabW (w.drewN n) := h.dw ⟨n, rfl⟩

theorem tm0b (y k : Int) : (y.tmod k == 0) = decide (y % k = 0) := by
  rw [Bool.eq_iff_iff]; simp [tm0]
theorem leap_any (y : Int) (w : World) : Calls Tryd.prog 13 #[.int .i64 y] w fun e w' => e = .returned (.bool (Cal.leapB y)) ∧ w = w' := by
  go_enter Tryd.func13, Tryd.ntmps13
  go_wp2
  all_goals (go_ret; refine ⟨ret_bool ?_, rfl⟩; simp only [Cal.leapB, tm0] at *; simp [*, tm0b])
theorem len_any (y m : Int) (w : World) (ht : TabW w) : Calls Tryd.prog 15 #[.int .i64 y, .int .i64 m] w fun e w' => e = .returned (.int .i64 (Cal.len y m)) ∧ Dw w w' := by
  by_cases h1 : m < 1
  · clear ht
    go_enter Tryd.func15, Tryd.ntmps15
    go_wp2
    go_ret
    exact ⟨ret_int (by simp [Cal.len, h1]), Dw.refl _⟩
  · by_cases h2 : 12 < m
    · clear ht
      go_enter Tryd.func15, Tryd.ntmps15
      go_wp2
      go_ret
      exact ⟨ret_int (by simp [Cal.len, h2]), Dw.refl _⟩
    · obtain ⟨k, rfl⟩ : ∃ k : Nat, m = k := ⟨m.toNat, by omega⟩
      by_cases h3 : k = 2
      · subst h3
        have a1 : w.cell? ⟨0, 2, none⟩ = some (.int .i64 59) := ht 2 (by omega)
        have a2 : w.cell? ⟨0, 1, none⟩ = some (.int .i64 31) := ht 1 (by omega)
        clear ht h1 h2
        rcases Cal.leap_cases y with ⟨l1, l2⟩ | ⟨l1, l2⟩
        all_goals
          have L2 := Lib.hid l2
          have e : Cal.len y 2 = 28 + Cal.lp y := by simp [Cal.len, Cal.tab]
          have E := Lib.hid e
          clear e l2
          go_enter Tryd.func15, Tryd.ntmps15
          go_wp2
          go_quiet (fail)
          go_wp2_with (go_at_call 13; refine (leap_any _ _).mono ?_; rintro e w' ⟨rfl, rfl⟩)
          go_ret
          exact ⟨ret_int (by simp only [Int.ofNat_two]; rw [E.out, L2.out]; decide), _, rfl⟩
      · have a1 := ht k (by omega)
        have a2 := ht (k - 1) (by omega)
        have c1 := Cal.tab_bd k (by omega)
        have c2 := Cal.tab_bd (k - 1) (by omega)
        have e1 : Cal.len y k = Cal.tab k - Cal.tab (k - 1) := by
          unfold Cal.len; rw [if_neg (by omega), if_neg (by omega)]; simp
        have E := Lib.hid e1
        clear ht e1
        have b0 : (0 : Int) ≤ k := by omega
        have b1 : (k : Int) < 13 := by omega
        have b2 : ¬ (k : Int) = 2 := by omega
        generalize Cal.tab k = t1 at *
        generalize Cal.tab (k - 1) = t2 at *
        go_enter Tryd.func15, Tryd.ntmps15
        go_wp2
        go_quiet (fail)
        go_wp2
        go_ret
        exact ⟨ret_int E.out.symm, _, rfl⟩
theorem floor_any (a b : Int) (w : World) (ha : -9223372036854775808 ≤ a ∧ a ≤ 9223372036854775807) (hb : 2 ≤ b ∧ b ≤ 1000000) : Calls Tryd.prog 27 #[.int .i64 a, .int .i64 b] w fun e w' => e = .returned (.int .i64 (a / b)) ∧ w = w' := by
  have hd := Cal.div_bd a b ha hb.1
  have h1 := Cal.fl_neg a b (by omega)
  have h2 := Cal.fl_pos a b (by omega)
  have H1 := Lib.hid h1
  have H2 := Lib.hid h2
  clear h1 h2
  go_enter Tryd.func27, Tryd.ntmps27
  go_wp2
  · have h := H1.out ‹_›
    go_ret
    exact ⟨ret_int (by rw [h]; exact wrap64_of (by omega)), rfl⟩
  · have h := H2.out ‹_›
    go_ret
    exact ⟨ret_int h, rfl⟩
theorem ystart_any (y : Int) (w : World) (hy : -2000000000 ≤ y ∧ y ≤ 2000000000) : Calls Tryd.prog 24 #[.int .i64 y] w fun e w' => e = .returned (.int .i64 (Cal.ys y)) ∧ w = w' := by
  have a1 : -500000001 ≤ (y - 1) / 4 ∧ (y - 1) / 4 ≤ 500000001 := by omega
  have a2 : -500000001 ≤ (y - 1) / 100 ∧ (y - 1) / 100 ≤ 500000001 := by omega
  have a3 : -500000001 ≤ (y - 1) / 400 ∧ (y - 1) / 400 ≤ 500000001 := by omega
  go_enter Tryd.func24, Tryd.ntmps24
  go_wp2_with (go_at_call 27; refine (floor_any _ _ _ (by omega) (by omega)).mono ?_; rintro e w' ⟨rfl, rfl⟩)
  go_ret
  exact ⟨ret_int (by unfold Cal.ys; omega), rfl⟩
theorem days_no (y m d : Int) (w : World) (ht : TabW w) (h : Cal.okB y m d = false) : Calls Tryd.prog 11 #[.int .i64 y, .int .i64 m, .int .i64 d] w fun e w' => e = .returned (.tuple #[.int .i64 0, .int .i64 3]) ∧ Dw w w' := by
  have h' : y < -2000000000 ∨ 2000000000 < y ∨ d < 1 ∨ Cal.len y m < d := by
    unfold Cal.okB at h; simp at h; omega
  clear h
  by_cases h1 : y < -2000000000
  · clear ht h'
    go_enter Tryd.func11, Tryd.ntmps11
    go_wp2
    go_ret2
    exact ⟨rfl, Dw.refl _⟩
  · by_cases h2 : 2000000000 < y
    · clear ht h'
      go_enter Tryd.func11, Tryd.ntmps11
      go_wp2
      go_ret2
      exact ⟨rfl, Dw.refl _⟩
    · by_cases h3 : d < 1
      · clear ht h'
        go_enter Tryd.func11, Tryd.ntmps11
        go_wp2
        go_ret2
        exact ⟨rfl, Dw.refl _⟩
      · have h4 : Cal.len y m < d := by omega
        clear h'
        have HT := Lib.hid ht
        clear ht
        go_enter Tryd.func11, Tryd.ntmps11
        go_wp2_with (go_at_call 15; refine (len_any _ _ _ HT.out).mono ?_; rintro e w1 ⟨rfl, hw1⟩)
        go_ret2
        exact ⟨rfl, ‹_›⟩
theorem days_yes (y m d : Int) (w : World) (ht : TabW w) (h : Cal.okB y m d = true) : Calls Tryd.prog 11 #[.int .i64 y, .int .i64 m, .int .i64 d] w fun e w' => e = .returned (.tuple #[.int .i64 (Cal.day y m d), .int .i64 0]) ∧ Dw w w' := by
  have hm := Cal.ok_m y m d h
  have hl := Cal.len_bd y m hm
  rw [Cal.okB_iff] at h
  obtain ⟨y1, y2, d1, d2⟩ := h
  obtain ⟨k, rfl⟩ : ∃ k : Nat, m = k := ⟨m.toNat, by omega⟩
  have c2 := Cal.tab_bd (k - 1) (by omega)
  have e1 : Cal.cum y k = Cal.tab (k - 1) + if 2 < (k : Int) then Cal.lp y else 0 := by
    unfold Cal.cum; congr 2; omega
  have hys : -800000000000 ≤ Cal.ys y ∧ Cal.ys y ≤ 800000000000 := by unfold Cal.ys; omega
  have e2 : Cal.day y k d = Cal.ys y + Cal.tab (k - 1) + (d - 1) + if 2 < (k : Int) then Cal.lp y else 0 := by
    unfold Cal.day; rw [e1]; omega
  have E := Lib.hid e2
  have hr : ∀ w1, TabW w1 → w1.cell? ⟨0, k - 1, none⟩ = some (.int .i64 (Cal.tab (k - 1))) := fun w1 h => h (k - 1) (by omega)
  have HR := Lib.hid hr
  have HT := Lib.hid ht
  clear ht e1 e2 hr
  generalize Cal.tab (k - 1) = t2 at *
  have b0 : (1 : Int) ≤ k := by omega
  have b1 : (k : Int) < 13 := by omega
  rcases Cal.leap_cases y with ⟨l1, l2⟩ | ⟨l1, l2⟩
  all_goals
    have L2 := Lib.hid l2
    clear l2
    by_cases h3 : 2 < (k : Int)
  all_goals
    go_enter Tryd.func11, Tryd.ntmps11
    go_wp2_with (go_at_call 15; refine (len_any _ _ _ HT.out).mono ?_; rintro e w1 ⟨rfl, hw1⟩; have a1 := HR.out w1 (HT.out.dw hw1); have HW := Lib.hid hw1; clear hw1)
    go_quiet ((go_at_call 24; exact dw_same (ystart_any _ _ (by omega))))
    go_wp2_with (go_at_call 13; refine (leap_any _ _).mono ?_; rintro e w' ⟨rfl, rfl⟩)
    go_ret2
    exact ⟨ret_two (by rw [E.out, L2.out]; split <;> omega) rfl, HW.out.drewN _⟩
/-- the months and days of a year that begins in March -/
theorem march_any (e : Int) (w : World) (he : 0 ≤ e ∧ e ≤ 365) : Calls Tryd.prog 28 #[.int .i64 e] w fun r w' => r = .returned (.tuple #[.int .i64 (Cal.mM e), .int .i64 (Cal.mD e)]) ∧ w = w' := by
  have hm : ∀ q : Int, q = (5 * e + 2) / 153 → Cal.mM e = if q < 10 then q + 3 else q - 9 := by intro q hq; subst hq; rfl
  have HM := Lib.hid hm
  clear hm
  by_cases h : (5 * e + 2) / 153 < 10
  all_goals
    go_enter Tryd.func28, Tryd.ntmps28
    go_wp2
    go_ret2
    exact ⟨ret_two (by rw [HM.out _ rfl]; first | rw [if_pos (by omega)] | rw [if_neg (by omega)]) rfl, rfl⟩
theorem date_no (n : Int) (w : World) (h : n < -730485719528 ∨ 730484280837 < n) : Calls Tryd.prog 18 #[.int .i64 n] w fun e w' => e = .returned (.tuple #[.int .i64 0, .int .i64 0, .int .i64 0, .int .i64 3]) ∧ w = w' := by
  rcases h with h | h
  all_goals
    go_enter Tryd.func18, Tryd.ntmps18
    go_wp2
    refine bodyPost_ret (results_tmp4 rfl _ _ _) rfl ?_
    exact ⟨rfl, rfl⟩
theorem date_yes (n : Int) (w : World) (h : -730485719528 ≤ n ∧ n ≤ 730484280837) : Calls Tryd.prog 18 #[.int .i64 n] w fun e w' => e = .returned (.tuple #[.int .i64 (Cal.dY n), .int .i64 (Cal.dM n), .int .i64 (Cal.dD n), .int .i64 0]) ∧ w = w' := by
  have h1 := Cal.dr_bd n
  have h2 := Cal.dk_bd n
  have h3 := Cal.dd_bd n
  have e1 : n + 719468 - (n + 719468) / 146097 * 146097 = Cal.dr n := by unfold Cal.dr; omega
  have e2 : (Cal.dr n - Cal.dr n / 1460 + Cal.dr n / 36524 - Cal.dr n / 146096) / 365 = Cal.dk n := rfl
  have e3 : Cal.dr n - (365 * Cal.dk n + Cal.dk n / 4 - Cal.dk n / 100) = Cal.dd n := by unfold Cal.dd Cal.mar; rfl
  have e4 : (n + 719468) / 146097 = Cal.dc n := rfl
  have E1 := Lib.hid e1
  have E2 := Lib.hid e2
  have E3 := Lib.hid e3
  have E4 := Lib.hid e4
  clear e1 e2 e3 e4
  obtain ⟨n1, n2⟩ := h
  go_enter Tryd.func18, Tryd.ntmps18
  go_wp2_with (go_at_call 27; refine (floor_any _ _ _ (by omega) (by omega)).mono ?_; rintro e w' ⟨rfl, rfl⟩)
  rw [E1.out, E2.out, E3.out, E4.out]
  have e5 : ∀ c : Int, Cal.dY n = Cal.dk n + Cal.dc n * 400 + c ↔ (c = if Cal.mM (Cal.dd n) ≤ 2 then 1 else 0) := by
    intro c; have e : Cal.dY n = Cal.dk n + Cal.dc n * 400 + if Cal.mM (Cal.dd n) ≤ 2 then 1 else 0 := rfl
    rw [e]; omega
  have E5 := Lib.hid e5
  have hc : -5000002 ≤ Cal.dc n ∧ Cal.dc n ≤ 5000002 := by unfold Cal.dc; omega
  clear e5
  refine (march_any _ _ h3).mono ?_
  rintro e w' ⟨rfl, rfl⟩
  by_cases h6 : Cal.mM (Cal.dd n) ≤ 2
  · have g := (E5.out 1).2 (by rw [if_pos h6])
    have G := Lib.hid g
    clear g
    go_wp2
    refine bodyPost_ret (results_tmp4 rfl _ _ _) rfl ?_
    exact ⟨ret_four G.out.symm rfl rfl rfl, rfl⟩
  · have g := (E5.out 0).2 (by rw [if_neg h6])
    have G := Lib.hid g
    clear g
    go_wp2
    refine bodyPost_ret (results_tmp4 rfl _ _ _) rfl ?_
    exact ⟨ret_four (by rw [G.out]; simp) rfl rfl rfl, rfl⟩
theorem weekday_any (n : Int) (w : World) : Calls Tryd.prog 20 #[.int .i64 n] w fun e w' => e = .returned (.int .i64 (Cal.wd n)) ∧ w = w' := by
  have h1 : -6 ≤ n.tmod 7 ∧ n.tmod 7 ≤ 6 := by rw [Cal.tm_eq n 7 (by omega)]; split <;> omega
  have h2 : n.tmod 7 = if 0 ≤ n ∨ n % 7 = 0 then n % 7 else n % 7 - 7 := Cal.tm_eq n 7 (by omega)
  have H2 := Lib.hid h2
  clear h2
  go_enter Tryd.func20, Tryd.ntmps20
  go_wp2
  go_ret
  refine ⟨ret_int ?_, rfl⟩
  have h2 := H2.out
  unfold Cal.wd
  split at h2 <;> omega
theorem year_any (t : Int) (w : World) (h : -9223372036854775808 ≤ t ∧ t ≤ 9223372036854775807) : Calls Tryd.prog 22 #[.int .i64 t] w fun e w' => e = .returned (.int .i64 (Cal.yr t)) ∧ w = w' := by
  have hd := Cal.date_in (t / 86400)
  have hy : Cal.yr t = if Cal.dY (t / 86400) < -2000000000 then -2000000000 else if 2000000000 < Cal.dY (t / 86400) then 2000000000 else Cal.dY (t / 86400) := rfl
  have ho := Cal.date_out (t / 86400)
  have HD := Lib.hid hd
  have HY := Lib.hid hy
  have HO := Lib.hid ho
  have hb := Cal.div_bd t 86400 h (by omega)
  clear hd hy ho
  by_cases h1 : t / 86400 < -730485719528
  · go_enter Tryd.func22, Tryd.ntmps22
    go_wp2_with (go_at_call 27; refine (floor_any _ _ _ (by omega) (by omega)).mono ?_; rintro e w' ⟨rfl, rfl⟩)
    go_ret
    exact ⟨ret_int (by rw [HY.out, if_pos (HO.out.1 h1)]), rfl⟩
  · by_cases h2 : 730484280837 < t / 86400
    · go_enter Tryd.func22, Tryd.ntmps22
      go_wp2_with (go_at_call 27; refine (floor_any _ _ _ (by omega) (by omega)).mono ?_; rintro e w' ⟨rfl, rfl⟩)
      go_ret
      have := HO.out.2 h2
      exact ⟨ret_int (by rw [HY.out, if_neg (by omega), if_pos this]), rfl⟩
    · have g := HD.out.1 (by omega)
      have G := Lib.hid g
      clear g
      go_enter Tryd.func22, Tryd.ntmps22
      go_wp2_with (first | (go_at_call 27; refine (floor_any _ _ _ (by omega) (by omega)).mono ?_; rintro e w' ⟨rfl, rfl⟩) | (go_at_call 18; refine (date_yes _ _ (by omega)).mono ?_; rintro e w' ⟨rfl, rfl⟩))
      go_ret
      have := G.out
      exact ⟨ret_int (by rw [HY.out, if_neg (by omega), if_neg (by omega)]), rfl⟩
end Go.Proofs.YtllnimenbopcjaaDoor
