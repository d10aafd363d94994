/- The contracts of package civil: each function returns what the calendar of XCal says. -/
import Derived.Test.YtdlclpkhjblgjaaDoorRows
import Derived.Test.YtdlclpkhjblgjaaDoorCal
import Derived.WalkKit
import Derived.WalkSpells
import Derived.Deep.QuietTactic
import Derived.BigQuiet
import Derived.Lib.Hide
namespace Go.Proofs.YtdlclpkhjblgjaaDoor
open Go.RowKit

theorem wrap64_of {x : Int} (h : -9223372036854775808 ≤ x ∧ x ≤ 9223372036854775807) : wrap64 x = x := IntWalk.wrap64_in x h
theorem tm0 (y k : Int) : y.tmod k = 0 ↔ y % k = 0 := by
  rw [← Int.dvd_iff_tmod_eq_zero, Int.dvd_iff_emod_eq_zero]
theorem ret_bool {a b : Bool} (h : a = b) : Ending.returned (.bool a) = .returned (.bool b) := by rw [h]
theorem ret_int {k : IntKind} {a b : Int} (h : a = b) : Ending.returned (.int k a) = .returned (.int k b) := by rw [h]
theorem results_tmp4 {fn : Func} {t u v x : Tmp} (h : fn.results = #[.tmp t, .tmp u, .tmp v, .tmp x]) (tmps : Array Value) (P : Program) (w : World) :
    (results fn tmps).run P w = .ok (.tuple #[tmps.getD t undef, tmps.getD u undef, tmps.getD v undef, tmps.getD x undef]) w := by simp [results, h]
theorem ret_two {k l : IntKind} {a b c d : Int} (h : a = c) (g : b = d) : Ending.returned (.tuple #[.int k a, .int l b]) = .returned (.tuple #[.int k c, .int l d]) := by rw [h, g]
theorem ret_four {k l m n : IntKind} {a b c d a' b' c' d' : Int} (h1 : a = a') (h2 : b = b') (h3 : c = c') (h4 : d = d') : Ending.returned (.tuple #[.int k a, .int l b, .int m c, .int n d]) = .returned (.tuple #[.int k a', .int l b', .int m c', .int n d']) := by rw [h1, h2, h3, h4]
/-- a world behind draws -/
def Dw (w w' : World) : Prop := ∃ n, w' = w.drewN n
theorem Dw.refl (w : World) : Dw w w := ⟨0, rfl⟩
theorem Dw.trans {a b c : World} (h : Dw a b) (k : Dw b c) : Dw a c := by
  obtain ⟨n, rfl⟩ := h; obtain ⟨m, rfl⟩ := k; exact ⟨n + m, World.drewN_drewN ..⟩
theorem Dw.drewN {a b : World} (h : Dw a b) (n : Nat) : Dw a (b.drewN n) := h.trans ⟨n, rfl⟩
theorem Dw.cell {a b : World} (h : Dw a b) (x : Addr) : b.cell? x = a.cell? x := by
  obtain ⟨n, rfl⟩ := h; simp
theorem dw_of {P : Program} {f : FuncId} {args : Array Value} {w : World} {n : Nat} {v : Value}
    (h : Calls P f args (w.drewN n) fun e w' => e = .returned v ∧ Dw (w.drewN n) w') : Calls P f args (w.drewN n) fun e w'' => e = .returned v ∧ ∃ m, w'' = w.drewN m :=
  h.mono fun _ _ ⟨he, m, hm⟩ => ⟨he, n + m, by rw [hm, World.drewN_drewN]⟩
theorem dw_same {P : Program} {f : FuncId} {args : Array Value} {w : World} {n : Nat} {v : Value}
    (h : Calls P f args (w.drewN n) fun e w' => e = .returned v ∧ w.drewN n = w') : Calls P f args (w.drewN n) fun e w'' => e = .returned v ∧ ∃ m, w'' = w.drewN m :=
  h.mono fun _ _ ⟨he, hm⟩ => ⟨he, n, hm.symm⟩
/-- the table of the days in front of each month lies in block 0 -/
def TabW (w : World) : Prop := ∀ i : Nat, i < 13 → w.cell? ⟨0, i, none⟩ = some (.int .i64 (Cal.tab i))
theorem TabW.dw {w w' : World} (h : TabW w) (k : Dw w w') : TabW w' := by
  intro i hi; rw [k.cell]; exact h i hi
theorem TabW.drewN {w : World} (h : TabW w) (n : Nat) : TabW (w.drewN n) := h.dw ⟨n, rfl⟩

theorem tm0b (y k : Int) : (y.tmod k == 0) = decide (y % k = 0) := by
  rw [Bool.eq_iff_iff]; simp [tm0]
theorem leap_any (y : Int) (w : World) : Calls Tryd.prog 34 #[.int .i64 y] w fun e w' => e = .returned (.bool (Cal.leapB y)) ∧ w = w' := by
  go_enter Tryd.func34, Tryd.ntmps34
  go_wp2
  all_goals (go_ret; refine ⟨ret_bool ?_, rfl⟩; simp only [Cal.leapB, tm0] at *; simp [*, tm0b])
theorem len_any (y m : Int) (w : World) (ht : TabW w) : Calls Tryd.prog 19 #[.int .i64 y, .int .i64 m] w fun e w' => e = .returned (.int .i64 (Cal.len y m)) ∧ Dw w w' := by
  by_cases h1 : m < 1
  · clear ht
    go_enter Tryd.func19, Tryd.ntmps19
    go_wp2
    go_ret
    exact ⟨ret_int (by simp [Cal.len, h1]), Dw.refl _⟩
  · by_cases h2 : 12 < m
    · clear ht
      go_enter Tryd.func19, Tryd.ntmps19
      go_wp2
      go_ret
      exact ⟨ret_int (by simp [Cal.len, h2]), Dw.refl _⟩
    · obtain ⟨k, rfl⟩ : ∃ k : Nat, m = k := ⟨m.toNat, by omega⟩
      by_cases h3 : k = 2
      · subst h3
        have a1 : w.cell? ⟨0, 2, none⟩ = some (.int .i64 59) := ht 2 (by omega)
        have a2 : w.cell? ⟨0, 1, none⟩ = some (.int .i64 31) := ht 1 (by omega)
        clear ht h1 h2
        rcases Cal.leap_cases y with ⟨l1, l2⟩ | ⟨l1, l2⟩
        all_goals
          have L2 := Lib.hid l2
          have e : Cal.len y 2 = 28 + Cal.lp y := by simp [Cal.len, Cal.tab]
          have E := Lib.hid e
          clear e l2
          go_enter Tryd.func19, Tryd.ntmps19
          go_wp2
          go_quiet (fail)
          go_wp2_with (go_at_call 34; refine (leap_any _ _).mono ?_; rintro e w' ⟨rfl, rfl⟩)
          go_ret
          exact ⟨ret_int (by simp only [Int.ofNat_two]; rw [E.out, L2.out]; decide), _, rfl⟩
      · have a1 := ht k (by omega)
        have a2 := ht (k - 1) (by omega)
        have c1 := Cal.tab_bd k (by omega)
        have c2 := Cal.tab_bd (k - 1) (by omega)
        have e1 : Cal.len y k = Cal.tab k - Cal.tab (k - 1) := by
          unfold Cal.len; rw [if_neg (by omega), if_neg (by omega)]; simp
        have E := Lib.hid e1
        clear ht e1
        have b0 : (0 : Int) ≤ k := by omega
        have b1 : (k : Int) < 13 := by omega
        have b2 : ¬ (k : Int) = 2 := by omega
        generalize Cal.tab k = t1 at *
        generalize Cal.tab (k - 1) = t2 at *
        go_enter Tryd.func19, Tryd.ntmps19
        go_wp2
        go_quiet (fail)
        go_wp2
        go_ret
        exact ⟨ret_int E.out.symm, _, rfl⟩
theorem floor_any (a b : Int) (w : World) (ha : -9223372036854775808 ≤ a ∧ a ≤ 9223372036854775807) (hb : 2 ≤ b ∧ b ≤ 1000000) : Calls Tryd.prog 39 #[.int .i64 a, .int .i64 b] w fun e w' => e = .returned (.int .i64 (a / b)) ∧ w = w' := by
  have hd := Cal.div_bd a b ha hb.1
  have h1 := Cal.fl_neg a b (by omega)
  have h2 := Cal.fl_pos a b (by omega)
  have H1 := Lib.hid h1
  have H2 := Lib.hid h2
  clear h1 h2
  go_enter Tryd.func39, Tryd.ntmps39
  go_wp2
  · have h := H1.out ‹_›
    go_ret
    exact ⟨ret_int (by rw [h]; exact wrap64_of (by omega)), rfl⟩
  · have h := H2.out ‹_›
    go_ret
    exact ⟨ret_int h, rfl⟩
theorem ystart_any (y : Int) (w : World) (hy : -2000000000 ≤ y ∧ y ≤ 2000000000) : Calls Tryd.prog 33 #[.int .i64 y] w fun e w' => e = .returned (.int .i64 (Cal.ys y)) ∧ w = w' := by
  have a1 : -500000001 ≤ (y - 1) / 4 ∧ (y - 1) / 4 ≤ 500000001 := by omega
  have a2 : -500000001 ≤ (y - 1) / 100 ∧ (y - 1) / 100 ≤ 500000001 := by omega
  have a3 : -500000001 ≤ (y - 1) / 400 ∧ (y - 1) / 400 ≤ 500000001 := by omega
  go_enter Tryd.func33, Tryd.ntmps33
  go_wp2_with (go_at_call 39; refine (floor_any _ _ _ (by omega) (by omega)).mono ?_; rintro e w' ⟨rfl, rfl⟩)
  go_ret
  exact ⟨ret_int (by unfold Cal.ys; omega), rfl⟩
theorem days_no (y m d : Int) (w : World) (ht : TabW w) (h : Cal.okB y m d = false) : Calls Tryd.prog 18 #[.int .i64 y, .int .i64 m, .int .i64 d] w fun e w' => e = .returned (.tuple #[.int .i64 0, .int .i64 3]) ∧ Dw w w' := by
  have h' : y < -2000000000 ∨ 2000000000 < y ∨ d < 1 ∨ Cal.len y m < d := by
    unfold Cal.okB at h; simp at h; omega
  clear h
  by_cases h1 : y < -2000000000
  · clear ht h'
    go_enter Tryd.func18, Tryd.ntmps18
    go_wp2
    go_ret2
    exact ⟨rfl, Dw.refl _⟩
  · by_cases h2 : 2000000000 < y
    · clear ht h'
      go_enter Tryd.func18, Tryd.ntmps18
      go_wp2
      go_ret2
      exact ⟨rfl, Dw.refl _⟩
    · by_cases h3 : d < 1
      · clear ht h'
        go_enter Tryd.func18, Tryd.ntmps18
        go_wp2
        go_ret2
        exact ⟨rfl, Dw.refl _⟩
      · have h4 : Cal.len y m < d := by omega
        clear h'
        have HT := Lib.hid ht
        clear ht
        go_enter Tryd.func18, Tryd.ntmps18
        go_wp2_with (go_at_call 19; refine (len_any _ _ _ HT.out).mono ?_; rintro e w1 ⟨rfl, hw1⟩)
        go_ret2
        exact ⟨rfl, ‹_›⟩
theorem days_yes (y m d : Int) (w : World) (ht : TabW w) (h : Cal.okB y m d = true) : Calls Tryd.prog 18 #[.int .i64 y, .int .i64 m, .int .i64 d] w fun e w' => e = .returned (.tuple #[.int .i64 (Cal.day y m d), .int .i64 0]) ∧ Dw w w' := by
  have hm := Cal.ok_m y m d h
  have hl := Cal.len_bd y m hm
  rw [Cal.okB_iff] at h
  obtain ⟨y1, y2, d1, d2⟩ := h
  obtain ⟨k, rfl⟩ : ∃ k : Nat, m = k := ⟨m.toNat, by omega⟩
  have c2 := Cal.tab_bd (k - 1) (by omega)
  have e1 : Cal.cum y k = Cal.tab (k - 1) + if 2 < (k : Int) then Cal.lp y else 0 := by
    unfold Cal.cum; congr 2; omega
  have hys : -800000000000 ≤ Cal.ys y ∧ Cal.ys y ≤ 800000000000 := by unfold Cal.ys; omega
  have e2 : Cal.day y k d = Cal.ys y + Cal.tab (k - 1) + (d - 1) + if 2 < (k : Int) then Cal.lp y else 0 := by
    unfold Cal.day; rw [e1]; omega
  have E := Lib.hid e2
  have hr : ∀ w1, TabW w1 → w1.cell? ⟨0, k - 1, none⟩ = some (.int .i64 (Cal.tab (k - 1))) := fun w1 h => h (k - 1) (by omega)
  have HR := Lib.hid hr
  have HT := Lib.hid ht
  clear ht e1 e2 hr
  generalize Cal.tab (k - 1) = t2 at *
  have b0 : (1 : Int) ≤ k := by omega
  have b1 : (k : Int) < 13 := by omega
  rcases Cal.leap_cases y with ⟨l1, l2⟩ | ⟨l1, l2⟩
  all_goals
    have L2 := Lib.hid l2
    clear l2
    by_cases h3 : 2 < (k : Int)
  all_goals
    go_enter Tryd.func18, Tryd.ntmps18
    go_wp2_with (go_at_call 19; refine (len_any _ _ _ HT.out).mono ?_; rintro e w1 ⟨rfl, hw1⟩; have a1 := HR.out w1 (HT.out.dw hw1); have HW := Lib.hid hw1; clear hw1)
    go_quiet ((go_at_call 33; exact dw_same (ystart_any _ _ (by omega))))
    go_wp2_with (go_at_call 34; refine (leap_any _ _).mono ?_; rintro e w' ⟨rfl, rfl⟩)
    go_ret2
    exact ⟨ret_two (by rw [E.out, L2.out]; split <;> omega) rfl, HW.out.drewN _⟩
theorem weekday_any (n : Int) (w : World) : Calls Tryd.prog 20 #[.int .i64 n] w fun e w' => e = .returned (.int .i64 (Cal.wd n)) ∧ w = w' := by
  have h1 : -6 ≤ n.tmod 7 ∧ n.tmod 7 ≤ 6 := by rw [Cal.tm_eq n 7 (by omega)]; split <;> omega
  have h2 : n.tmod 7 = if 0 ≤ n ∨ n % 7 = 0 then n % 7 else n % 7 - 7 := Cal.tm_eq n 7 (by omega)
  have H2 := Lib.hid h2
  clear h2
  go_enter Tryd.func20, Tryd.ntmps20
  go_wp2
  go_ret
  refine ⟨ret_int ?_, rfl⟩
  have h2 := H2.out
  unfold Cal.wd
  split at h2 <;> omega
end Go.Proofs.YtdlclpkhjblgjaaDoor
