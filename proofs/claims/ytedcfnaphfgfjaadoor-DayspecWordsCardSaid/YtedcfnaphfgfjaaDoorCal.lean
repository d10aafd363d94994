/- The calendar in plain numbers: days, dates, weekdays. No program in sight. -/
namespace Go.Proofs.YtedcfnaphfgfjaaDoor.Cal
/-- whether a year has 366 days -/
def leapB (y : Int) : Bool := decide (y % 4 = 0 ∧ (y % 100 ≠ 0 ∨ y % 400 = 0))
/-- 1 in leap years, else 0 -/
def lp (y : Int) : Int := if leapB y then 1 else 0
/-- the number of January 1 of a year -/
def ys (y : Int) : Int := 365 * y + (y - 1) / 4 - (y - 1) / 100 + (y - 1) / 400 - 719527
/-- the table of the days in front of each month -/
def tab (i : Nat) : Int := [0, 31, 59, 90, 120, 151, 181, 212, 243, 273, 304, 334, 365].getD i 0
theorem tab_bd (i : Nat) (h : i < 13) : 0 ≤ tab i ∧ tab i ≤ 365 := by
  have : i = 0 ∨ i = 1 ∨ i = 2 ∨ i = 3 ∨ i = 4 ∨ i = 5 ∨ i = 6 ∨ i = 7 ∨ i = 8 ∨ i = 9 ∨ i = 10 ∨ i = 11 ∨ i = 12 := by omega
  rcases this with e | e | e | e | e | e | e | e | e | e | e | e | e <;> subst e <;> decide
/-- the days in front of a month, in a year -/
def cum (y : Int) (m : Int) : Int := tab (m - 1).toNat + if 2 < m then lp y else 0
/-- how many days a month has -/
def len (y m : Int) : Int := if m < 1 ∨ 12 < m then 0 else tab m.toNat - tab (m - 1).toNat + if m = 2 then lp y else 0
/-- the number of a day -/
def day (y m d : Int) : Int := ys y + cum y m + d - 1
/-- the range of years -/
def inR (y : Int) : Prop := -2000000000 ≤ y ∧ y ≤ 2000000000
/-- whether there is such a day, in the range -/
def okB (y m d : Int) : Bool := decide (-2000000000 ≤ y ∧ y ≤ 2000000000 ∧ 1 ≤ d ∧ d ≤ len y m)

theorem lp_eq (y : Int) : lp y = if y % 4 = 0 ∧ (y % 100 ≠ 0 ∨ y % 400 = 0) then 1 else 0 := by
  unfold lp leapB; by_cases h : y % 4 = 0 ∧ (y % 100 ≠ 0 ∨ y % 400 = 0) <;> simp [h]
theorem lp_01 (y : Int) : 0 ≤ lp y ∧ lp y ≤ 1 := by rw [lp_eq]; split <;> omega
theorem leap_cases (y : Int) : (leapB y = true ∧ lp y = 1) ∨ (leapB y = false ∧ lp y = 0) := by
  unfold lp; cases leapB y <;> simp
theorem ys_succ (y : Int) : ys (y + 1) = ys y + 365 + lp y := by rw [lp_eq]; unfold ys; split <;> omega
theorem ys_cycle (c : Int) : ys (c * 400) = c * 146097 - 719528 := by unfold ys; omega
theorem ys_400 (y : Int) : ys (y + 400) = ys y + 146097 := by unfold ys; omega
theorem lp_400 (y : Int) : lp (y + 400) = lp y := by rw [lp_eq, lp_eq]; split <;> split <;> omega
theorem leapB_400 (y : Int) : leapB (y + 400) = leapB y := by
  unfold leapB; rw [decide_eq_decide]; omega
theorem ys_mono (a b : Int) (h : a ≤ b) : ys a ≤ ys b := by unfold ys; omega
theorem ys_lt (a b : Int) (h : a < b) : ys a + 365 + lp a ≤ ys b := by
  have := ys_mono (a + 1) b (by omega); rw [ys_succ] at this; omega
theorem m_cases (m : Int) (h : 1 ≤ m ∧ m ≤ 12) : m = 1 ∨ m = 2 ∨ m = 3 ∨ m = 4 ∨ m = 5 ∨ m = 6 ∨ m = 7 ∨ m = 8 ∨ m = 9 ∨ m = 10 ∨ m = 11 ∨ m = 12 := by omega
theorem cum_succ (y m : Int) (h : 1 ≤ m ∧ m ≤ 11) : cum y (m + 1) = cum y m + len y m := by
  rcases m_cases m (by omega) with e | e | e | e | e | e | e | e | e | e | e | e <;> subst e <;> simp [cum, len, tab] <;> omega
theorem cum_end (y : Int) : cum y 12 + len y 12 = 365 + lp y := by simp [cum, len, tab]; omega
theorem cum_one (y : Int) : cum y 1 = 0 := by simp [cum, tab]
theorem len_bd (y m : Int) (h : 1 ≤ m ∧ m ≤ 12) : 28 ≤ len y m ∧ len y m ≤ 31 := by
  have := lp_01 y
  rcases m_cases m h with e | e | e | e | e | e | e | e | e | e | e | e <;> subst e <;> simp [len, tab] <;> omega
theorem len_no (y m : Int) (h : m < 1 ∨ 12 < m) : len y m = 0 := by simp [len, h]
theorem cum_bd (y m : Int) (h : 1 ≤ m ∧ m ≤ 12) : 0 ≤ cum y m ∧ cum y m + len y m ≤ 365 + lp y := by
  have := lp_01 y
  rcases m_cases m h with e | e | e | e | e | e | e | e | e | e | e | e <;> subst e <;> simp [cum, len, tab] <;> omega
theorem cum_lt (y m n : Int) (h : 1 ≤ m ∧ m < n ∧ n ≤ 12) : cum y m + len y m ≤ cum y n := by
  have := lp_01 y
  rcases m_cases m (by omega) with e | e | e | e | e | e | e | e | e | e | e | e <;> subst e <;> rcases m_cases n (by omega) with f | f | f | f | f | f | f | f | f | f | f | f <;> subst f <;> first | omega | (simp [cum, len, tab] <;> omega)
theorem okB_iff (y m d : Int) : okB y m d = true ↔ (-2000000000 ≤ y ∧ y ≤ 2000000000 ∧ 1 ≤ d ∧ d ≤ len y m) := by simp [okB]
theorem ok_m (y m d : Int) (h : okB y m d = true) : 1 ≤ m ∧ m ≤ 12 := by
  rw [okB_iff] at h
  by_cases g : m < 1 ∨ 12 < m
  · rw [len_no y m g] at h; omega
  · omega
/-- a month and a day of it -/
def V (y m d : Int) : Prop := 1 ≤ m ∧ m ≤ 12 ∧ 1 ≤ d ∧ d ≤ len y m
theorem ok_V (y m d : Int) (h : okB y m d = true) : V y m d := by
  have a := ok_m y m d h; rw [okB_iff] at h; exact ⟨a.1, a.2, h.2.2.1, h.2.2.2⟩
/-- later dates have greater numbers -/
theorem day_year (y m d y' m' d' : Int) (h : V y m d) (h' : V y' m' d') (hy : y < y') : day y m d < day y' m' d' := by
  unfold V at h h'
  have := ys_lt y y' hy; have := cum_bd y m ⟨h.1, h.2.1⟩; have := cum_bd y' m' ⟨h'.1, h'.2.1⟩
  unfold day; omega
theorem day_month (y m d m' d' : Int) (h : V y m d) (h' : V y m' d') (hm : m < m') : day y m d < day y m' d' := by
  unfold V at h h'
  have := cum_lt y m m' (by omega)
  unfold day; omega
/-- a day has one date -/
theorem day_inj (y m d y' m' d' : Int) (h : V y m d) (h' : V y' m' d') (e : day y m d = day y' m' d') : y = y' ∧ m = m' ∧ d = d' := by
  have e1 : y = y' := by
    rcases Int.lt_trichotomy y y' with g | g | g
    · have := day_year _ _ _ _ _ _ h h' g; omega
    · exact g
    · have := day_year _ _ _ _ _ _ h' h g; omega
  subst e1
  have e2 : m = m' := by
    rcases Int.lt_trichotomy m m' with g | g | g
    · have := day_month _ _ _ _ _ h h' g; omega
    · exact g
    · have := day_month _ _ _ _ _ h' h g; omega
  subst e2
  refine ⟨rfl, rfl, ?_⟩
  unfold day at e; omega

/-- the year of a day of a cycle that begins on March 1 -/
def yoe (r : Int) : Int := (r - r / 1460 + r / 36524 - r / 146096) / 365
/-- days in front of March 1 of a year of the cycle -/
def mar (k : Int) : Int := 365 * k + k / 4 - k / 100
theorem yoe_lo (r : Int) (h : 0 ≤ r ∧ r ≤ 146096) : 0 ≤ yoe r ∧ yoe r ≤ 399 := by unfold yoe; omega
theorem yoe_core (r c q s t k : Int) (hr : r = 36524 * c + 1461 * q + s) (hc : 0 ≤ c ∧ c ≤ 3) (hq : 0 ≤ q ∧ q ≤ 24) (hs : 0 ≤ s ∧ s ≤ 1460) (h24 : q = 24 → s ≤ 1459)
    (ht : t = if 1460 ≤ 24 * c + q + s then 1 else 0) (hk : k = (s - t) / 365) : yoe r = 100 * c + 4 * q + k ∧ 0 ≤ k ∧ k ≤ 3 ∧ 365 * k ≤ s ∧ (k < 3 → s < 365 * k + 365) := by
  have e1 : r / 1460 = 25 * c + q + t := by split at ht <;> omega
  have e2 : r / 36524 = c := by omega
  have e3 : r / 146096 = 0 := by omega
  have e4 : yoe r = 100 * c + 4 * q + k := by
    unfold yoe; rw [e1, e2, e3]; omega
  refine ⟨e4, ?_⟩
  split at ht <;> omega
theorem yoe_ab (r : Int) (h : 0 ≤ r ∧ r ≤ 146096) : mar (yoe r) ≤ r ∧ (r < mar (yoe r + 1) ∨ (r = 146096 ∧ yoe r = 399)) := by
  by_cases hz : r = 146096
  · subst hz; decide
  · obtain ⟨e, h0, h3, ha, hb⟩ := yoe_core r (r / 36524) (r % 36524 / 1461) (r % 36524 % 1461) _ _ (by omega) (by omega) (by omega) (by omega) (by omega) rfl rfl
    generalize hk : (r % 36524 % 1461 - if 1460 ≤ 24 * (r / 36524) + r % 36524 / 1461 + r % 36524 % 1461 then 1 else 0) / 365 = k at *
    rw [e]; clear e hk
    have hr : r = 36524 * (r / 36524) + 1461 * (r % 36524 / 1461) + r % 36524 % 1461 := by omega
    have b1 : 0 ≤ r / 36524 ∧ r / 36524 ≤ 3 := by omega
    have b2 : 0 ≤ r % 36524 / 1461 ∧ r % 36524 / 1461 ≤ 24 := by omega
    have b3 : 0 ≤ r % 36524 % 1461 ∧ r % 36524 % 1461 ≤ 1460 := by omega
    have b4 : r % 36524 / 1461 = 24 → r % 36524 % 1461 ≤ 1459 := by omega
    generalize r / 36524 = c at *
    generalize r % 36524 / 1461 = q at *
    generalize r % 36524 % 1461 = s at *
    subst hr
    have d1 : (100 * c + 4 * q + k) / 4 = 25 * c + q := by omega
    have d2 : (100 * c + 4 * q + k) / 100 = c := by omega
    unfold mar; rw [d1, d2]
    refine ⟨by omega, Or.inl ?_⟩
    by_cases hk3 : k = 3
    · subst hk3
      have d3 : (100 * c + 4 * q + 3 + 1) / 4 = 25 * c + q + 1 := by omega
      rw [d3]
      by_cases hq : q = 24
      · have d4 : (100 * c + 4 * q + 3 + 1) / 100 = c + 1 := by omega
        rw [d4]; omega
      · have d4 : (100 * c + 4 * q + 3 + 1) / 100 = c := by omega
        rw [d4]; omega
    · have d3 : (100 * c + 4 * q + k + 1) / 4 = 25 * c + q := by omega
      have d4 : (100 * c + 4 * q + k + 1) / 100 = c := by omega
      rw [d3, d4]; omega
/-- the parts of a date, by the day -/
def dr (n : Int) : Int := (n + 719468) % 146097
def dc (n : Int) : Int := (n + 719468) / 146097
def dk (n : Int) : Int := yoe (dr n)
def dd (n : Int) : Int := dr n - mar (dk n)
def di (n : Int) : Int := (5 * dd n + 2) / 153
def dM (n : Int) : Int := if di n < 10 then di n + 3 else di n - 9
def dD (n : Int) : Int := dd n - (153 * di n + 2) / 5 + 1
def dY (n : Int) : Int := dk n + dc n * 400 + if dM n ≤ 2 then 1 else 0
/-- the month and the day of the month, by the day of the year that begins in March -/
def mM (e : Int) : Int := if (5 * e + 2) / 153 < 10 then (5 * e + 2) / 153 + 3 else (5 * e + 2) / 153 - 9
def mD (e : Int) : Int := e - (153 * ((5 * e + 2) / 153) + 2) / 5 + 1
theorem dr_bd (n : Int) : 0 ≤ dr n ∧ dr n ≤ 146096 := by unfold dr; omega
theorem dk_bd (n : Int) : 0 ≤ dk n ∧ dk n ≤ 399 := yoe_lo _ (dr_bd n)
theorem dd_bd (n : Int) : 0 ≤ dd n ∧ dd n ≤ 365 := by
  obtain ⟨a, b⟩ := yoe_ab _ (dr_bd n)
  have hk := dk_bd n
  rcases b with b | ⟨b, c⟩
  · unfold dd dk at *; generalize yoe (dr n) = k at *; unfold mar at *; omega
  · unfold dd dk; rw [b]; decide
theorem di_cases (n : Int) : di n = 0 ∨ di n = 1 ∨ di n = 2 ∨ di n = 3 ∨ di n = 4 ∨ di n = 5 ∨ di n = 6 ∨ di n = 7 ∨ di n = 8 ∨ di n = 9 ∨ di n = 10 ∨ di n = 11 := by
  have := dd_bd n; unfold di; omega
theorem dM_bd (n : Int) : 1 ≤ dM n ∧ dM n ≤ 12 := by have := di_cases n; unfold dM; split <;> omega
theorem dD_bd (n : Int) : 1 ≤ dD n ∧ dD n ≤ 31 := by have := dd_bd n; have := di_cases n; unfold dD; unfold di at *; omega
theorem ys_lp (y : Int) : ys y + lp y = 365 * y + y / 4 - y / 100 + y / 400 - 719527 := by rw [lp_eq]; unfold ys; split <;> omega
theorem ys_mar (k c : Int) (hk : 0 ≤ k ∧ k ≤ 399) : ys (k + c * 400) + lp (k + c * 400) = mar k + 146097 * c - 719527 := by
  rw [ys_lp]; unfold mar
  have a1 : (k + c * 400) / 4 = k / 4 + 100 * c := by omega
  have a2 : (k + c * 400) / 100 = k / 100 + 4 * c := by omega
  have a3 : (k + c * 400) / 400 = c := by omega
  rw [a1, a2, a3]; omega
theorem mar_succ (k : Int) : mar (k + 1) = mar k + 365 + (if (k + 1) % 4 = 0 then 1 else 0) - (if (k + 1) % 100 = 0 then 1 else 0) := by
  unfold mar
  have a1 : (k + 1) / 4 = k / 4 + (if (k + 1) % 4 = 0 then 1 else 0) := by split <;> omega
  have a2 : (k + 1) / 100 = k / 100 + (if (k + 1) % 100 = 0 then 1 else 0) := by split <;> omega
  rw [a1, a2]; omega
theorem lp_of (k c : Int) : lp (k + c * 400 + 1) = if (k + 1) % 4 = 0 ∧ ((k + 1) % 100 ≠ 0 ∨ (k + 1) % 400 = 0) then 1 else 0 := by
  rw [lp_eq]; split <;> split <;> omega
/-- the date of a day is a date, and that of the day -/
theorem date_day (n : Int) : day (dY n) (dM n) (dD n) = n ∧ 1 ≤ dM n ∧ dM n ≤ 12 ∧ 1 ≤ dD n ∧ dD n ≤ len (dY n) (dM n) := by
  have hd := dd_bd n; have hk := dk_bd n; have hr := dr_bd n; have hm := dM_bd n; have hD := dD_bd n
  obtain ⟨a, b⟩ := yoe_ab _ hr
  change mar (dk n) ≤ dr n at a
  change dr n < mar (dk n + 1) ∨ (dr n = 146096 ∧ dk n = 399) at b
  have hn : n + 719468 = 146097 * dc n + dr n := by unfold dc dr; omega
  have hdd : dd n = dr n - mar (dk n) := rfl
  have hi : di n = (5 * dd n + 2) / 153 := rfl
  have hD' : dD n = dd n - (153 * di n + 2) / 5 + 1 := rfl
  have hY : dY n = dk n + dc n * 400 + if dM n ≤ 2 then 1 else 0 := rfl
  have hM : dM n = if di n < 10 then di n + 3 else di n - 9 := rfl
  have hi' := di_cases n
  generalize dY n = Y at *; generalize dM n = M at *; generalize dD n = D at *; generalize di n = i at *; generalize dd n = e at *; generalize dc n = c at *; generalize dr n = r at *; generalize dk n = k at *
  have hms := ys_mar k c hk
  have hlp := lp_01 (k + c * 400)
  refine ⟨?_, hm.1, hm.2, hD.1, ?_⟩
  · rcases hi' with h | h | h | h | h | h | h | h | h | h | h | h <;> subst h <;> simp at hM <;> subst hM <;> simp at hY <;> subst hY <;> simp [day, cum, tab] <;> first | omega | (rw [ys_succ]; omega)
  · have hs := mar_succ k
    have hl := lp_of k c
    rcases hi' with h | h | h | h | h | h | h | h | h | h | h | h <;> subst h <;> simp at hM <;> subst hM <;> simp at hY <;> subst hY <;> simp [len, tab] <;> omega
theorem day_year_bd (y m d : Int) (hm : 1 ≤ m ∧ m ≤ 12) (hd : 1 ≤ d ∧ d ≤ len y m) : ys y ≤ day y m d ∧ day y m d < ys (y + 1) := by
  have := cum_bd y m hm; rw [ys_succ]; unfold day; omega
theorem date_in (n : Int) : (-730485719528 ≤ n ∧ n ≤ 730484280837) ↔ (-2000000000 ≤ dY n ∧ dY n ≤ 2000000000) := by
  obtain ⟨e, m1, m2, d1, d2⟩ := date_day n
  have hb := day_year_bd (dY n) (dM n) (dD n) ⟨m1, m2⟩ ⟨d1, d2⟩
  rw [e] at hb
  have a1 := ys_mono (dY n + 1) (-2000000000)
  have a2 := ys_mono (-2000000000) (dY n)
  have a3 := ys_mono (dY n + 1) 2000000001
  have a4 := ys_mono 2000000001 (dY n)
  have c1 : ys (-2000000000) = -730485719528 := by decide
  have c2 : ys 2000000001 = 730484280838 := by decide
  omega
theorem date_out (n : Int) : (n < -730485719528 → dY n < -2000000000) ∧ (730484280837 < n → 2000000000 < dY n) := by
  obtain ⟨e, m1, m2, d1, d2⟩ := date_day n
  have hb := day_year_bd (dY n) (dM n) (dD n) ⟨m1, m2⟩ ⟨d1, d2⟩
  rw [e] at hb
  have a2 := ys_mono (-2000000000) (dY n)
  have a3 := ys_mono (dY n + 1) 2000000001
  have c1 : ys (-2000000000) = -730485719528 := by decide
  have c2 : ys 2000000001 = 730484280838 := by decide
  omega
theorem date_V (n : Int) : V (dY n) (dM n) (dD n) := (date_day n).2
theorem date_ok (n : Int) (h : -730485719528 ≤ n ∧ n ≤ 730484280837) : okB (dY n) (dM n) (dD n) = true := by
  have := (date_in n).1 h
  obtain ⟨e, m1, m2, d1, d2⟩ := date_day n
  rw [okB_iff]; omega
theorem day_in (y m d : Int) (h : okB y m d = true) : -730485719528 ≤ day y m d ∧ day y m d ≤ 730484280837 := by
  have hm := ok_m y m d h
  rw [okB_iff] at h
  have hb := day_year_bd y m d hm ⟨h.2.2.1, h.2.2.2⟩
  have a := ys_mono (-2000000000) y h.1
  have b := ys_mono (y + 1) 2000000001 (by omega)
  have c1 : ys (-2000000000) = -730485719528 := by decide
  have c2 : ys 2000000001 = 730484280838 := by decide
  omega
/-- the date of the day of a date -/
theorem day_date (y m d : Int) (h : okB y m d = true) : dY (day y m d) = y ∧ dM (day y m d) = m ∧ dD (day y m d) = d :=
  day_inj _ _ _ _ _ _ (date_V _) (ok_V _ _ _ h) (date_day _).1
/-- the year of a day is the only one in which it is -/
theorem dY_uniq (n y : Int) (h : ys y ≤ n ∧ n < ys (y + 1)) : dY n = y := by
  obtain ⟨e, m1, m2, d1, d2⟩ := date_day n
  have hb := day_year_bd (dY n) (dM n) (dD n) ⟨m1, m2⟩ ⟨d1, d2⟩
  rw [e] at hb
  have a := ys_mono (dY n + 1) y
  have b := ys_mono (y + 1) (dY n)
  omega
/-- the day behind another one -/
def nxY (y m d : Int) : Int := if d < len y m then y else if m < 12 then y else y + 1
def nxM (y m d : Int) : Int := if d < len y m then m else if m < 12 then m + 1 else 1
def nxD (y m d : Int) : Int := if d < len y m then d + 1 else 1
theorem len_pos (y m : Int) (h : 1 ≤ m ∧ m ≤ 12) : 1 ≤ len y m := by have := len_bd y m h; omega
theorem next_day (y m d : Int) (hm : 1 ≤ m ∧ m ≤ 12) (hd : 1 ≤ d ∧ d ≤ len y m) : day (nxY y m d) (nxM y m d) (nxD y m d) = day y m d + 1 ∧ 1 ≤ nxM y m d ∧ nxM y m d ≤ 12 ∧ 1 ≤ nxD y m d ∧ nxD y m d ≤ len (nxY y m d) (nxM y m d) := by
  unfold nxY nxM nxD
  by_cases h : d < len y m
  · simp only [h, if_true]; unfold day; omega
  · simp only [h, if_false]
    by_cases h' : m < 12
    · simp only [h', if_true]
      have := cum_succ y m (by omega); have := len_pos y (m + 1) (by omega)
      unfold day; omega
    · simp only [h', if_false]
      obtain rfl : m = 12 := by omega
      have := cum_end y; have := ys_succ y; have := cum_one (y + 1); have := len_pos (y + 1) 1 (by omega)
      unfold day; omega
theorem date_next (n : Int) : dY (n + 1) = nxY (dY n) (dM n) (dD n) ∧ dM (n + 1) = nxM (dY n) (dM n) (dD n) ∧ dD (n + 1) = nxD (dY n) (dM n) (dD n) := by
  have h := date_day n
  obtain ⟨e, m1, m2, d1, d2⟩ := h
  obtain ⟨f, w⟩ := next_day (dY n) (dM n) (dD n) ⟨m1, m2⟩ ⟨d1, d2⟩
  exact day_inj _ _ _ _ _ _ (date_V _) w (by rw [f, e, (date_day _).1])
/-- the weekday of a day -/
def wd (n : Int) : Int := (n + 4) % 7
/-- the year of a second -/
def yr (t : Int) : Int := if dY (t / 86400) < -2000000000 then -2000000000 else if 2000000000 < dY (t / 86400) then 2000000000 else dY (t / 86400)
theorem tm_eq (a b : Int) (hb : 0 < b) : a.tmod b = if 0 ≤ a ∨ a % b = 0 then a % b else a % b - b := by
  rw [Int.tmod_eq_emod]
  by_cases h : 0 ≤ a ∨ b ∣ a
  · rw [if_pos h, if_pos (by rcases h with h | h; exact Or.inl h; exact Or.inr (Int.emod_eq_zero_of_dvd h))]; simp
  · rw [if_neg h, if_neg (by intro g; apply h; rcases g with g | g; exact Or.inl g; exact Or.inr (Int.dvd_of_emod_eq_zero g))]; omega
theorem td_eq (a b : Int) (hb : 0 < b) : a.tdiv b = if 0 ≤ a ∨ a % b = 0 then a / b else a / b + 1 := by
  rw [Int.tdiv_eq_ediv]
  by_cases h : 0 ≤ a ∨ b ∣ a
  · rw [if_pos h, if_pos (by rcases h with h | h; exact Or.inl h; exact Or.inr (Int.emod_eq_zero_of_dvd h))]; simp
  · rw [if_neg h, if_neg (by intro g; apply h; rcases g with g | g; exact Or.inl g; exact Or.inr (Int.dvd_of_emod_eq_zero g)), Int.sign_eq_one_of_pos hb]
theorem fl_neg (a b : Int) (hb : 0 < b) (h : a.tmod b < 0) : a.tdiv b - 1 = a / b := by
  rw [tm_eq a b hb] at h; rw [td_eq a b hb]
  have := Int.emod_nonneg a (by omega : b ≠ 0)
  split at h
  · omega
  · rw [if_neg ‹_›]; omega
theorem fl_pos (a b : Int) (hb : 0 < b) (h : 0 ≤ a.tmod b) : a.tdiv b = a / b := by
  rw [tm_eq a b hb] at h; rw [td_eq a b hb]
  have := Int.emod_lt_of_pos a hb
  split at h
  · rw [if_pos ‹_›]
  · omega
theorem div_bd (a b : Int) (ha : -9223372036854775808 ≤ a ∧ a ≤ 9223372036854775807) (hb : 2 ≤ b) : -4611686018427387904 ≤ a / b ∧ a / b ≤ 4611686018427387904 := by
  constructor
  · exact (Int.le_ediv_iff_mul_le (by omega)).2 (by have : 4611686018427387904 * 2 ≤ 4611686018427387904 * b := Int.mul_le_mul_of_nonneg_left hb (by omega)
                                                    have e : -4611686018427387904 * b = -(4611686018427387904 * b) := by rw [Int.neg_mul]
                                                    omega)
  · have : a / b < 4611686018427387905 := Int.ediv_lt_of_lt_mul (by omega) (by have : 4611686018427387905 * 2 ≤ 4611686018427387905 * b := Int.mul_le_mul_of_nonneg_left hb (by omega)
                                                                               omega)
    omega
end Go.Proofs.YtedcfnaphfgfjaaDoor.Cal
