/- The contracts of the document's own answers for layer 1: dates of days. -/
import Derived.Test.YtllnimenbopcjaaDoorRef01
namespace Go.Proofs.YtllnimenbopcjaaDoor
open Go.RowKit

theorem year_start (n : Int) : n - n / 146097 * 146097 + 719528 = n - Cal.ys (n / 146097 * 400) ∧ 719528 ≤ n - n / 146097 * 146097 + 719528 ∧ n - n / 146097 * 146097 + 719528 ≤ 865624 := by
  rw [Cal.ys_cycle]; omega
theorem rest_wrap (n : Int) (_h : -9223372036854775808 ≤ n ∧ n ≤ 9223372036854775807) : wrap64 (wrap64 (n - wrap64 (n / 146097 * 146097)) + 719528) = n - n / 146097 * 146097 + 719528 := by
  unfold wrap64; omega
theorem ryear_any (n : Int) (w : World) (h : -9223372036854775808 ≤ n ∧ n ≤ 9223372036854775807) : Calls Tryd.prog 29 #[.int .i64 n] w fun e w' => e = .returned (.tuple #[.int .i64 (Cal.dY n), .int .i64 (n - Cal.ys (Cal.dY n))]) ∧ w = w' := by
  have h1 := rest_wrap n h
  have h2 := year_start n
  have H1 := Lib.hid h1
  have H2 := Lib.hid h2
  have hb := Cal.div_bd n 146097 h (by omega)
  have hb2 : -70000000000000 ≤ n / 146097 ∧ n / 146097 ≤ 70000000000000 := by omega
  have BN := Lib.hid h
  clear h1 h2 hb h
  go_enter Tryd.func29, Tryd.ntmps29
  go_wp2_with (go_at_call 30; refine (rfloor_any _ _ _ BN.out (by omega)).mono ?_; rintro e w' ⟨rfl, rfl⟩)
  rw [H1.out]
  have hr := H2.out
  obtain ⟨e1, e2, e3⟩ := hr
  clear H1 H2 BN
  have c1 : -30000000000000000 ≤ n / 146097 * 400 ∧ n / 146097 * 400 ≤ 30000000000000000 := by omega
  generalize n - n / 146097 * 146097 + 719528 = r0 at *
  generalize n / 146097 * 400 = z0 at *
  have E1 := Lib.hid e1
  clear e1 hb2
  go_loop [5, 6] (fun s i => ∃ r z : Int, s = .int .i64 r ∧ i = .int .i64 z ∧ 0 ≤ r ∧ z0 ≤ z ∧ z - z0 + r ≤ 865624 ∧ RestIs n z r) (fun s _ => (intOf s).toNat)
  case atStart => exact ⟨r0, z0, rfl, rfl, by omega, by omega, by omega, E1.out⟩
  case round =>
    obtain ⟨r, z, rfl, rfl, hr0, hz0, hrz, hd⟩ := hrel
    have D := Lib.hid hd
    have bl := Cal.lp_01 z
    have hs := Cal.ys_succ z
    have HS := Lib.hid hs
    clear hd hs
    by_cases hlt : 365 + Cal.lp z ≤ r
    · go_wp2_with (go_at_call 31; refine (rsize_any _ _).mono ?_; rintro e w' ⟨rfl, rfl⟩)
      go_round
      case rel => exact ⟨_, z + 1, rfl, rfl, by omega, by omega, by omega, by have := D.out; unfold RestIs at *; rw [HS.out]; omega⟩
      case measure => simp [intOf]; omega
    · have hu : Cal.dY n = z := Cal.dY_uniq n z (by have := D.out; unfold RestIs at this; rw [HS.out]; omega)
      have HU := Lib.hid hu
      clear hu
      go_wp2_with (go_at_call 31; refine (rsize_any _ _).mono ?_; rintro e w' ⟨rfl, rfl⟩)
      go_ret2
      exact ⟨ret_two HU.out.symm (by rw [HU.out]; exact D.out), rfl⟩
theorem ryear_at (n y f : Int) (hy : Cal.dY n = y) (hf : Cal.ys y = f) (w : World) (h : -9223372036854775808 ≤ n ∧ n ≤ 9223372036854775807) : Calls Tryd.prog 29 #[.int .i64 n] w fun e w' => e = .returned (.tuple #[.int .i64 y, .int .i64 (n - f)]) ∧ w = w' := by
  subst hy hf; exact ryear_any n w h
theorem rdate_no (n : Int) (w : World) (hn : -9223372036854775808 ≤ n ∧ n ≤ 9223372036854775807) (h : n < -730485719528 ∨ 730484280837 < n) : Calls Tryd.prog 19 #[.int .i64 n] w fun e w' => e = .returned (.tuple #[.int .i64 0, .int .i64 0, .int .i64 0, .int .i64 3]) ∧ w = w' := by
  have hy : Cal.dY n < -2000000000 ∨ 2000000000 < Cal.dY n := by
    have := Cal.date_out n; rcases h with h | h; exact .inl (this.1 h); exact .inr (this.2 h)
  generalize hk : Cal.dY n = y at *
  have HK := Lib.hid hk
  have HY := Lib.hid hy
  have HN := Lib.hid hn
  clear hk hn hy h
  go_enter Tryd.func19, Tryd.ntmps19
  go_wp2_with (first | (go_at_call 29; refine (ryear_at _ _ _ HK.out rfl _ HN.out).mono ?_; rintro e w' ⟨rfl, rfl⟩) | (go_at_call 25; refine (rin_no _ _ HY.out).mono ?_; rintro e w' ⟨rfl, rfl⟩))
  refine bodyPost_ret (results_tmp4 rfl _ _ _) rfl ?_
  exact ⟨rfl, rfl⟩
theorem rdate_yes (n : Int) (w : World) (h : -730485719528 ≤ n ∧ n ≤ 730484280837) : Calls Tryd.prog 19 #[.int .i64 n] w fun e w' => e = .returned (.tuple #[.int .i64 (Cal.dY n), .int .i64 (Cal.dM n), .int .i64 (Cal.dD n), .int .i64 0]) ∧ w = w' := by
  have hy := (Cal.date_in n).1 h
  have hv := Cal.date_V n
  have hb := Cal.date_day n
  have hq := Cal.day_year_bd (Cal.dY n) (Cal.dM n) (Cal.dD n) ⟨hv.1, hv.2.1⟩ hv.2.2
  rw [hb.1, Cal.ys_succ] at hq
  have hu : ∀ m d, Cal.V (Cal.dY n) m d → Cal.day (Cal.dY n) m d = n → m = Cal.dM n ∧ d = Cal.dD n := fun m d v e => (Cal.day_inj _ _ _ _ _ _ v hv (e.trans hb.1.symm)).2
  have HU := Lib.hid hu
  have HN : Hid (-9223372036854775808 ≤ n ∧ n ≤ 9223372036854775807) := Lib.hid (by omega)
  clear hv hb hu
  generalize hk : Cal.dY n = y at *
  generalize hf : Cal.ys y = f at *
  have HK := Lib.hid hk
  have HF := Lib.hid hf
  have HY := Lib.hid hy
  have lp := Cal.lp_01 y
  clear hk hf hy
  go_enter Tryd.func19, Tryd.ntmps19
  go_wp2_with (first | (go_at_call 29; refine (ryear_at _ _ _ HK.out HF.out _ HN.out).mono ?_; rintro e w' ⟨rfl, rfl⟩) | (go_at_call 25; refine (rin_yes _ _ HY.out).mono ?_; rintro e w' ⟨rfl, rfl⟩))
  go_loop [7, 8] (fun s i => ∃ r k : Int, s = .int .i64 r ∧ i = .int .i64 k ∧ 1 ≤ k ∧ k ≤ 12 ∧ 0 ≤ r ∧ r + Cal.cum y k < 365 + Cal.lp y ∧ MonIs n y k r) (fun s _ => (intOf s).toNat)
  case atStart => exact ⟨_, 1, rfl, rfl, by omega, by omega, by omega, by rw [Cal.cum_one]; omega, by unfold MonIs; rw [Cal.cum_one, HF.out]; omega⟩
  case round =>
    obtain ⟨r, k, rfl, rfl, hk1, hk2, hr0, hr1, hd⟩ := hrel
    have D := Lib.hid hd
    have lb := Cal.len_bd y k (by omega)
    have cb := Cal.cum_bd y k (by omega)
    clear hd
    by_cases hlt : Cal.len y k ≤ r
    · have k11 : k ≤ 11 := by
        by_cases e : k = 12
        · subst e; have := Cal.cum_end y; omega
        · omega
      have cs := Cal.cum_succ y k (by omega)
      have CS := Lib.hid cs
      clear cs
      go_wp2_with (go_at_call 16; refine (rlen_any _ _ _).mono ?_; rintro e w' ⟨rfl, rfl⟩)
      go_round
      case rel => exact ⟨_, k + 1, rfl, rfl, by omega, by omega, by omega, by rw [CS.out]; omega, by have := D.out; unfold MonIs at *; rw [CS.out]; omega⟩
      case measure => simp [intOf]; omega
    · have hu := HU.out k (r + 1) ⟨by omega, by omega, by omega, by omega⟩ (by have := D.out; unfold MonIs at this; unfold Cal.day; omega)
      have HU2 := Lib.hid hu
      clear hu
      go_wp2_with (go_at_call 16; refine (rlen_any _ _ _).mono ?_; rintro e w' ⟨rfl, rfl⟩)
      refine bodyPost_ret (results_tmp4 rfl _ _ _) rfl ?_
      exact ⟨ret_four rfl HU2.out.1 HU2.out.2 rfl, rfl⟩
theorem ryr_any (t : Int) (w : World) (h : -9223372036854775808 ≤ t ∧ t ≤ 9223372036854775807) : Calls Tryd.prog 23 #[.int .i64 t] w fun e w' => e = .returned (.int .i64 (Cal.yr t)) ∧ w = w' := by
  have hy : Cal.yr t = if Cal.dY (t / 86400) < -2000000000 then -2000000000 else if 2000000000 < Cal.dY (t / 86400) then 2000000000 else Cal.dY (t / 86400) := rfl
  have hb := Cal.div_bd t 86400 h (by omega)
  have HB : Hid (-9223372036854775808 ≤ t / 86400 ∧ t / 86400 ≤ 9223372036854775807) := Lib.hid (by omega)
  have HT := Lib.hid h
  clear hb h
  generalize hk : Cal.dY (t / 86400) = y at *
  have HK := Lib.hid hk
  have HY := Lib.hid hy
  clear hk hy
  by_cases h1 : y < -2000000000
  · have e := HY.out
    rw [if_pos h1] at e
    have E := Lib.hid e
    clear e
    go_enter Tryd.func23, Tryd.ntmps23
    go_wp2_with (first | (go_at_call 30; refine (rfloor_any _ _ _ HT.out (by omega)).mono ?_; rintro e w' ⟨rfl, rfl⟩) | (go_at_call 29; refine (ryear_at _ _ _ HK.out rfl _ HB.out).mono ?_; rintro e w' ⟨rfl, rfl⟩))
    go_ret
    exact ⟨ret_int E.out.symm, rfl⟩
  · by_cases h2 : 2000000000 < y
    · have e := HY.out
      rw [if_neg h1, if_pos h2] at e
      have E := Lib.hid e
      clear e
      go_enter Tryd.func23, Tryd.ntmps23
      go_wp2_with (first | (go_at_call 30; refine (rfloor_any _ _ _ HT.out (by omega)).mono ?_; rintro e w' ⟨rfl, rfl⟩) | (go_at_call 29; refine (ryear_at _ _ _ HK.out rfl _ HB.out).mono ?_; rintro e w' ⟨rfl, rfl⟩))
      go_ret
      exact ⟨ret_int E.out.symm, rfl⟩
    · have e := HY.out
      rw [if_neg h1, if_neg h2] at e
      have E := Lib.hid e
      clear e
      go_enter Tryd.func23, Tryd.ntmps23
      go_wp2_with (first | (go_at_call 30; refine (rfloor_any _ _ _ HT.out (by omega)).mono ?_; rintro e w' ⟨rfl, rfl⟩) | (go_at_call 29; refine (ryear_at _ _ _ HK.out rfl _ HB.out).mono ?_; rintro e w' ⟨rfl, rfl⟩))
      go_ret
      exact ⟨ret_int E.out.symm, rfl⟩
end Go.Proofs.YtllnimenbopcjaaDoor
