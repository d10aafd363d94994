/- The walk of DayformWeekdays: it returns true. -/
import Derived.Test.YtdlclpkhjblgjaaDoorLaw02b
import Derived.StillTailTactics
import Derived.IntWalk
import Derived.OpenShut
namespace Go.Proofs.YtdlclpkhjblgjaaDoor
open Go.RowKit

theorem weekday_st (n r : Int) (hr : Cal.wd n = r) (w : World) : Calls Tryd.prog 20 #[.int .i64 n] w fun e w' => e = .returned (.int .i64 r) ∧ w' = w := (weekday_at n r hr w).mono fun _ _ ⟨a, b⟩ => ⟨a, b.symm⟩
/-- what the statement asks of the day x of a form -/
theorem wk_facts (y m k wk d : Int) (h : Cal.okB y m 1 = true) (hok : Dfm.okD k wk d = true) (hl : d ≤ Cal.len y m) (x f n : Int) (hx : Dfm.va y m k wk d = x) (hf : Cal.day y m 1 = f) (hn : Cal.len y m = n) :
    Dfm.er y m k wk d = 0 ∧ (k = 1 → x = f + d - 1) ∧ (k = 3 → f + d - 1 ≤ x ∧ x < f + d - 1 + 7 ∧ Cal.wd x = wk) ∧ (k = 2 → x ≤ f + n - 1 ∧ f + n - 1 - 7 < x ∧ Cal.wd x = wk) ∧ (k = 4 → x ≤ f + d - 1 ∧ f + d - 1 - 7 < x ∧ Cal.wd x = wk) := by
  have e : Dfm.er y m k wk d = 0 := by simp [Dfm.er, h, hok]; omega
  have hb := Dfm.ok_bd _ _ _ hok
  have e1 := Dfm.day_lin y m d
  have e2 := Dfm.day_lin y m (Cal.len y m)
  have w2 := Dfm.ob_wd (Cal.day y m (Cal.len y m)) wk (by omega)
  have w3 := Dfm.ob_wd (Cal.day y m d + 6) wk (by omega)
  have w4 := Dfm.ob_wd (Cal.day y m d) wk (by omega)
  subst hf hn
  refine ⟨e, ?_, ?_, ?_, ?_⟩ <;> intro hk <;> subst hk <;> simp [Dfm.va, e, Dfm.on] at hx <;> subst hx
  · omega
  · exact ⟨by omega, by omega, w3.1⟩
  · exact ⟨by omega, by omega, w2.1⟩
  · exact ⟨by omega, by omega, w4.1⟩
set_option maxRecDepth 100000 in
set_option maxHeartbeats 1000000 in
theorem wkd_core (K W D Y M k wk d y f n x e0 : Int) (hK : 0 ≤ K ∧ K ≤ 255) (hW : 0 ≤ W ∧ W ≤ 255) (hD : 0 ≤ D ∧ D ≤ 255) (hY : -2147483648 ≤ Y ∧ Y ≤ 2147483647) (hM : 0 ≤ M ∧ M ≤ 255) (h1 : Dfm.mK K = k) (h2 : Dfm.mW K W = wk) (h3 : Dfm.mD K D = d) (h4 : Dfm.cl Y = y)
    (hf : Cal.okB y (1 + M % 12) 1 = true ∧ Cal.day y (1 + M % 12) 1 = f) (hn : Cal.len y (1 + M % 12) = n) (hok : Dfm.okD k wk d = true) (hx : Dfm.va y (1 + M % 12) k wk d = x) (he : Dfm.er y (1 + M % 12) k wk d = e0)
    (hnb : 28 ≤ n ∧ n ≤ 31) (hfb : -730485719528 ≤ f ∧ f ≤ 730484280837) (hdb : 0 ≤ d ∧ d ≤ 31)
    (hc : (n < d ∧ e0 = 4 ∧ x = 0) ∨ (d ≤ n ∧ e0 = 0 ∧ k = 1 ∧ x = f + d - 1) ∨ (d ≤ n ∧ e0 = 0 ∧ k = 3 ∧ f + d - 1 ≤ x ∧ x < f + d - 1 + 7 ∧ Cal.wd x = wk) ∨ (d ≤ n ∧ e0 = 0 ∧ k = 2 ∧ x ≤ f + n - 1 ∧ f + n - 1 - 7 < x ∧ Cal.wd x = wk) ∨ (d ≤ n ∧ e0 = 0 ∧ k = 4 ∧ x ≤ f + d - 1 ∧ f + d - 1 - 7 < x ∧ Cal.wd x = wk))
    (W0 : World) (hT : TabW W0) :
    Calls Tryd.prog 5 #[.agg #[.int .u8 K, .int .u8 W, .int .u8 D], .int .i32 Y, .int .u8 M] W0 fun e w' => e = .returned (.bool true) ∧ Below W0.heap.size W0 w' := by
  have HC := Lib.hid (Gs.mk0 hT)
  have H := Lib.hid (And.intro h1 (And.intro h2 (And.intro h3 h4)))
  have HF := Lib.hid hf
  have HN := Lib.hid hn
  have HK : Hid ((if Dfm.okD k wk d = true then (0 : Int) else 2) = 0) := Lib.hid (by rw [hok]; rfl)
  have HX := Lib.hid (And.intro hx he)
  have BD := Lib.hid (And.intro hK (And.intro hW (And.intro hD hY)))
  clear hT h1 h2 h3 h4 hf hn hok hx he hK hW hD hY
  rcases hc with ⟨c1, rfl, rfl⟩ | ⟨c1, rfl, rfl, c2⟩ | ⟨c1, rfl, rfl, c2, c3, c4⟩ | ⟨c1, rfl, rfl, c2, c3, c4⟩ | ⟨c1, rfl, rfl, c2, c3, c4⟩
  all_goals
    go_enter Tryd.func5, Tryd.ntmps5
    go_wp2_with fail
    refine (made_at _ _ _ _ _ _ BD.out.1 BD.out.2.1 BD.out.2.2.1 H.out.1 H.out.2.1 H.out.2.2.1 _).mono ?_; rintro e w1 ⟨rfl, hb⟩; replace HC := Gs.hbl (Gs.hal HC _) hb; clear hb
    go_wp2_with fail
    refine (year2_at _ _ H.out.2.2.2 BD.out.2.2.2 _).mono ?_; rintro e w2 ⟨rfl, rfl⟩
    go_wp2_with fail
    refine (on_at _ _ _ _ _ _ _ HX.out.1 HX.out.2 (Gs.hal HC _)).mono ?_; rintro e w3 ⟨rfl, hb⟩; replace HC := Gs.hbl (Gs.hal HC _) hb
    have hs := Cs.hbl (Lib.hid (Cs.new w1 _ _)) hb
    clear hb
    generalize w1.heap.size = bs at *
    go_wp2_with fail
    refine (days_g _ _ _ _ HF.out.1 HF.out.2 HC).mono ?_; rintro e w4 ⟨rfl, hd⟩; replace HC := Gs.hdw HC hd; replace hs := Cs.hdw hs hd; clear hd
    go_wp2_with fail
    refine (len_g _ _ _ HN.out HC).mono ?_; rintro e w5 ⟨rfl, hd⟩; replace HC := Gs.hdw HC hd; replace hs := Cs.hdw hs hd; clear hd
    have p0 := hs.out.at 0 rfl
    have p1 := hs.out.at 1 rfl
    have p2 := hs.out.at 2 rfl
    go_wp2_with fail
    refine (check_at _ _ _ _ HK.out _).mono ?_; rintro e w6 ⟨rfl, hb⟩; replace HC := Gs.hbl HC hb; replace hs := Cs.hbl hs hb; clear hb p0 p1 p2
    have p0 := hs.out.at 0 rfl
    have p1 := hs.out.at 1 rfl
    have p2 := hs.out.at 2 rfl
  · go_wp2_with fail
    refine (works2_any HC).mono ?_; rintro e w7 ⟨rfl, hb⟩; replace HC := Gs.hbl HC hb; clear hb p0 p1 p2 hs
    go_wp2
    go_ret
    exact ⟨rfl, HC.out.1⟩
  · go_wp2_with fail
    refine (works2_any HC).mono ?_; rintro e w7 ⟨rfl, hb⟩; replace HC := Gs.hbl HC hb; clear hb p0 p1 p2 hs
    go_wp2
    go_ret
    exact ⟨rfl, HC.out.1⟩
  all_goals
    have C4 := Lib.hid c4
    clear c4
    have e7 : IntKind.i64.wrap (f + d - 1 + 7) = f + d - 1 + 7 := IntWalk.i64_in _ (by omega)
    have e8 : IntKind.i64.wrap (f + d - 1 - 7) = f + d - 1 - 7 := IntWalk.i64_in _ (by omega)
    have e9 : IntKind.i64.wrap (f + n - 1 - 7) = f + n - 1 - 7 := IntWalk.i64_in _ (by omega)
    go_wp2_with fail
    refine wp_region_still_tail 17 (by kernel_rfl) (by kernel_rfl) ?_
    simp only [List.take_succ_cons, List.take_zero, List.drop_succ_cons, List.drop_zero]
    repeat (first | still_step | still_call (weekday_st _ _ C4.out _))
    try refine wpStill_nil ?_
    go_wp2_with fail
    refine (works2_any (Gs.hdr HC)).mono ?_; rintro e w7 ⟨rfl, hb⟩; replace HC := Gs.hbl (Gs.hdr HC) hb; clear hb
    clear p0 p1 p2 hs
    go_wp2
    go_ret
    exact ⟨rfl, HC.out.1⟩
theorem wkd_walk (K : Int) (wK : (Lit.int .u8 K).wf = true) (W : Int) (wW : (Lit.int .u8 W).wf = true) (D : Int) (wD : (Lit.int .u8 D).wf = true) (Y : Int) (wY : (Lit.int .i32 Y).wf = true) (M : Int) (wM : (Lit.int .u8 M).wf = true) (W0 : World) (hT : TabW W0) :
    Calls Tryd.prog 5 #[.agg #[.int .u8 K, .int .u8 W, .int .u8 D], .int .i32 Y, .int .u8 M] W0 fun e w' => e = .returned (.bool true) ∧ Below W0.heap.size W0 w' := by
  have hK := bounds_u8 wK
  have hW := bounds_u8 wW
  have hD := bounds_u8 wD
  have hY := bounds_i32 wY
  have hM := bounds_u8 wM
  have hok := Dfm.made_ok K W D
  have hy := Dfm.cl_bd Y
  have h1 : Cal.okB (Dfm.cl Y) (1 + M % 12) 1 = true := (Dfm.ok1 _ _).2 (by omega)
  have hl := Cal.len_bd (Dfm.cl Y) (1 + M % 12) (by omega)
  have hf := Dfm.day1_bd _ _ h1
  have hd := Dfm.ok_bd _ _ _ hok
  refine wkd_core K W D Y M _ _ _ _ _ _ _ _ hK hW hD hY hM rfl rfl rfl rfl ⟨h1, rfl⟩ rfl hok rfl rfl hl hf (by omega) ?_ W0 hT
  by_cases hn : Dfm.mD K D ≤ Cal.len (Dfm.cl Y) (1 + M % 12)
  · right
    obtain ⟨e, q1, q3, q2, q4⟩ := wk_facts _ _ _ _ _ h1 hok hn _ _ _ rfl rfl rfl
    have hk := kk _ ⟨hd.1, hd.2.1⟩
    rcases hk with h | h | h | h
    · exact .inl ⟨hn, e, h, q1 h⟩
    · exact .inr (.inr (.inl ⟨hn, e, h, q2 h⟩))
    · exact .inr (.inl ⟨hn, e, h, q3 h⟩)
    · exact .inr (.inr (.inr ⟨hn, e, h, q4 h⟩))
  · left
    have e : Dfm.er (Dfm.cl Y) (1 + M % 12) (Dfm.mK K) (Dfm.mW K W) (Dfm.mD K D) = 4 := by simp [Dfm.er, h1, hok]; omega
    exact ⟨by omega, e, by simp [Dfm.va, e]⟩
end Go.Proofs.YtdlclpkhjblgjaaDoor
