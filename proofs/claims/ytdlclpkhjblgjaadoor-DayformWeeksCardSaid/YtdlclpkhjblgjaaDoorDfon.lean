/- The contracts of package dayform: Check, On, Always. -/
import Derived.Test.YtdlclpkhjblgjaaDoorDform
namespace Go.Proofs.YtdlclpkhjblgjaaDoor
open Go.RowKit

theorem check_at (k wk d r : Int) (hr : (if Dfm.okD k wk d = true then 0 else 2) = r) (w : World) : Calls Tryd.prog 11 #[.agg #[.int .i64 k, .int .i64 wk, .int .i64 d]] w fun e w' => e = .returned (.int .i64 r) ∧ Below w.heap.size w w' := by
  have HR := Lib.hid hr
  clear hr
  by_cases hk : 1 ≤ k ∧ k ≤ 4
  · have HK := Lib.hid hk
    clear hk
    generalize ho : Dfm.okD k wk d = ok at *
    generalize ha : Dfm.KW k = a at *
    generalize hb : Dfm.KL k = b at *
    generalize hc : Dfm.KM k = c at *
    generalize hf : KF k = f at *
    have H := Lib.hid (And.intro ho (And.intro ha (And.intro hb (And.intro hc hf))))
    clear ho ha hb hc hf
    cases ok
    all_goals
      go_enter Tryd.func11, Tryd.ntmps11
      go_wp2_with fail
      refine (kof_at k wk d a b c f _ HK.out H.out.1 H.out.2.1 H.out.2.2.1 H.out.2.2.2.1 H.out.2.2.2.2 _).mono ?_; rintro e w1 ⟨rfl, hb1⟩
      have HB := Lib.hid hb1
      clear hb1
      go_wp2
      go_ret
      exact ⟨ret_int (by simpa using HR.out), ((Below.refl _ _).alloc (Nat.le_refl _) _).trans ((HB.out.mono (by simp)).alloc (by have := HB.out.size; simp at this; omega) _)⟩
  · have hno : Dfm.okD k wk d = false := by
      cases h : Dfm.okD k wk d
      · rfl
      · have := Dfm.ok_bd _ _ _ h; omega
    have HN := Lib.hid hno
    have HK : Hid (k < 1 ∨ 4 < k) := Lib.hid (by omega)
    clear hno hk
    go_enter Tryd.func11, Tryd.ntmps11
    go_wp2_with fail
    refine (kof_no k wk d _ HK.out).mono ?_; rintro e w1 ⟨rfl, hb1⟩
    have HB := Lib.hid hb1
    clear hb1
    go_wp2
    go_ret
    exact ⟨ret_int (by have := HR.out; rw [HN.out] at this; simpa using this), ((Below.refl _ _).alloc (Nat.le_refl _) _).trans ((HB.out.mono (by simp)).alloc (by have := HB.out.size; simp at this; omega) _)⟩
theorem on_range (y m k wk d : Int) (h : Cal.okB y m 1 = false) (w : World) (ht : TabW w) : Calls Tryd.prog 9 #[.int .i64 y, .int .i64 m, .agg #[.int .i64 k, .int .i64 wk, .int .i64 d]] w fun e w' => e = .returned (.tuple #[.int .i64 0, .int .i64 3]) ∧ Below w.heap.size w w' := by
  have HC := Lib.hid (Gs.mk0 ht)
  have H := Lib.hid h
  clear ht h
  go_enter Tryd.func9, Tryd.ntmps9
  go_wp2_with fail
  refine (days_gno _ _ _ H.out (Gs.hal HC _)).mono ?_; rintro e w1 ⟨rfl, hd⟩; replace HC := Gs.hdw (Gs.hal HC _) hd; clear hd
  go_wp2
  go_ret2
  exact ⟨rfl, HC.out.1⟩
theorem on_arg (y m k wk d : Int) (h : Cal.okB y m 1 = true) (hok : Dfm.okD k wk d = false) (w : World) (ht : TabW w) : Calls Tryd.prog 9 #[.int .i64 y, .int .i64 m, .agg #[.int .i64 k, .int .i64 wk, .int .i64 d]] w fun e w' => e = .returned (.tuple #[.int .i64 0, .int .i64 2]) ∧ Below w.heap.size w w' := by
  have HC := Lib.hid (Gs.mk0 ht)
  have H := Lib.hid h
  have HK := Lib.hid hok
  clear ht h hok
  by_cases hk : 1 ≤ k ∧ k ≤ 4
  · have HK2 := Lib.hid hk
    clear hk
    go_enter Tryd.func9, Tryd.ntmps9
    go_wp2_with fail
    refine (days_g _ _ _ _ H.out rfl (Gs.hal HC _)).mono ?_; rintro e w1 ⟨rfl, hd⟩; replace HC := Gs.hdw (Gs.hal HC _) hd
    have hb := Cs.hdw (Lib.hid (Cs.new w [.int .i64 k, .int .i64 wk, .int .i64 d] 23)) hd
    have c0 := hb.out.at 0 rfl
    have c1 := hb.out.at 1 rfl
    have c2 := hb.out.at 2 rfl
    clear hd
    go_wp2_with fail
    refine (kof_at k wk d _ _ _ _ _ HK2.out HK.out rfl rfl rfl rfl _).mono ?_; rintro e w2 ⟨rfl, hb1⟩; replace HC := Gs.hbl HC hb1; clear hb1
    clear hb c0 c1 c2
    generalize Dfm.KW k = a1 at *
    generalize Dfm.KL k = a2 at *
    generalize Dfm.KM k = a3 at *
    generalize KF k = a4 at *
    generalize Cal.day y m 1 = a5 at *
    go_wp2
    go_ret2
    exact ⟨rfl, (HC.out.al _).1⟩
  · have HK2 : Hid (k < 1 ∨ 4 < k) := Lib.hid (by omega)
    clear hk
    go_enter Tryd.func9, Tryd.ntmps9
    go_wp2_with fail
    refine (days_g _ _ _ _ H.out rfl (Gs.hal HC _)).mono ?_; rintro e w1 ⟨rfl, hd⟩; replace HC := Gs.hdw (Gs.hal HC _) hd
    have hb := Cs.hdw (Lib.hid (Cs.new w [.int .i64 k, .int .i64 wk, .int .i64 d] 23)) hd
    have c0 := hb.out.at 0 rfl
    have c1 := hb.out.at 1 rfl
    have c2 := hb.out.at 2 rfl
    clear hd
    go_wp2_with fail
    refine (kof_no k wk d _ HK2.out).mono ?_; rintro e w2 ⟨rfl, hb1⟩; replace HC := Gs.hbl HC hb1; clear hb1
    clear hb c0 c1 c2
    generalize Cal.day y m 1 = a5 at *
    go_wp2
    go_ret2
    exact ⟨rfl, (HC.out.al _).1⟩
theorem on_none (y m k wk d : Int) (h : Cal.okB y m 1 = true) (hok : Dfm.okD k wk d = true) (hl : Cal.len y m < d) (w : World) (ht : TabW w) : Calls Tryd.prog 9 #[.int .i64 y, .int .i64 m, .agg #[.int .i64 k, .int .i64 wk, .int .i64 d]] w fun e w' => e = .returned (.tuple #[.int .i64 0, .int .i64 4]) ∧ Below w.heap.size w w' := by
  have HC := Lib.hid (Gs.mk0 ht)
  have H := Lib.hid h
  have HK := Lib.hid hok
  have hb := Dfm.ok_bd _ _ _ hok
  have HK2 : Hid (1 ≤ k ∧ k ≤ 4) := Lib.hid (by omega)
  clear ht h hok hb
  generalize hq : Cal.len y m = q at *
  have HQ := Lib.hid hq
  clear hq
  go_enter Tryd.func9, Tryd.ntmps9
  go_wp2_with fail
  refine (days_g _ _ _ _ H.out rfl (Gs.hal HC _)).mono ?_; rintro e w1 ⟨rfl, hd⟩; replace HC := Gs.hdw (Gs.hal HC _) hd
  have hb := Cs.hdw (Lib.hid (Cs.new w [.int .i64 k, .int .i64 wk, .int .i64 d] 23)) hd
  have c0 := hb.out.at 0 rfl
  have c1 := hb.out.at 1 rfl
  have c2 := hb.out.at 2 rfl
  clear hd
  go_wp2_with fail
  refine (kof_at k wk d _ _ _ _ _ HK2.out HK.out rfl rfl rfl rfl _).mono ?_; rintro e w2 ⟨rfl, hb1⟩; replace HC := Gs.hbl HC hb1; replace hb := Cs.hbl hb hb1; clear hb1 c0 c1 c2
  generalize Dfm.KW k = a1 at *
  generalize Dfm.KL k = a2 at *
  generalize Dfm.KM k = a3 at *
  generalize KF k = a4 at *
  generalize Cal.day y m 1 = a5 at *
  go_wp2_with fail
  refine (len_g _ _ _ HQ.out (Gs.hal HC _)).mono ?_; rintro e w3 ⟨rfl, hd⟩; replace HC := Gs.hdw (Gs.hal HC _) hd; replace hb := Cs.hdw (Cs.hal hb _) hd; clear hd
  have c2 := hb.out.at 2 rfl
  go_wp2
  go_ret2
  exact ⟨rfl, HC.out.1⟩
theorem kk (k : Int) (h : 1 ≤ k ∧ k ≤ 4) : k = 1 ∨ k = 2 ∨ k = 3 ∨ k = 4 := by omega
set_option maxHeartbeats 1000000 in
theorem on_yes (y m k wk d r : Int) (h : Cal.okB y m 1 = true) (hok : Dfm.okD k wk d = true) (hl : d ≤ Cal.len y m) (hr : Dfm.on y m k wk d = r) (w : World) (ht : TabW w) : Calls Tryd.prog 9 #[.int .i64 y, .int .i64 m, .agg #[.int .i64 k, .int .i64 wk, .int .i64 d]] w fun e w' => e = .returned (.tuple #[.int .i64 r, .int .i64 0]) ∧ Below w.heap.size w w' := by
  have HC := Lib.hid (Gs.mk0 ht)
  have hm := (Dfm.ok1 y m).1 h
  have lb := Cal.len_bd y m ⟨hm.2.2.1, hm.2.2.2⟩
  have db := Dfm.day1_bd y m h
  have H := Lib.hid h
  have HK := Lib.hid hok
  have hb := Dfm.ok_bd _ _ _ hok
  obtain ⟨_, _, b1, b2, b3, b4⟩ := hb
  have e1 := Dfm.day_lin y m d
  have e2 := Dfm.day_lin y m (Cal.len y m)
  have hkk := kk k (by omega)
  clear ht h hok hm
  generalize hq : Cal.len y m = q at *
  generalize ha : Cal.day y m 1 = a5 at *
  have HQ := Lib.hid hq
  have HA := Lib.hid ha
  have HR := Lib.hid hr
  have E := Lib.hid (And.intro e1 e2)
  clear hq ha hr e1 e2
  rcases hkk with rfl | rfl | rfl | rfl
  all_goals
    have hr := HR.out
    simp [Dfm.on, HQ.out] at hr
    simp only [E.out.1, E.out.2] at hr
    replace HR := Lib.hid hr
    clear hr
    go_enter Tryd.func9, Tryd.ntmps9
    go_wp2_with fail
    refine (days_g _ _ _ _ H.out HA.out (Gs.hal HC _)).mono ?_; rintro e w1 ⟨rfl, hd⟩; replace HC := Gs.hdw (Gs.hal HC _) hd
    have hb := Cs.hdw (Lib.hid (Cs.new w [.int .i64 _, .int .i64 wk, .int .i64 d] 23)) hd
    have c0 := hb.out.at 0 rfl
    have c1 := hb.out.at 1 rfl
    have c2 := hb.out.at 2 rfl
    clear hd
    go_wp2_with fail
    refine (kof_at _ wk d _ _ _ _ _ (by omega) HK.out rfl rfl rfl rfl _).mono ?_; rintro e w2 ⟨rfl, hb1⟩; replace HC := Gs.hbl HC hb1; replace hb := Cs.hbl hb hb1; clear hb1 c0 c1 c2
    simp only [Dfm.KW, Dfm.KL, Dfm.KM, KF]
    go_wp2_with fail
    refine (len_g _ _ _ HQ.out (Gs.hal HC _)).mono ?_; rintro e w3 ⟨rfl, hd⟩; replace HC := Gs.hdw (Gs.hal HC _) hd; replace hb := Cs.hdw (Cs.hal hb _) hd
    have HV := Cs.hdw (Lib.hid (Cs.new w2 _ _)) hd
    have v3 := HV.out.at 3 rfl
    have c1 := hb.out.at 1 rfl
    have c2 := hb.out.at 2 rfl
    clear hd HV
    go_wp2_with fail
    first | (go_at_call 40; refine (k1_any _ _ _ _).mono ?_) | (go_at_call 41; refine (k2_at _ _ _ _ HR.out _ (by omega) (by omega)).mono ?_) | (go_at_call 43; refine (k3_at _ _ _ _ HR.out _ (by omega) (by omega)).mono ?_) | (go_at_call 44; refine (k4_at _ _ _ _ HR.out _ (by omega) (by omega)).mono ?_)
    rintro e w4 ⟨rfl, rfl⟩
    go_wp2
    go_ret2
    exact ⟨ret_two (by first | rfl | exact HR.out) rfl, HC.out.1⟩
end Go.Proofs.YtdlclpkhjblgjaaDoor
