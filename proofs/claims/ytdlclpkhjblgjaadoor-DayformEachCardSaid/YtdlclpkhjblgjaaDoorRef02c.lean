/- The contract of the document's Always. -/
import Derived.Test.YtdlclpkhjblgjaaDoorRef02b
namespace Go.Proofs.YtdlclpkhjblgjaaDoor
open Go.RowKit

theorem len_2001 (y m : Int) : Cal.len y m = Cal.len 2001 m + if m = 2 then Cal.lp y else 0 := by
  by_cases h : 1 ≤ m ∧ m ≤ 12
  · have l : Cal.lp 2001 = 0 := by decide
    have hn : ¬ (m < 1 ∨ 12 < m) := by omega
    simp only [Cal.len, if_neg hn, l]
    by_cases h2 : m = 2 <;> simp [h2]
  · rw [Cal.len_no y m (by omega), Cal.len_no 2001 m (by omega), if_neg (by omega)]; omega
/-- the document's answer, way by way -/
theorem al_ways (a b m k wk d l : Int) (hl : Cal.len 2001 m = l) (r : Bool) (hr : Dfm.al a b m k wk d = r) :
    (inB m 1 12 = false ∧ r = false) ∨ (inB m 1 12 = true ∧ ((Dfm.okD k wk d = false ∧ r = false) ∨ (Dfm.okD k wk d = true ∧ ((b < 1048576 ∧ b < a ∧ r = true) ∨ ((decide (b < 1048576) = false ∨ (decide (b < 1048576) = true ∧ decide (b < a) = false)) ∧ ((d ≤ l ∧ r = true) ∨ (l < d ∧
      (((m == 2) = false ∧ r = false) ∨ (m = 2 ∧ (d == 29) = false ∧ r = false) ∨ (m = 2 ∧ d = 29 ∧ (a == b) = false ∧ r = false) ∨ (m = 2 ∧ d = 29 ∧ a = b ∧ decide (b < 1048576) = false ∧ r = false) ∨ (m = 2 ∧ d = 29 ∧ a = b ∧ b < 1048576 ∧ r = Cal.leapB a))))))))) := by
  subst hl hr
  by_cases hm : 1 ≤ m ∧ m ≤ 12
  · right
    refine ⟨by simp [inB]; omega, ?_⟩
    cases hk : Dfm.okD k wk d
    · left; simp [Dfm.al, hk]
    · right
      refine ⟨rfl, ?_⟩
      have hb := Dfm.ok_bd _ _ _ hk
      by_cases h1 : b < 1048576 ∧ b < a
      · left; simp [Dfm.al, hk, hm, h1]
      · right
        have e : Dfm.al a b m k wk d = decide (d ≤ Cal.len (if 1048576 ≤ b ∨ a < b then 1 else a) m) := by
          have : decide (b < 1048576 ∧ b < a) = false := by simp; omega
          unfold Dfm.al; rw [this, hk]; simp [hm]
        refine ⟨by simp; omega, ?_⟩
        rw [e]
        generalize hy : (if 1048576 ≤ b ∨ a < b then (1 : Int) else a) = y
        have hy1 : (1048576 ≤ b ∨ a < b) → y = 1 := by intro h; rw [if_pos h] at hy; exact hy.symm
        have hy2 : ¬ (1048576 ≤ b ∨ a < b) → y = a := by intro h; rw [if_neg h] at hy; exact hy.symm
        have hl := len_2001 y m
        have l1 : Cal.lp 1 = 0 := by decide
        by_cases h2 : d ≤ Cal.len 2001 m
        · left
          have := Cal.lp_01 y
          refine ⟨h2, ?_⟩
          simp only [decide_eq_true_eq]; split at hl <;> omega
        · right
          refine ⟨by omega, ?_⟩
          by_cases h3 : m = 2
          · subst h3
            have l2 : Cal.len 2001 2 = 28 := by decide
            rw [if_pos rfl] at hl
            right
            by_cases h4 : d = 29
            · right
              by_cases h5 : a = b
              · right
                by_cases h6 : b < 1048576
                · right
                  refine ⟨rfl, h4, h5, h6, ?_⟩
                  have := hy2 (by omega)
                  subst this
                  rcases Cal.leap_cases y with ⟨q1, q2⟩ | ⟨q1, q2⟩ <;> rw [q1] <;> simp <;> omega
                · left
                  have := hy1 (by omega)
                  subst this
                  refine ⟨rfl, h4, h5, by simp; omega, by simp; omega⟩
              · left
                have := hy1 (by omega)
                subst this
                refine ⟨rfl, h4, by simpa using h5, by simp; omega⟩
            · left
              have := Cal.lp_01 y
              refine ⟨rfl, by simpa using h4, by simp; omega⟩
          · left
            rw [if_neg h3] at hl
            exact ⟨by simpa using h3, by simp; omega⟩
  · left; exact ⟨by simp [inB]; omega, by simp [Dfm.al]; intro h1 h2; omega⟩
set_option maxHeartbeats 2000000 in
theorem ral_at (a b m k wk d : Int) (r : Bool) (hr : Dfm.al a b m k wk d = r) (w : World) : Calls Tryd.prog 15 #[.int .i64 a, .int .i64 b, .int .i64 m, .agg #[.int .i64 k, .int .i64 wk, .int .i64 d]] w fun e w' => e = .returned (.bool r) ∧ Below w.heap.size w w' := by
  generalize hl : Cal.len 2001 m = l
  have hw := al_ways a b m k wk d l hl r hr
  have HL := Lib.hid hl
  have HS := Lib.hid (Cs.new w [.int .i64 k, .int .i64 wk, .int .i64 d] 23)
  clear hr hl
  rcases hw with ⟨h, rfl⟩ | ⟨h, hw⟩
  · have H := Lib.hid h
    clear h
    go_enter Tryd.func15, Tryd.ntmps15
    go_wp2_with fail
    refine (rin2_at _ _ _ _ H.out _).mono ?_; rintro e w1 ⟨rfl, rfl⟩
    go_wp2
    go_ret
    exact ⟨rfl, (Below.refl _ _).alloc (Nat.le_refl _) _⟩
  · have H := Lib.hid h
    clear h
    rcases hw with ⟨hok, rfl⟩ | ⟨hok, hw⟩
    · have HK : Hid ((if Dfm.okD k wk d = true then (0 : Int) else 2) = 2) := Lib.hid (by rw [hok]; rfl)
      clear hok
      go_enter Tryd.func15, Tryd.ntmps15
      go_wp2_with fail
      refine (rin2_at _ _ _ _ H.out _).mono ?_; rintro e w1 ⟨rfl, rfl⟩
      go_wp2_with fail
      refine (rcheck_at _ _ _ _ HK.out _).mono ?_; rintro e w1 ⟨rfl, hb⟩
      have HB : Hid (Below w.heap.size w w1) := Lib.hid (((Below.refl _ _).alloc (Nat.le_refl _) _).trans (hb.mono (by simp)))
      clear hb
      go_wp2
      go_ret
      exact ⟨rfl, HB.out⟩
    · have HK : Hid ((if Dfm.okD k wk d = true then (0 : Int) else 2) = 0) := Lib.hid (by rw [hok]; rfl)
      clear hok
      rcases hw with ⟨x1, x2, rfl⟩ | ⟨hx, hw⟩
      · go_enter Tryd.func15, Tryd.ntmps15
        go_wp2_with fail
        refine (rin2_at _ _ _ _ H.out _).mono ?_; rintro e w1 ⟨rfl, rfl⟩
        go_wp2_with fail
        refine (rcheck_at _ _ _ _ HK.out _).mono ?_; rintro e w1 ⟨rfl, hb⟩
        have HB : Hid (Below w.heap.size w w1) := Lib.hid (((Below.refl _ _).alloc (Nat.le_refl _) _).trans (hb.mono (by simp)))
        clear hb
        go_wp2
        go_ret
        exact ⟨rfl, HB.out⟩
      · rcases hx with x1 | ⟨x1, x2⟩
        all_goals
          rcases hw with ⟨y1, rfl⟩ | ⟨y1, ⟨z1, rfl⟩ | ⟨rfl, z1, rfl⟩ | ⟨rfl, rfl, z1, rfl⟩ | ⟨rfl, rfl, rfl, z1, rfl⟩ | ⟨rfl, rfl, rfl, z1, rfl⟩⟩
        all_goals
          try (exfalso; simp_all; done)
        all_goals
          go_enter Tryd.func15, Tryd.ntmps15
          go_wp2_with fail
          refine (rin2_at _ _ _ _ H.out _).mono ?_; rintro e w1 ⟨rfl, rfl⟩
          go_wp2_with fail
          refine (rcheck_at _ _ _ _ HK.out _).mono ?_; rintro e w1 ⟨rfl, hb⟩
          have HB : Hid (Below w.heap.size w w1) := Lib.hid (((Below.refl _ _).alloc (Nat.le_refl _) _).trans (hb.mono (by simp)))
          have hs := Cs.hbl HS hb
          have p2 := hs.out.at 2 rfl
          clear hb
          go_wp2
          go_quiet ((go_at_call 28; exact dw_same (rlen_at _ _ _ HL.out _)))
          go_wp2_with (go_at_call 32; refine (rleap2_any _ _).mono ?_; rintro e w' ⟨rfl, rfl⟩)
          go_ret
          exact ⟨rfl, HB.out.trans (Dw.below' ⟨_, rfl⟩ _)⟩
theorem ron_at (y m k wk d x e0 : Int) (hx : Dfm.va y m k wk d = x) (he : Dfm.er y m k wk d = e0) (w : World) : Calls Tryd.prog 10 #[.int .i64 y, .int .i64 m, .agg #[.int .i64 k, .int .i64 wk, .int .i64 d]] w fun e w' => e = .returned (.tuple #[.int .i64 x, .int .i64 e0]) ∧ Below w.heap.size w w' := by
  subst hx he
  cases h : Cal.okB y m 1
  · have e : Dfm.er y m k wk d = 3 := by simp [Dfm.er, h]
    have v : Dfm.va y m k wk d = 0 := by simp [Dfm.va, e]
    rw [e, v]; exact ron_range y m k wk d h w
  · cases hk : Dfm.okD k wk d
    · have e : Dfm.er y m k wk d = 2 := by simp [Dfm.er, h, hk]
      have v : Dfm.va y m k wk d = 0 := by simp [Dfm.va, e]
      rw [e, v]; exact ron_arg y m k wk d h hk w
    · by_cases hl : Cal.len y m < d
      · have e : Dfm.er y m k wk d = 4 := by simp [Dfm.er, h, hk, hl]
        have v : Dfm.va y m k wk d = 0 := by simp [Dfm.va, e]
        rw [e, v]; exact ron_none y m k wk d h hk hl w
      · have e : Dfm.er y m k wk d = 0 := by simp [Dfm.er, h, hk, hl]
        have v : Dfm.va y m k wk d = Dfm.on y m k wk d := by simp [Dfm.va, e]
        rw [e, v]; exact ron_yes y m k wk d _ h hk (by omega) rfl w
end Go.Proofs.YtdlclpkhjblgjaaDoor
