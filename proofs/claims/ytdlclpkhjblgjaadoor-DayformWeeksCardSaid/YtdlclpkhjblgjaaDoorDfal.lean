/- The contract of dayform.Always. -/
import Derived.Test.YtdlclpkhjblgjaaDoorDfon
namespace Go.Proofs.YtdlclpkhjblgjaaDoor
open Go.RowKit

theorem al_m (a b m k wk d : Int) (w : World) (h : m < 1 ∨ 12 < m) : Calls Tryd.prog 14 #[.int .i64 a, .int .i64 b, .int .i64 m, .agg #[.int .i64 k, .int .i64 wk, .int .i64 d]] w fun e w' => e = .returned (.bool false) ∧ Below w.heap.size w w' := by
  rcases h with h | h
  · go_enter Tryd.func14, Tryd.ntmps14
    go_wp2
    go_ret
    exact ⟨rfl, (Below.refl _ _).alloc (Nat.le_refl _) _⟩
  · have h1 : decide (m < 1) = false := by simp; omega
    go_enter Tryd.func14, Tryd.ntmps14
    go_wp2
    go_ret
    exact ⟨rfl, (Below.refl _ _).alloc (Nat.le_refl _) _⟩
theorem al_k (a b m k wk d : Int) (w : World) (hm : 1 ≤ m ∧ m ≤ 12) (hk : Dfm.okD k wk d = false) : Calls Tryd.prog 14 #[.int .i64 a, .int .i64 b, .int .i64 m, .agg #[.int .i64 k, .int .i64 wk, .int .i64 d]] w fun e w' => e = .returned (.bool false) ∧ Below w.heap.size w w' := by
  have h1 : decide (m < 1) = false := by simp; omega
  have h2 : decide (12 < m) = false := by simp; omega
  have HK : Hid ((if Dfm.okD k wk d = true then (0 : Int) else 2) = 2) := Lib.hid (by rw [hk]; rfl)
  clear hk hm
  go_enter Tryd.func14, Tryd.ntmps14
  go_wp2_with fail
  refine (check_at _ _ _ _ HK.out _).mono ?_; rintro e w1 ⟨rfl, hb⟩
  have HB := Lib.hid hb
  clear hb
  go_wp2
  go_ret
  exact ⟨rfl, ((Below.refl _ _).alloc (Nat.le_refl _) _).trans (HB.out.mono (by simp))⟩
theorem al_none (a b m k wk d : Int) (w : World) (hm : 1 ≤ m ∧ m ≤ 12) (hk : Dfm.okD k wk d = true) (h3 : b < 1048576) (h4 : b < a) : Calls Tryd.prog 14 #[.int .i64 a, .int .i64 b, .int .i64 m, .agg #[.int .i64 k, .int .i64 wk, .int .i64 d]] w fun e w' => e = .returned (.bool true) ∧ Below w.heap.size w w' := by
  have h1 : decide (m < 1) = false := by simp; omega
  have h2 : decide (12 < m) = false := by simp; omega
  have h5 : decide (1048576 ≤ b) = false := by simp; omega
  have HK : Hid ((if Dfm.okD k wk d = true then (0 : Int) else 2) = 0) := Lib.hid (by rw [hk]; rfl)
  clear hk hm
  go_enter Tryd.func14, Tryd.ntmps14
  go_wp2_with fail
  refine (check_at _ _ _ _ HK.out _).mono ?_; rintro e w1 ⟨rfl, hb⟩
  have HB := Lib.hid hb
  clear hb
  go_wp2
  go_ret
  exact ⟨rfl, ((Below.refl _ _).alloc (Nat.le_refl _) _).trans (HB.out.mono (by simp))⟩
set_option maxHeartbeats 1000000 in
theorem al_len (a b m k wk d l : Int) (w : World) (ht : TabW w) (hm : 1 ≤ m ∧ m ≤ 12) (hk : Dfm.okD k wk d = true) (h : 1048576 ≤ b ∨ a ≤ b) (hl : Cal.len (if 1048576 ≤ b ∨ a < b then 1 else a) m = l) : Calls Tryd.prog 14 #[.int .i64 a, .int .i64 b, .int .i64 m, .agg #[.int .i64 k, .int .i64 wk, .int .i64 d]] w fun e w' => e = .returned (.bool (decide (d ≤ l))) ∧ Below w.heap.size w w' := by
  have h1 : decide (m < 1) = false := by simp; omega
  have h2 : decide (12 < m) = false := by simp; omega
  have HK : Hid ((if Dfm.okD k wk d = true then (0 : Int) else 2) = 0) := Lib.hid (by rw [hk]; rfl)
  have HC := Lib.hid (Gs.mk0 ht)
  have hc : (decide (1048576 ≤ b) = true ∧ Cal.len 1 m = l) ∨ (decide (1048576 ≤ b) = false ∧ a < b ∧ decide (b < a) = false ∧ Cal.len 1 m = l) ∨ (decide (1048576 ≤ b) = false ∧ decide (a < b) = false ∧ decide (b < a) = false ∧ Cal.len a m = l) := by
    by_cases g : 1048576 ≤ b
    · left; rw [if_pos (.inl g)] at hl; exact ⟨by simp [g], hl⟩
    · right
      by_cases g2 : a < b
      · left; rw [if_pos (.inr g2)] at hl; exact ⟨by simp; omega, g2, by simp; omega, hl⟩
      · right; rw [if_neg (by omega)] at hl; exact ⟨by simp; omega, by simp; omega, by simp; omega, hl⟩
  clear hk hm ht hl h
  rcases hc with ⟨x1, hl⟩ | ⟨x1, x2, x3, hl⟩ | ⟨x1, x2, x3, hl⟩
  · have HL := Lib.hid hl
    clear hl
    have HG := Lib.hid x1
    have HA : Hid (1048576 ≤ b) := Lib.hid (by simpa using x1)
    clear x1
    by_cases x2 : b < a
    all_goals
      have x1 := HG.out
      go_enter Tryd.func14, Tryd.ntmps14
      go_wp2_with fail
      refine (check_at _ _ _ _ HK.out _).mono ?_; rintro e w1 ⟨rfl, hb⟩
      have HC1 := Gs.hbl (Gs.hal HC _) hb
      have hs := Cs.hbl (Lib.hid (Cs.new w [.int .i64 k, .int .i64 wk, .int .i64 d] 23)) hb
      have c2 := hs.out.at 2 rfl
      clear hb
      go_wp2
      go_quiet ((go_at_call 19; exact dw_of (len_g _ _ _ HL.out (Gs.hdw HC1 ⟨_, rfl⟩))))
      go_wp2
      go_ret
      exact ⟨rfl, (HC1.out.dw ⟨_, rfl⟩).1⟩
  · have HL := Lib.hid hl
    clear hl
    go_enter Tryd.func14, Tryd.ntmps14
    go_wp2_with fail
    refine (check_at _ _ _ _ HK.out _).mono ?_; rintro e w1 ⟨rfl, hb⟩
    have HC1 := Gs.hbl (Gs.hal HC _) hb
    have hs := Cs.hbl (Lib.hid (Cs.new w [.int .i64 k, .int .i64 wk, .int .i64 d] 23)) hb
    have c2 := hs.out.at 2 rfl
    clear hb
    go_wp2
    go_quiet ((go_at_call 19; exact dw_of (len_g _ _ _ HL.out (Gs.hdw HC1 ⟨_, rfl⟩))))
    go_wp2
    go_ret
    exact ⟨rfl, (HC1.out.dw ⟨_, rfl⟩).1⟩
  · have HL := Lib.hid hl
    clear hl
    go_enter Tryd.func14, Tryd.ntmps14
    go_wp2_with fail
    refine (check_at _ _ _ _ HK.out _).mono ?_; rintro e w1 ⟨rfl, hb⟩
    have HC1 := Gs.hbl (Gs.hal HC _) hb
    have hs := Cs.hbl (Lib.hid (Cs.new w [.int .i64 k, .int .i64 wk, .int .i64 d] 23)) hb
    have c2 := hs.out.at 2 rfl
    clear hb
    go_wp2
    go_quiet ((go_at_call 19; exact dw_of (len_g _ _ _ HL.out (Gs.hdw HC1 ⟨_, rfl⟩))))
    go_wp2
    go_ret
    exact ⟨rfl, (HC1.out.dw ⟨_, rfl⟩).1⟩
theorem always_at (a b m k wk d : Int) (r : Bool) (hr : Dfm.al a b m k wk d = r) {w0 w : World} (hg : Hid (Gs w0 w)) : Calls Tryd.prog 14 #[.int .i64 a, .int .i64 b, .int .i64 m, .agg #[.int .i64 k, .int .i64 wk, .int .i64 d]] w fun e w' => e = .returned (.bool r) ∧ Below w.heap.size w w' := by
  subst hr
  by_cases hm : 1 ≤ m ∧ m ≤ 12
  · cases hk : Dfm.okD k wk d
    · have e : Dfm.al a b m k wk d = false := by simp [Dfm.al, hk]
      rw [e]; exact al_k a b m k wk d w hm hk
    · by_cases h3 : b < 1048576 ∧ b < a
      · have e : Dfm.al a b m k wk d = true := by simp [Dfm.al, hk, hm, h3]
        rw [e]; exact al_none a b m k wk d w hm hk h3.1 h3.2
      · have e : Dfm.al a b m k wk d = decide (d ≤ Cal.len (if 1048576 ≤ b ∨ a < b then 1 else a) m) := by
          have : decide (b < 1048576 ∧ b < a) = false := by simp; omega
          unfold Dfm.al; rw [this, hk]; simp [hm]
        rw [e]; exact al_len a b m k wk d _ w hg.out.2 hm hk (by omega) rfl
  · have e : Dfm.al a b m k wk d = false := by simp [Dfm.al]; intro h1 h2; omega
    rw [e]; exact al_m a b m k wk d w (by omega)
/-- On's answer, whatever is asked -/
theorem on_at (y m k wk d x e0 : Int) (hx : Dfm.va y m k wk d = x) (he : Dfm.er y m k wk d = e0) {w0 w : World} (hg : Hid (Gs w0 w)) : Calls Tryd.prog 9 #[.int .i64 y, .int .i64 m, .agg #[.int .i64 k, .int .i64 wk, .int .i64 d]] w fun e w' => e = .returned (.tuple #[.int .i64 x, .int .i64 e0]) ∧ Below w.heap.size w w' := by
  subst hx he
  cases h : Cal.okB y m 1
  · have e : Dfm.er y m k wk d = 3 := by simp [Dfm.er, h]
    have v : Dfm.va y m k wk d = 0 := by simp [Dfm.va, e]
    rw [e, v]; exact on_range y m k wk d h w hg.out.2
  · cases hk : Dfm.okD k wk d
    · have e : Dfm.er y m k wk d = 2 := by simp [Dfm.er, h, hk]
      have v : Dfm.va y m k wk d = 0 := by simp [Dfm.va, e]
      rw [e, v]; exact on_arg y m k wk d h hk w hg.out.2
    · by_cases hl : Cal.len y m < d
      · have e : Dfm.er y m k wk d = 4 := by simp [Dfm.er, h, hk, hl]
        have v : Dfm.va y m k wk d = 0 := by simp [Dfm.va, e]
        rw [e, v]; exact on_none y m k wk d h hk hl w hg.out.2
      · have e : Dfm.er y m k wk d = 0 := by simp [Dfm.er, h, hk, hl]
        have v : Dfm.va y m k wk d = Dfm.on y m k wk d := by simp [Dfm.va, e]
        rw [e, v]; exact on_yes y m k wk d _ h hk (by omega) rfl w hg.out.2
end Go.Proofs.YtdlclpkhjblgjaaDoor
