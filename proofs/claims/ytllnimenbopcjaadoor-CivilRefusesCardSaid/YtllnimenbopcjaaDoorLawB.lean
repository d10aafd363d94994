/- The walks of CivilNext and CivilBack: each returns true. -/
import Derived.Test.YtllnimenbopcjaaDoorLawA
namespace Go.Proofs.YtllnimenbopcjaaDoor
open Go.RowKit

theorem tm_bd (a k : Int) (hk : 0 < k) : -k < a.tmod k ∧ a.tmod k < k := by
  have h1 := Int.emod_nonneg a (by omega : k ≠ 0)
  have h2 := Int.emod_lt_of_pos a hk
  rw [Cal.tm_eq a k hk]; split <;> omega
theorem wd_next (n : Int) : 0 ≤ Cal.wd n ∧ Cal.wd n ≤ 6 ∧ Cal.wd (n + 1) = (Cal.wd n + 1) % 7 := by unfold Cal.wd; omega
theorem len_le (y m : Int) : Cal.len y m ≤ 31 := by
  by_cases h : 1 ≤ m ∧ m ≤ 12
  · exact (Cal.len_bd y m h).2
  · rw [Cal.len_no y m (by omega)]; decide
/-- the rest of a walk: the state that the works of the examples leave -/
theorem works_at {w0 w : World} (h : Hid (St w0 w)) : Calls Tryd.prog 17 #[] w fun e w' => e = .returned (.bool true) ∧ Dw w w' := works_any w h.out.2

theorem next_core (days n y m d y' m' d' r : Int) (hq : days.tmod 700000000000 = n) (W : World) (hT : TabW W) (hn : -700000000000 < n ∧ n < 700000000000) (h1 : Cal.dY n = y ∧ Cal.dM n = m ∧ Cal.dD n = d) (h2 : Cal.dY (n + 1) = y' ∧ Cal.dM (n + 1) = m' ∧ Cal.dD (n + 1) = d')
    (hr : Cal.wd n = r ∧ Cal.wd (n + 1) = (r + 1) % 7) (br : 0 ≤ r ∧ r ≤ 6) (by1 : -2000000000 ≤ y ∧ y ≤ 2000000000) (bm : 1 ≤ m ∧ m ≤ 12) (bd : 1 ≤ d ∧ d ≤ 31)
    (hc : (d < Cal.len y m ∧ y' = y ∧ m' = m ∧ d' = d + 1) ∨ (¬ d < Cal.len y m ∧ m < 12 ∧ y' = y ∧ m' = m + 1 ∧ d' = 1) ∨ (¬ d < Cal.len y m ∧ ¬ m < 12 ∧ y' = y + 1 ∧ m' = 1 ∧ d' = 1)) :
    Calls Tryd.prog 6 #[.int .i64 days] W fun e w' => e = .returned (.bool true) ∧ Below W.heap.size W w' := by
  have HC := Lib.hid (St.mk0 hT)
  have Q := Lib.hid hq
  have H1 := Lib.hid h1
  have H2 := Lib.hid h2
  have HR := Lib.hid hr
  clear hT hq h1 h2 hr
  rcases hc with ⟨c1, rfl, rfl, rfl⟩ | ⟨c1, c2, rfl, rfl, rfl⟩ | ⟨c1, c2, rfl, rfl, rfl⟩
  all_goals
    go_enter Tryd.func6, Tryd.ntmps6
    go_wp2_with fail
    rw [Q.out]
    refine (date_at n _ _ _ (by omega) H1.out.1 H1.out.2.1 H1.out.2.2 _).mono ?_; rintro e w1 ⟨rfl, rfl⟩
    go_wp2_with fail
    refine (date_at (n + 1) _ _ _ (by omega) H2.out.1 H2.out.2.1 H2.out.2.2 _).mono ?_; rintro e w1 ⟨rfl, rfl⟩
    go_wp2_with fail
    refine (len_at _ _ _ rfl HC).mono ?_; rintro e w1 ⟨rfl, hd⟩; replace HC := St.hid HC hd; clear hd
    go_wp2_with fail
    refine (wd_at n _ HR.out.1 _).mono ?_; rintro e w1 ⟨rfl, rfl⟩
    go_wp2_with fail
    refine (wd_at (n + 1) _ HR.out.2 _).mono ?_; rintro e w1 ⟨rfl, rfl⟩
    go_wp2_with fail
    refine (works_at HC).mono ?_; rintro e w1 ⟨rfl, hd⟩; replace HC := St.hid HC hd; clear hd
    go_wp2
    go_ret
    exact ⟨rfl, HC.out.1.below⟩
theorem next_walk (days : Int) (_wd : (Lit.int .i64 days).wf = true) (W : World) (hT : TabW W) :
    Calls Tryd.prog 6 #[.int .i64 days] W fun e w' => e = .returned (.bool true) ∧ Below W.heap.size W w' := by
  have hb := tm_bd days 700000000000 (by omega)
  generalize hq : days.tmod 700000000000 = n at *
  obtain ⟨_, v1, v2, v3, v4⟩ := Cal.date_day n
  have hi := (Cal.date_in n).1 (by omega)
  have hl := len_le (Cal.dY n) (Cal.dM n)
  have hw := wd_next n
  obtain ⟨n1, n2, n3⟩ := Cal.date_next n
  refine next_core days n _ _ _ _ _ _ _ hq W hT hb ⟨rfl, rfl, rfl⟩ ⟨n1, n2, n3⟩ ⟨rfl, hw.2.2⟩ ⟨hw.1, hw.2.1⟩ hi ⟨v1, v2⟩ ⟨v3, by omega⟩ ?_
  unfold Cal.nxY Cal.nxM Cal.nxD
  by_cases c1 : Cal.dD n < Cal.len (Cal.dY n) (Cal.dM n)
  · exact .inl ⟨c1, by rw [if_pos c1], by rw [if_pos c1], by rw [if_pos c1]⟩
  · by_cases c2 : Cal.dM n < 12
    · exact .inr (.inl ⟨c1, c2, by rw [if_neg c1, if_pos c2], by rw [if_neg c1, if_pos c2], by rw [if_neg c1]⟩)
    · exact .inr (.inr ⟨c1, c2, by rw [if_neg c1, if_neg c2], by rw [if_neg c1, if_neg c2], by rw [if_neg c1]⟩)
end Go.Proofs.YtllnimenbopcjaaDoor
