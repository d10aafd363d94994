/- Numbers for DayformEach: the years that have a day. -/
import Derived.Test.YtdlclpkhjblgjaaDoorLaw02b
import Derived.Test.YtdlclpkhjblgjaaDoorRef02c
import Derived.Deep.RegionHeld3
import Derived.OpenShut
namespace Go.Proofs.YtdlclpkhjblgjaaDoor
open Go.RowKit

theorem Dw.blw {w w' : World} (h : Dw w w') : Below w.heap.size w w' := h.below' _
/-- whether the month has the day in each of the first n years -/
def eachB (y m d : Int) : Nat → Bool
  | 0 => true
  | n + 1 => eachB y m d n && decide (d ≤ Cal.len (y + n) m)
theorem eachB_all (y m d : Int) (n : Nat) : eachB y m d n = true ↔ ∀ i : Nat, i < n → d ≤ Cal.len (y + i) m := by
  induction n with
  | zero => simp [eachB]
  | succ n ih =>
    simp only [eachB, Bool.and_eq_true, ih, decide_eq_true_eq]
    constructor
    · intro h i hi
      rcases Nat.lt_or_ge i n with g | g
      · exact h.1 i g
      · obtain rfl : i = n := by omega
        exact h.2
    · intro h; exact ⟨fun i hi => h i (by omega), h n (by omega)⟩
theorem lp_two (y : Int) : Cal.lp y = 0 ∨ Cal.lp (y + 1) = 0 := by rw [Cal.lp_eq, Cal.lp_eq]; split <;> split <;> omega
/-- the years from y to y + n have the day if the first does, and one that is no leap year if there is a second -/
theorem eachB_al (y m d : Int) (n : Nat) : eachB y m d (n + 1) = decide (d ≤ Cal.len (if 0 < n then 2001 else y) m) := by
  rw [Bool.eq_iff_iff, eachB_all, decide_eq_true_eq]
  by_cases hn : 0 < n
  · rw [if_pos hn]
    constructor
    · intro h
      have h0 := h 0 (by omega)
      have h1 := h 1 (by omega)
      have a0 := len_2001 (y + (0 : Nat)) m
      have a1 := len_2001 (y + (1 : Nat)) m
      have l := lp_two y
      have e0 : y + ((0 : Nat) : Int) = y := by simp
      have e1 : y + ((1 : Nat) : Int) = y + 1 := by simp
      rw [e0] at h0 a0; rw [e1] at h1 a1
      by_cases h2 : m = 2
      · rw [if_pos h2] at a0 a1; omega
      · rw [if_neg h2] at a0; omega
    · intro h i _
      have a := len_2001 (y + i) m
      have b := Cal.lp_01 (y + i)
      split at a <;> omega
  · obtain rfl : n = 0 := by omega
    simp
theorem er_len (y m k wk d : Int) (h : Cal.okB y m 1 = true) (hk : Dfm.okD k wk d = true) : (d ≤ Cal.len y m ∧ Dfm.er y m k wk d = 0) ∨ (decide (d ≤ Cal.len y m) = false ∧ Dfm.er y m k wk d = 4) := by
  by_cases hl : d ≤ Cal.len y m
  · left; refine ⟨hl, ?_⟩; simp [Dfm.er, h, hk]; omega
  · right; refine ⟨by simpa using hl, ?_⟩; simp [Dfm.er, h, hk]; omega
theorem al_each (y m k wk d : Int) (n : Nat) (hm : 1 ≤ m ∧ m ≤ 12) (hk : Dfm.okD k wk d = true) (hb : y + n < 1048576) : Dfm.al y (y + n) m k wk d = eachB y m d (n + 1) := by
  have h1 : decide (y + n < 1048576 ∧ y + n < y) = false := by simp; omega
  have e1 : Cal.len 1 m = Cal.len 2001 m := by
    have := len_2001 1 m; have l : Cal.lp 1 = 0 := by decide
    rw [l] at this; split at this <;> omega
  rw [eachB_al]; unfold Dfm.al; rw [h1, hk]
  by_cases hn : 0 < n
  · rw [if_pos (by omega), if_pos hn, e1]; simp [hm]
  · obtain rfl : n = 0 := by omega
    rw [if_neg (by omega), if_neg (by omega)]; simp [hm]
theorem al_ever (y m k wk d : Int) (hm : 1 ≤ m ∧ m ≤ 12) (hk : Dfm.okD k wk d = true) : Dfm.al y 1048576 m k wk d = decide (d ≤ Cal.len 2001 m) := by
  have e1 : Cal.len 1 m = Cal.len 2001 m := by
    have := len_2001 1 m; have l : Cal.lp 1 = 0 := by decide
    rw [l] at this; split at this <;> omega
  unfold Dfm.al; rw [hk, if_pos (by omega), e1]; simp [hm]
/-- behind the first of the years from 2001 on, a truth says that this year has the day -/
def EndB (j : Nat) (c : Bool) (l d : Int) : Prop := 1 ≤ j → c = true → d ≤ l
theorem EndB.no (j : Nat) (l d : Int) : EndB j false l d := fun _ h => by cases h
theorem EndB.next {j : Nat} {m d : Int} (h : EndB j true (Cal.len 2001 m) d) (hl : d ≤ Cal.len (2001 + j) m) : EndB (j + 1) true (Cal.len 2001 m) d := by
  intro _ _
  by_cases hj : 1 ≤ j
  · exact h hj rfl
  · obtain rfl : j = 0 := by omega
    simpa using hl
end Go.Proofs.YtdlclpkhjblgjaaDoor
