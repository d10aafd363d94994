/- Whole numbers of 64 bits in plain numbers: what fits, quotients that are rounded down, remainders. No program in sight. -/
namespace Go.Proofs.Ytejdeaacpjgjiaa.Ck
/-- the least and the greatest number -/
def inR (x : Int) : Prop := -9223372036854775808 ≤ x ∧ x ≤ 9223372036854775807
/-- whether a number fits -/
def fit (x : Int) : Bool := decide (-9223372036854775808 ≤ x ∧ x ≤ 9223372036854775807)
/-- the number, if it fits, else 0 -/
def rs (x : Int) : Int := if fit x then x else 0
theorem fit_iff (x : Int) : fit x = true ↔ (-9223372036854775808 ≤ x ∧ x ≤ 9223372036854775807) := by simp [fit]
theorem fit_no (x : Int) : fit x = false ↔ (x < -9223372036854775808 ∨ 9223372036854775807 < x) := by simp [fit]; omega
theorem rs_yes {x : Int} (h : fit x = true) : rs x = x := by simp [rs, h]
theorem rs_no {x : Int} (h : fit x = false) : rs x = 0 := by simp [rs, h]
theorem rs_bd (x : Int) : -9223372036854775808 ≤ rs x ∧ rs x ≤ 9223372036854775807 := by
  by_cases h : fit x = true
  · rw [rs_yes h]; exact (fit_iff x).1 h
  · rw [rs_no (by simpa using h)]; omega
theorem fit_cases (x : Int) : (fit x = true ∧ rs x = x ∧ -9223372036854775808 ≤ x ∧ x ≤ 9223372036854775807) ∨ (fit x = false ∧ rs x = 0 ∧ (x < -9223372036854775808 ∨ 9223372036854775807 < x)) := by
  by_cases h : fit x = true
  · exact .inl ⟨h, rs_yes h, (fit_iff x).1 h⟩
  · have h' : fit x = false := by simpa using h
    exact .inr ⟨h', rs_no h', (fit_no x).1 h'⟩
/-- the quotient, rounded down -/
def dv (a b : Int) : Int := if b < 0 then (-a) / (-b) else a / b
/-- the remainder -/
def md (a b : Int) : Int := if b < 0 then -((-a) % (-b)) else a % b
/-- whether the quotient is there -/
def dok (a b : Int) : Bool := decide (b ≠ 0 ∧ ¬ (a = -9223372036854775808 ∧ b = -1))
theorem dok_iff (a b : Int) : dok a b = true ↔ (b ≠ 0 ∧ ¬ (a = -9223372036854775808 ∧ b = -1)) := by simp only [dok, decide_eq_true_eq]
theorem dok_no (a b : Int) : dok a b = false ↔ (b = 0 ∨ (a = -9223372036854775808 ∧ b = -1)) := by
  simp only [dok, decide_eq_false_iff_not]; omega
theorem dv_unique (a b q r : Int) (hb : b ≠ 0) (h : r + b * q = a) (h1 : 0 < b → 0 ≤ r ∧ r < b) (h2 : b < 0 → b < r ∧ r ≤ 0) : dv a b = q ∧ md a b = r := by
  unfold dv md
  rcases Int.lt_or_lt_of_ne hb with g | g
  · rw [if_pos g, if_pos g]
    have hr := h2 g
    have e : (-r) + (-b) * q = -a := by rw [Int.neg_mul]; omega
    obtain ⟨e1, e2⟩ := (Int.ediv_emod_unique (a := -a) (b := -b) (q := q) (r := -r) (by omega)).2 ⟨e, by omega, by omega⟩
    rw [e1, e2]; exact ⟨rfl, by omega⟩
  · rw [if_neg (by omega), if_neg (by omega)]
    have hr := h1 g
    exact (Int.ediv_emod_unique (a := a) (b := b) (q := q) (r := r) g).2 ⟨h, by omega, by omega⟩
theorem dv_facts (a b : Int) (hb : b ≠ 0) : md a b + b * dv a b = a ∧ (0 < b → 0 ≤ md a b ∧ md a b < b) ∧ (b < 0 → b < md a b ∧ md a b ≤ 0) := by
  unfold dv md
  rcases Int.lt_or_lt_of_ne hb with g | g
  · rw [if_pos g, if_pos g]
    have e := Int.emod_add_mul_ediv (-a) (-b)
    have e1 := Int.emod_nonneg (-a) (show -b ≠ 0 by omega)
    have e2 := Int.emod_lt_of_pos (-a) (show 0 < -b by omega)
    rw [Int.neg_mul] at e
    exact ⟨by omega, fun _ => by omega, fun _ => by omega⟩
  · rw [if_neg (by omega), if_neg (by omega)]
    have e := Int.emod_add_mul_ediv a b
    have e1 := Int.emod_nonneg a (show b ≠ 0 by omega)
    have e2 := Int.emod_lt_of_pos a g
    exact ⟨e, fun _ => by omega, fun _ => by omega⟩
theorem ediv_bd (a b : Int) (hb : 0 < b) : (0 ≤ a → 0 ≤ a / b ∧ a / b ≤ a) ∧ (a ≤ 0 → a ≤ a / b ∧ a / b ≤ 0) := by
  refine ⟨fun h => ⟨Int.ediv_nonneg h (by omega), Int.ediv_le_self b h⟩, fun h => ⟨?_, ?_⟩⟩
  · rw [Int.le_ediv_iff_mul_le hb]
    have := Int.mul_le_mul_of_nonpos_left h (show 1 ≤ b by omega)
    omega
  · by_cases e : a = 0
    · subst e; simp
    · exact Int.le_of_lt (Int.ediv_neg_of_neg_of_pos (by omega) hb)
theorem dv_bd (a b : Int) (ha : -9223372036854775808 ≤ a ∧ a ≤ 9223372036854775807) (h : dok a b = true) : -9223372036854775808 ≤ dv a b ∧ dv a b ≤ 9223372036854775807 := by
  rw [dok_iff] at h
  unfold dv
  split
  · by_cases e : b = -1
    · subst e; simp; omega
    · have h2 := ediv_bd (-a) (-b) (by omega)
      by_cases s : 0 ≤ -a
      · have h3 : -a / -b ≤ 9223372036854775807 := by
          have : -a / -b < 9223372036854775808 := by
            rw [Int.ediv_lt_iff_lt_mul (by omega)]; omega
          omega
        have := h2.1 s; omega
      · have := h2.2 (by omega); omega
  · have h2 := ediv_bd a b (by omega)
    by_cases s : 0 ≤ a
    · have := h2.1 s; omega
    · have := h2.2 (by omega); omega
theorem dv_out (a b : Int) (hb : b ≠ 0) (h : dok a b = false) : a = -9223372036854775808 ∧ b = -1 := by
  rw [dok_no] at h; omega
theorem md_bd (a b : Int) (hb : b ≠ 0) (bb : -9223372036854775808 ≤ b ∧ b ≤ 9223372036854775807) : -9223372036854775808 ≤ md a b ∧ md a b ≤ 9223372036854775807 := by
  obtain ⟨_, h1, h2⟩ := dv_facts a b hb
  rcases Int.lt_or_lt_of_ne hb with g | g
  · have := h2 g; omega
  · have := h1 g; omega
/-- the parts of Go's division, which rounds to 0 -/
theorem t_facts (a b : Int) (hb : b ≠ 0) : a.tmod b + b * a.tdiv b = a ∧ (0 ≤ a → 0 ≤ a.tmod b) ∧ (a ≤ 0 → a.tmod b ≤ 0) ∧ (0 < b → -b < a.tmod b ∧ a.tmod b < b) ∧ (b < 0 → b < a.tmod b ∧ a.tmod b < -b) := by
  have e := Int.tmod_add_mul_tdiv a b
  have l1 : (a.tmod b).natAbs < b.natAbs := by rw [Int.natAbs_tmod]; exact Nat.mod_lt _ (by omega)
  have s1 : 0 ≤ a → 0 ≤ a.tmod b := fun h => Int.tmod_nonneg b h
  have s2 : a ≤ 0 → a.tmod b ≤ 0 := fun h => by
    have := Int.tmod_nonneg b (show 0 ≤ -a by omega)
    rw [Int.neg_tmod] at this; omega
  refine ⟨e, s1, s2, fun _ => by omega, fun _ => by omega⟩
/-- whether Go's quotient is greater than the one that is rounded down -/
def up (a b : Int) : Bool := decide (a.tmod b ≠ 0 ∧ ((a.tmod b < 0 ∧ 0 ≤ b) ∨ (0 ≤ a.tmod b ∧ b < 0)))
theorem up_no (a b : Int) (hb : b ≠ 0) (h : up a b = false) : dv a b = a.tdiv b ∧ md a b = a.tmod b := by
  obtain ⟨e, s1, s2, l1, l2⟩ := t_facts a b hb
  simp only [up, decide_eq_false_iff_not] at h
  refine dv_unique a b _ _ hb e (fun g => ?_) (fun g => ?_)
  · have := l1 g; omega
  · have := l2 g; omega
theorem up_yes (a b : Int) (hb : b ≠ 0) (h : up a b = true) : dv a b = a.tdiv b - 1 ∧ md a b = a.tmod b + b := by
  obtain ⟨e, s1, s2, l1, l2⟩ := t_facts a b hb
  simp only [up, decide_eq_true_eq] at h
  refine dv_unique a b _ _ hb ?_ (fun g => ?_) (fun g => ?_)
  · rw [Int.mul_sub]; omega
  · have := l1 g; omega
  · have := l2 g; omega
theorem tdiv_bd (a b : Int) (ha : -9223372036854775808 ≤ a ∧ a ≤ 9223372036854775807) (h : dok a b = true) : -9223372036854775808 ≤ a.tdiv b ∧ a.tdiv b ≤ 9223372036854775807 := by
  have hh := (dok_iff a b).1 h
  have hn := Int.natAbs_tdiv_le_natAbs a b
  by_cases e : a.tdiv b = 9223372036854775808
  · exfalso
    by_cases h1 : b = -1
    · subst h1
      have : a.tdiv (-1) = -a := by simp
      omega
    · by_cases h2 : b = 1
      · subst h2
        have : a.tdiv 1 = a := by simp
        omega
      · obtain ⟨f, s1, s2, l1, l2⟩ := t_facts a b hh.1
        rw [e] at f
        rcases Int.lt_or_lt_of_ne hh.1 with g | g
        · have := l2 g; omega
        · have := l1 g; omega
  · omega
/-- a product that does not fit is not found again by Go's division -/
theorem mul_out (a b p : Int) (ha : a ≠ 0) (ba : -9223372036854775808 ≤ a ∧ a ≤ 9223372036854775807) (hp : p = (a * b + 9223372036854775808) % 18446744073709551616 - 9223372036854775808) (h : fit (a * b) = false) : p.tdiv a ≠ b := by
  intro e
  obtain ⟨f, s1, s2, l1, l2⟩ := t_facts p a ha
  rw [e] at f
  rw [fit_no] at h
  generalize a * b = x at *
  rcases Int.lt_or_lt_of_ne ha with g | g
  · have := l2 g; omega
  · have := l1 g; omega
theorem mul_in (a b : Int) (ha : a ≠ 0) : (a * b).tdiv a = b := Int.mul_tdiv_cancel_left b ha
/-- the size of a number -/
def sz (a : Int) : Int := if 0 ≤ a then a else -a
theorem sz_bd (a : Int) (ba : -9223372036854775808 ≤ a ∧ a ≤ 9223372036854775807) : 0 ≤ sz a ∧ sz a ≤ 9223372036854775808 := by unfold sz; split <;> omega
/-- the quotient and the remainder by those of the sizes: the same sign -/
theorem dv_same (a b : Int) (h : (a < 0 ∧ b < 0) ∨ (0 ≤ a ∧ 0 ≤ b)) : dv a b = sz a / sz b ∧ (b < 0 → md a b = -(sz a % sz b)) ∧ (0 ≤ b → md a b = sz a % sz b) := by
  unfold dv md sz
  rcases h with ⟨h1, h2⟩ | ⟨h1, h2⟩
  · have g1 : ¬ 0 ≤ a := by omega
    have g2 : ¬ 0 ≤ b := by omega
    rw [if_pos h2, if_pos h2, if_neg g1, if_neg g2]; exact ⟨rfl, fun _ => rfl, fun g => by omega⟩
  · have g : ¬ b < 0 := by omega
    rw [if_neg g, if_neg g, if_pos h1, if_pos h2]; exact ⟨rfl, fun g => by omega, fun _ => rfl⟩
theorem dv_other (a b : Int) (hb : b ≠ 0) (h : (a < 0 ∧ 0 ≤ b) ∨ (0 ≤ a ∧ b < 0)) :
    (sz a % sz b = 0 → dv a b = -(sz a / sz b) ∧ md a b = 0) ∧ (0 < sz a % sz b → dv a b = -(sz a / sz b + 1) ∧ (b < 0 → md a b = -(sz b - sz a % sz b)) ∧ (0 ≤ b → md a b = sz b - sz a % sz b)) := by
  have hs : 0 < sz b := by unfold sz; split <;> omega
  have e := Int.emod_add_mul_ediv (sz a) (sz b)
  have e1 := Int.emod_nonneg (sz a) (show sz b ≠ 0 by omega)
  have e2 := Int.emod_lt_of_pos (sz a) hs
  generalize sz a / sz b = q at *
  generalize sz a % sz b = r at *
  rcases h with ⟨h1, h2⟩ | ⟨h1, h2⟩
  · have ea : sz a = -a := by unfold sz; rw [if_neg (by omega)]
    have eb : sz b = b := by unfold sz; rw [if_pos h2]
    rw [ea, eb] at e; rw [eb] at e2 ⊢
    refine ⟨fun h0 => dv_unique a b _ _ hb ?_ (fun _ => by omega) (fun _ => by omega), fun h0 => ?_⟩
    · rw [Int.mul_neg]; omega
    · have := dv_unique a b (-(q + 1)) (b - r) hb (by rw [Int.mul_neg, Int.mul_add]; omega) (fun _ => by omega) (fun _ => by omega)
      exact ⟨this.1, fun g => by omega, fun _ => this.2⟩
  · have ea : sz a = a := by unfold sz; rw [if_pos h1]
    have eb : sz b = -b := by unfold sz; rw [if_neg (by omega)]
    rw [ea, eb, Int.neg_mul] at e; rw [eb] at e2 ⊢
    refine ⟨fun h0 => dv_unique a b _ _ hb ?_ (fun _ => by omega) (fun _ => by omega), fun h0 => ?_⟩
    · rw [Int.mul_neg]; omega
    · have := dv_unique a b (-(q + 1)) (-(-b - r)) hb (by rw [Int.mul_neg, Int.mul_add]; omega) (fun _ => by omega) (fun _ => by omega)
      exact ⟨this.1, fun _ => this.2, fun g => by omega⟩
theorem mul_sz (a b : Int) : (((a < 0 ∧ b < 0) ∨ (0 ≤ a ∧ 0 ≤ b)) → a * b = sz a * sz b) ∧ (((a < 0 ∧ 0 ≤ b) ∨ (0 ≤ a ∧ b < 0)) → a * b = -(sz a * sz b)) := by
  unfold sz
  refine ⟨?_, ?_⟩
  · rintro (⟨h1, h2⟩ | ⟨h1, h2⟩)
    · rw [if_neg (by omega), if_neg (by omega), Int.neg_mul_neg]
    · rw [if_pos h1, if_pos h2]
  · rintro (⟨h1, h2⟩ | ⟨h1, h2⟩)
    · rw [if_neg (by omega), if_pos h2, Int.neg_mul, Int.neg_neg]
    · rw [if_pos h1, if_neg (by omega), Int.mul_neg, Int.neg_neg]
/-- the sum of the first numbers, as long as they fit (0 where one does not) -/
def S (f : Nat → Int) : Nat → Int
  | 0 => 0
  | k + 1 => rs (S f k + f k)
/-- whether all sums of first numbers fit -/
def okS (f : Nat → Int) : Nat → Bool
  | 0 => true
  | k + 1 => okS f k && fit (S f k + f k)
theorem S_bd (f : Nat → Int) (k : Nat) : -9223372036854775808 ≤ S f k ∧ S f k ≤ 9223372036854775807 := by
  cases k with
  | zero => show -9223372036854775808 ≤ (0 : Int) ∧ (0 : Int) ≤ 9223372036854775807; omega
  | succ k => exact rs_bd _
theorem S_fit (f : Nat → Int) (k : Nat) : fit (S f k) = true := (fit_iff _).2 (S_bd f k)
theorem okS_le (f : Nat → Int) (j k : Nat) (h : j ≤ k) (hk : okS f k = true) : okS f j = true := by
  induction k with
  | zero => have : j = 0 := by omega
            subst this; exact hk
  | succ k ih =>
    by_cases e : j = k + 1
    · subst e; exact hk
    · simp only [okS, Bool.and_eq_true] at hk
      exact ih (by omega) hk.1
theorem okS_at (f : Nat → Int) (j k : Nat) (h : j < k) (hk : okS f k = true) : fit (S f j + f j) = true := by
  have := okS_le f (j + 1) k h hk
  simp only [okS, Bool.and_eq_true] at this
  exact this.2
theorem okS_no (f : Nat → Int) (j k : Nat) (h : j < k) (hj : fit (S f j + f j) = false) : okS f k = false := by
  by_cases e : okS f k = true
  · rw [okS_at f j k h e] at hj; cases hj
  · simpa using e
/-- what the sums yield, one by one -/
def pr (f : Nat → Int) (k : Nat) : Int × Bool := (S f (k + 1), fit (S f k + f k))
def upto {α : Type} (f : Nat → α) (k : Nat) : List α := (List.range k).map f
theorem upto_succ {α : Type} (f : Nat → α) (k : Nat) : upto f (k + 1) = upto f k ++ [f k] := by simp [upto, List.range_succ]
theorem upto_length {α : Type} (f : Nat → α) (k : Nat) : (upto f k).length = k := by simp [upto]
/-- the last one that has come -/
def lastS (l : List (Int × Bool)) : Int := (l.getLast?.map (·.1)).getD 0
theorem lastS_snoc (l : List (Int × Bool)) (x : Int × Bool) : lastS (l ++ [x]) = x.1 := by simp [lastS]
theorem lastS_upto (f : Nat → Int) (k : Nat) : lastS (upto (pr f) k) = S f k := by
  cases k with
  | zero => rfl
  | succ k => rw [upto_succ, lastS_snoc]; rfl
/-- all that have come fit -/
def fits (l : List (Int × Bool)) : Prop := ∀ p ∈ l, p.2 = true
theorem fits_snoc (l : List (Int × Bool)) (x : Int × Bool) (h : fits l) (hx : x.2 = true) : fits (l ++ [x]) := by
  intro p hp
  rcases List.mem_append.1 hp with g | g
  · exact h p g
  · simp at g; subst g; exact hx
theorem fits_upto (f : Nat → Int) (k : Nat) (h : fits (upto (pr f) k)) : okS f k = true := by
  induction k with
  | zero => rfl
  | succ k ih =>
    rw [upto_succ] at h
    have h1 := ih (fun p hp => h p (List.mem_append.2 (.inl hp)))
    have h2 := h (pr f k) (by simp)
    simp only [okS, Bool.and_eq_true]
    exact ⟨h1, h2⟩
/-- one that has come last does not fit -/
def unfit (l : List (Int × Bool)) : Prop := ∃ i x, l = i ++ [x] ∧ x.2 = false
theorem unfit_upto (f : Nat → Int) (k n : Nat) (hk : k ≤ n) (h : unfit (upto (pr f) k)) : okS f n = false := by
  obtain ⟨i, x, e, hx⟩ := h
  cases k with
  | zero => simp [upto] at e
  | succ k =>
    rw [upto_succ] at e
    obtain ⟨_, e2⟩ := List.append_inj' e rfl
    simp at e2
    exact okS_no f k n (by omega) (by rw [← e2] at hx; exact hx)
/-- the sum of the first numbers, if all sums fit, else 0 -/
def sT (f : Nat → Int) (k : Nat) : Int := if okS f k then S f k else 0
theorem sT_yes (f : Nat → Int) (k : Nat) (h : okS f k = true) : sT f k = S f k := by unfold sT; rw [h]; rfl
theorem sT_no (f : Nat → Int) (k : Nat) (h : okS f k = false) : sT f k = 0 := by unfold sT; rw [h]; rfl
theorem S_congr (f g : Nat → Int) (k : Nat) (h : ∀ j, j < k → f j = g j) : S f k = S g k ∧ okS f k = okS g k := by
  induction k with
  | zero => exact ⟨rfl, rfl⟩
  | succ k ih =>
    obtain ⟨e1, e2⟩ := ih (fun j hj => h j (by omega))
    have e3 := h k (by omega)
    simp only [S, okS]
    rw [e1, e2, e3]
    exact ⟨rfl, rfl⟩
/-- one number more: what the sum of the first ones and it gives -/
theorem sT_step (f : Nat → Int) (k : Nat) (r : Int) (c : Bool) (h : rs (sT f k + f k) = r ∧ fit (sT f k + f k) = c) :
    (okS f k = true ∧ c = true ∧ okS f (k + 1) = true ∧ sT f (k + 1) = r) ∨ (okS f k = true ∧ c = false ∧ okS f (k + 1) = false ∧ sT f (k + 1) = 0) ∨ (okS f k = false ∧ okS f (k + 1) = false ∧ sT f (k + 1) = 0) := by
  obtain ⟨rfl, rfl⟩ := h
  have e : okS f (k + 1) = (okS f k && fit (S f k + f k)) := rfl
  cases o : okS f k with
  | false =>
    rw [o] at e
    exact .inr (.inr ⟨rfl, e, sT_no f _ e⟩)
  | true =>
    rw [o] at e
    rw [sT_yes f k o]
    cases c : fit (S f k + f k) with
    | true =>
      rw [c] at e
      exact .inl ⟨rfl, rfl, e, by rw [sT_yes f _ e]; rfl⟩
    | false =>
      rw [c] at e
      exact .inr (.inl ⟨rfl, rfl, e, sT_no f _ e⟩)
theorem sT_fit (f : Nat → Int) (k : Nat) : fit (sT f k) = true := by
  unfold sT
  split
  · exact S_fit f k
  · rfl
end Go.Proofs.Ytejdeaacpjgjiaa.Ck
