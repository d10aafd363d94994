/- Which strings are names, as plain lists of bytes. No program is named. -/
import Derived.Test.YtndpoijmkdephaaDoorLy
namespace Go.Proofs.YtndpoijmkdephaaDoor.Nm
open Go
/-- the kind of a byte: a number of one bit, or nought -/
def kd (c : Nat) : Nat := if (65 ≤ c ∧ c ≤ 90) ∨ (97 ≤ c ∧ c ≤ 122) then 1 else if 48 ≤ c ∧ c ≤ 57 then 2 else if c = 95 then 4 else if c = 45 then 8 else if c = 43 then 16 else if c = 46 then 32 else 0
def isK (m c : Nat) : Bool := (kd c &&& m) != 0
def isL (c : UInt8) : Bool := isK 1 c.toNat
def isG (c : UInt8) : Bool := isK 2 c.toNat
def inS (c : UInt8) : Bool := isK 15 c.toNat
def inP (c : UInt8) : Bool := isK 63 c.toNat
def atP (c : UInt8) : Bool := isK 23 c.toNat
/-- a property of bytes, tried at each -/
theorem each (p : UInt8 → Bool) (h : ∀ n, n < 256 → p (UInt8.ofNat n) = true) (c : UInt8) : p c = true := by
  have := h c.toNat c.toNat_lt
  rwa [UInt8.ofNat_toNat] at this
theorem inS_eq (c : UInt8) : inS c = (isL c || isG c || c == 95 || c == 45) := by
  have := each (fun c => inS c == (isL c || isG c || c == 95 || c == 45)) (by decide +kernel) c
  exact beq_iff_eq.1 this
theorem inP_eq (c : UInt8) : inP c = (isL c || isG c || c == 46 || c == 95 || c == 43 || c == 45) := by
  have := each (fun c => inP c == (isL c || isG c || c == 46 || c == 95 || c == 43 || c == 45)) (by decide +kernel) c
  exact beq_iff_eq.1 this
theorem atP_eq (c : UInt8) : atP c = (inP c && c != 46 && c != 45) := by
  have := each (fun c => atP c == (inP c && c != 46 && c != 45)) (by decide +kernel) c
  exact beq_iff_eq.1 this
theorem slash_inP : inP 47 = false := by decide
theorem isL_inS {c : UInt8} (h : isL c = true) : inS c = true := by rw [inS_eq, h]; rfl
theorem inS_inP {c : UInt8} (h : inS c = true) : inP c = true := by
  have := each (fun c => !inS c || inP c) (by decide +kernel) c
  simpa [h] using this
theorem isL_atP {c : UInt8} (h : isL c = true) : atP c = true := by
  have := each (fun c => !isL c || atP c) (by decide +kernel) c
  simpa [h] using this
theorem atP_inP {c : UInt8} (h : atP c = true) : inP c = true := by
  rw [atP_eq] at h; simp at h; exact h.1.1
theorem kd_le (c : Nat) : kd c = 0 ∨ kd c = 1 ∨ kd c = 2 ∨ kd c = 4 ∨ kd c = 8 ∨ kd c = 16 ∨ kd c = 32 := by
  unfold kd; repeat' split
  all_goals simp
theorem kd_high {c : Nat} (h : 128 ≤ c) : kd c = 0 := by
  unfold kd; repeat (rw [if_neg (by omega)])
theorem inP_slash {c : UInt8} (h : inP c = true) : c ≠ 47 := fun e => by rw [e, slash_inP] at h; cases h
/-- bytes taken one by one, up to the first that is not -/
def run (st : Nat → UInt8 → Bool × Nat) : Nat → List UInt8 → Bool × Nat
  | k, [] => (true, k)
  | k, c :: r => if (st k c).1 then run st (st k c).2 r else (false, (st k c).2)
def zst (k : Nat) (c : UInt8) : Bool × Nat := if c = 47 then (decide (0 < k), 0) else if k = 0 then (atP c, 1) else (decide (k + 1 ≤ 14) && inP c, k + 1)
def sst (k : Nat) (c : UInt8) : Bool × Nat := if k = 0 then (isL c, 1) else (decide (k + 1 ≤ 30) && inS c, k + 1)
def lst (m k : Nat) (c : UInt8) : Bool × Nat := (decide (k + 1 ≤ m) && isL c, k + 1)
theorem run_append (st : Nat → UInt8 → Bool × Nat) : ∀ (k : Nat) (a b : List UInt8), run st k (a ++ b) = if (run st k a).1 then run st (run st k a).2 b else run st k a
  | k, [], b => by simp [run]
  | k, c :: a, b => by
    rw [List.cons_append, run, run]
    by_cases h : (st k c).1 = true
    · rw [if_pos h, if_pos h]; exact run_append st _ a b
    · rw [if_neg h, if_neg h]; rfl
theorem run_snoc (st : Nat → UInt8 → Bool × Nat) (k : Nat) (a : List UInt8) (c : UInt8) (h : (run st k a).1 = true) : run st k (a ++ [c]) = st (run st k a).2 c := by
  rw [run_append, if_pos h]
  generalize (run st k a).2 = j
  rw [run]
  by_cases h2 : (st j c).1 = true
  · rw [if_pos h2, run]; exact Prod.ext h2.symm rfl
  · rw [if_neg h2]; exact Prod.ext (Bool.eq_false_iff.2 h2).symm rfl
theorem run_bad (st : Nat → UInt8 → Bool × Nat) (k : Nat) (a b : List UInt8) (h : (run st k a).1 = false) : (run st k (a ++ b)).1 = false := by
  rw [run_append, h]; simpa using h
/-- the whole is taken, and a part is not empty at the end -/
def zr (k : Nat) (l : List UInt8) : Bool := (run zst k l).1 && decide (0 < (run zst k l).2)
def zone (l : List UInt8) : Bool := decide (l.length ≤ 60) && zr 0 l
def set (l : List UInt8) : Bool := decide (0 < l.length) && (run sst 0 l).1
def lets (a m : Nat) (l : List UInt8) : Bool := decide (a ≤ l.length) && (run (lst m) 0 l).1
/-- a part of the name of a zone -/
def part (l : List UInt8) : Bool := decide (0 < l.length) && decide (l.length ≤ 14) && (l.head?.any atP) && l.all inP
theorem zr_nil (k : Nat) : zr k [] = decide (0 < k) := rfl
theorem zr_slash (k : Nat) (r : List UInt8) : zr k (47 :: r) = (decide (0 < k) && zr 0 r) := by
  unfold zr
  rw [run]
  have e : zst k 47 = (decide (0 < k), 0) := rfl
  rw [e]
  by_cases h : 0 < k
  · simp [h]
  · simp [h]
theorem zr_cons0 (c : UInt8) (r : List UInt8) (h : c ≠ 47) : zr 0 (c :: r) = (atP c && zr 1 r) := by
  unfold zr
  rw [run]
  have e : zst 0 c = (atP c, 1) := by unfold zst; rw [if_neg h, if_pos rfl]
  rw [e]
  cases atP c <;> simp
theorem zr_cons (k : Nat) (c : UInt8) (r : List UInt8) (h : c ≠ 47) : zr (k + 1) (c :: r) = (decide (k + 2 ≤ 14) && inP c && zr (k + 2) r) := by
  unfold zr
  rw [run]
  have e : zst (k + 1) c = (decide (k + 2 ≤ 14) && inP c, k + 2) := by unfold zst; rw [if_neg h, if_neg (by omega)]
  rw [e]
  cases hq : (decide (k + 2 ≤ 14) && inP c) <;> simp
/-- what is between slashes -/
theorem zr_go (x : List UInt8) (h : ∀ c ∈ x, c ≠ 47) (k : Nat) (r : List UInt8) (hr : r = [] ∨ ∃ s, r = 47 :: s) :
    zr (k + 1) (x ++ r) = (decide (k + 1 + x.length ≤ 14 ∨ x = []) && x.all inP && (r == [] || zr 0 (r.drop 1))) := by
  induction x generalizing k with
  | nil =>
    rcases hr with rfl | ⟨s, rfl⟩
    · simp [zr_nil]
    · rw [List.nil_append, zr_slash]; simp
  | cons c x ih =>
    rw [List.cons_append, zr_cons _ _ _ (h c (by simp)), ih (fun d hd => h d (by simp [hd])) (k + 1)]
    have e : decide (k + 1 + (c :: x).length ≤ 14 ∨ c :: x = []) = (decide (k + 2 ≤ 14) && decide (k + 1 + 1 + x.length ≤ 14 ∨ x = [])) := by
      rw [← Bool.decide_and]
      apply decide_eq_decide.2
      simp only [List.length_cons, reduceCtorEq, or_false]
      constructor
      · intro h; exact ⟨by omega, .inl (by omega)⟩
      · rintro ⟨h1, h2 | rfl⟩
        · omega
        · simp; omega
    rw [e, List.all_cons]
    cases decide (k + 2 ≤ 14) <;> cases inP c <;> cases decide (k + 1 + 1 + x.length ≤ 14 ∨ x = []) <;> simp
theorem zr_part (x : List UInt8) (h : ∀ c ∈ x, c ≠ 47) (r : List UInt8) (hr : r = [] ∨ ∃ s, r = 47 :: s) :
    zr 0 (x ++ r) = (part x && (r == [] || zr 0 (r.drop 1))) := by
  cases x with
  | nil =>
    rcases hr with rfl | ⟨s, rfl⟩
    · rfl
    · rw [List.nil_append, zr_slash]; rfl
  | cons c x =>
    rw [List.cons_append, zr_cons0 _ _ (h c (by simp)), zr_go x (fun d hd => h d (by simp [hd])) 0 r hr]
    have e : part (c :: x) = (decide (0 + 1 + x.length ≤ 14 ∨ x = []) && (atP c && (inP c && x.all inP))) := by
      unfold part
      have e1 : decide (0 < (c :: x).length) = true := by simp
      have e2 : decide ((c :: x).length ≤ 14) = decide (0 + 1 + x.length ≤ 14 ∨ x = []) := by
        apply decide_eq_decide.2
        simp only [List.length_cons]
        constructor
        · intro h; exact .inl (by omega)
        · rintro (h | rfl)
          · omega
          · simp
      rw [e1, e2]
      simp only [List.head?_cons, Option.any_some, List.all_cons, Bool.true_and, Bool.and_assoc]
    rw [e]
    cases ha : atP c
    · simp
    · rw [atP_inP ha]; simp [Bool.and_assoc]
theorem part_slash {x : List UInt8} (h : part x = true) : ∀ c ∈ x, c ≠ 47 := by
  unfold part at h
  simp only [Bool.and_eq_true] at h
  intro c hc
  exact inP_slash (List.all_eq_true.1 h.2 c hc)
theorem zr_app (k : Nat) (a b : List UInt8) : zr k (a ++ 47 :: b) = (zr k a && zr 0 b) := by
  unfold zr
  rw [run_append]
  by_cases h : (run zst k a).1 = true
  · rw [if_pos h, h]
    have := zr_slash (run zst k a).2 b
    unfold zr at this
    rw [this]; simp
  · rw [if_neg h]; simp [h]
theorem zr_of_part {x : List UInt8} (h : part x = true) : zr 0 x = true := by
  have := zr_part x (part_slash h) [] (.inl rfl)
  rw [List.append_nil, h] at this
  rw [this]; rfl
theorem part_of_zr {x : List UInt8} (hs : ∀ c ∈ x, c ≠ 47) : zr 0 x = part x := by
  have := zr_part x hs [] (.inl rfl)
  rw [List.append_nil] at this
  rw [this]; simp
/-- a name of a zone is split into parts -/
theorem split_slash : ∀ (l : List UInt8) (x : List UInt8), x ∈ Lx.split 47 l → ∀ c ∈ x, c ≠ 47
  | [], x, hx, c, hc => by
    simp [Lx.split] at hx; subst hx; cases hc
  | b :: r, x, hx, c, hc => by
    unfold Lx.split at hx
    split at hx
    · rcases List.mem_cons.1 hx with rfl | hx
      · cases hc
      · exact split_slash r x hx c hc
    · rename_i hb
      cases hP : Lx.split 47 r with
      | nil => exact absurd hP (Lx.split_ne 47 r)
      | cons h t =>
        rw [hP] at hx
        simp only [Lx.ahead] at hx
        rcases List.mem_cons.1 hx with rfl | hx
        · rcases List.mem_cons.1 hc with rfl | hc
          · exact hb
          · exact split_slash r h (by rw [hP]; simp) c hc
        · exact split_slash r x (by rw [hP]; simp [hx]) c hc
theorem split_app : ∀ (x : List UInt8), (∀ c ∈ x, c ≠ 47) → ∀ (r : List UInt8), Lx.split 47 (x ++ 47 :: r) = x :: Lx.split 47 r
  | [], _, r => by simp [Lx.split]
  | c :: x, hx, r => by
    rw [List.cons_append, Lx.split, if_neg (hx c (by simp)), split_app x (fun d hd => hx d (by simp [hd])) r]; rfl
theorem split_one : ∀ (x : List UInt8), (∀ c ∈ x, c ≠ 47) → Lx.split 47 x = [x]
  | [], _ => rfl
  | c :: x, hx => by
    rw [Lx.split, if_neg (hx c (by simp)), split_one x (fun d hd => hx d (by simp [hd]))]; rfl
/-- up to the first slash -/
theorem cut_slash (l : List UInt8) : (∀ c ∈ l, c ≠ 47) ∨ ∃ x r, l = x ++ 47 :: r ∧ (∀ c ∈ x, c ≠ 47) := by
  induction l with
  | nil => left; simp
  | cons c l ih =>
    by_cases hc : c = 47
    · right; exact ⟨[], l, by rw [hc]; rfl, by simp⟩
    · rcases ih with h | ⟨x, r, rfl, hx⟩
      · left; intro d hd; rcases List.mem_cons.1 hd with rfl | hd
        · exact hc
        · exact h d hd
      · right; refine ⟨c :: x, r, rfl, ?_⟩
        intro d hd; rcases List.mem_cons.1 hd with rfl | hd
        · exact hc
        · exact hx d hd
theorem zr_split (n : Nat) : ∀ l : List UInt8, l.length ≤ n → zr 0 l = (Lx.split 47 l).all part := by
  induction n with
  | zero => intro l hl; obtain rfl := List.eq_nil_of_length_eq_zero (by omega : l.length = 0); rfl
  | succ n ih =>
    intro l hl
    rcases cut_slash l with h | ⟨x, r, rfl, hx⟩
    · rw [split_one l h, part_of_zr h]; simp
    · simp at hl
      rw [split_app x hx r, zr_app, part_of_zr hx, ih r (by omega)]; rfl
theorem split_names {l : List UInt8} (h : zr 0 l = true) : ∀ x ∈ Lx.split 47 l, zr 0 x = true ∧ x.length ≤ 14 := by
  rw [zr_split l.length l (Nat.le_refl _)] at h
  intro x hx
  have hp := List.all_eq_true.1 h x hx
  refine ⟨zr_of_part hp, ?_⟩
  unfold part at hp; simp at hp; omega
/-- letters alone -/
theorem run_lst (m : Nat) : ∀ (l : List UInt8) (k : Nat), (run (lst m) k l).1 = (decide (l = [] ∨ k + l.length ≤ m) && l.all isL)
  | [], k => by simp [run]
  | c :: l, k => by
    have e : lst m k c = (decide (k + 1 ≤ m) && isL c, k + 1) := rfl
    rw [run, e]
    have ih := run_lst m l (k + 1)
    have e2 : decide (c :: l = [] ∨ k + (c :: l).length ≤ m) = (decide (k + 1 ≤ m) && decide (l = [] ∨ k + 1 + l.length ≤ m)) := by
      rw [← Bool.decide_and]
      apply decide_eq_decide.2
      simp only [List.length_cons, reduceCtorEq, false_or]
      constructor
      · intro h; exact ⟨by omega, .inr (by omega)⟩
      · rintro ⟨h1, rfl | h2⟩
        · simpa using h1
        · omega
    rw [e2, List.all_cons]
    cases hd : decide (k + 1 ≤ m) <;> cases hL : isL c <;> simp [ih]
theorem lets_eq (a m : Nat) (l : List UInt8) : lets a m l = (decide (a ≤ l.length) && decide (l = [] ∨ l.length ≤ m) && l.all isL) := by
  unfold lets; rw [run_lst, Nat.zero_add, Bool.and_assoc]
theorem lets_alike (a m : Nat) (l : List UInt8) : lets a m l = (decide (a ≤ l.length) && decide (l.length ≤ m) && l.all isL) := by
  rw [lets_eq]
  cases l with
  | nil => simp
  | cons c l => simp
theorem run_sst : ∀ (l : List UInt8) (k : Nat), (run sst (k + 1) l).1 = (decide (l = [] ∨ k + 1 + l.length ≤ 30) && l.all inS)
  | [], k => by simp [run]
  | c :: l, k => by
    have e : sst (k + 1) c = (decide (k + 2 ≤ 30) && inS c, k + 2) := by unfold sst; rw [if_neg (by omega)]
    rw [run, e]
    have ih := run_sst l (k + 1)
    have e2 : decide (c :: l = [] ∨ k + 1 + (c :: l).length ≤ 30) = (decide (k + 2 ≤ 30) && decide (l = [] ∨ k + 1 + 1 + l.length ≤ 30)) := by
      rw [← Bool.decide_and]
      apply decide_eq_decide.2
      simp only [List.length_cons, reduceCtorEq, false_or]
      constructor
      · intro h; exact ⟨by omega, .inr (by omega)⟩
      · rintro ⟨h1, rfl | h2⟩
        · simp; omega
        · omega
    rw [e2, List.all_cons]
    cases hd : decide (k + 2 ≤ 30) <;> cases hL : inS c <;> simp [ih]
theorem set_eq (l : List UInt8) : set l = (decide (0 < l.length) && decide (l.length ≤ 30) && l.head?.any isL && l.all inS) := by
  unfold set
  cases l with
  | nil => rfl
  | cons c l =>
    have e : sst 0 c = (isL c, 1) := by unfold sst; rw [if_pos rfl]
    rw [run, e]
    have h := run_sst l 0
    have e2 : decide ((c :: l).length ≤ 30) = decide (l = [] ∨ 0 + 1 + l.length ≤ 30) := by
      apply decide_eq_decide.2
      simp only [List.length_cons]
      constructor
      · intro h; exact .inr (by omega)
      · rintro (rfl | h)
        · simp
        · omega
    rw [e2]
    cases hL : isL c
    · simp [hL]
    · simp [hL, h, isL_inS hL]
end Go.Proofs.YtndpoijmkdephaaDoor.Nm
