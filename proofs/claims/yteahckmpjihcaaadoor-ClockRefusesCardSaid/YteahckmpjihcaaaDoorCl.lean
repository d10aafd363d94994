/- Times of day as text in plain lists of bytes: the letter, its base; what a string means; the string. No program in sight. -/
import Derived.Test.YteahckmpjihcaaaDoorOt
namespace Go.Proofs.YteahckmpjihcaaaDoor.Cl
/-- the base of a letter -/
def letB (c : UInt8) : Option Int := if c = 119 then some 0 else if c = 115 then some 1 else if c = 117 ∨ c = 103 ∨ c = 122 then some 2 else none
/-- the amount ahead of the letter, and the base -/
def cut (l : List UInt8) : List UInt8 × Int := match l.getLast? with
  | none => (l, 0)
  | some c => match letB c with
    | some b => (l.dropLast, b)
    | none => (l, 0)
/-- seconds, base, error -/
def fin (r : Int × Int) (b : Int) : Int × Int × Int := if r.2 = 0 then (r.1, b, 0) else (0, 0, r.2)
def parse (l : List UInt8) : Int × Int × Int := fin (Of.parse (cut l).1) (cut l).2
def canon (b : Int) : List UInt8 := if b = 1 then [115] else if b = 2 then [117] else []
def prt (x b : Int) : List UInt8 := Of.prt x ++ canon b
/-- which times of day are right -/
def ok (x b : Int) : Bool := decide ((-604799 ≤ x ∧ x ≤ 604799) ∧ (0 ≤ b ∧ b ≤ 2))
def chk (x b : Int) : Int := if ok x b = true then 0 else 2
/-- the string, the error -/
def prs (x b : Int) : ByteArray × Int := if ok x b = true then (⟨(prt x b).toArray⟩, 0) else (⟨#[]⟩, 2)
theorem letB_bd {c : UInt8} {b : Int} (h : letB c = some b) : 0 ≤ b ∧ b ≤ 2 := by
  unfold letB at h
  split at h
  · cases h; omega
  · split at h
    · cases h; omega
    · split at h
      · cases h; omega
      · cases h
theorem letB_dig {k : Nat} (h : k ≤ 9) : letB (Of.dig k) = none := by
  unfold letB
  rw [if_neg (Of.dig_ne h 119 (by decide)), if_neg (Of.dig_ne h 115 (by decide)), if_neg ?_]
  rintro (e | e | e)
  · exact Of.dig_ne h 117 (by decide) e
  · exact Of.dig_ne h 103 (by decide) e
  · exact Of.dig_ne h 122 (by decide) e
theorem cut_snoc (l : List UInt8) (c : UInt8) : cut (l ++ [c]) = match letB c with | some b => (l, b) | none => (l ++ [c], 0) := by
  unfold cut; simp
theorem cut_nil : cut [] = ([], 0) := rfl
theorem cut_let (l : List UInt8) (c : UInt8) (b : Int) (h : letB c = some b) : cut (l ++ [c]) = (l, b) := by rw [cut_snoc, h]
theorem cut_no (l : List UInt8) (c : UInt8) (h : letB c = none) : cut (l ++ [c]) = (l ++ [c], 0) := by rw [cut_snoc, h]
theorem cut_bd (l : List UInt8) : 0 ≤ (cut l).2 ∧ (cut l).2 ≤ 2 := by
  unfold cut
  split
  · exact ⟨Int.le_refl 0, (by decide : (0 : Int) ≤ 2)⟩
  · split
    · rename_i h; exact letB_bd h
    · exact ⟨Int.le_refl 0, (by decide : (0 : Int) ≤ 2)⟩
/-- an amount's string ends in a digit -/
theorem dec_last {n : Nat} (h : n < 1000) : ∃ l k, k ≤ 9 ∧ Of.dec n = l ++ [Of.dig k] := by
  unfold Of.dec
  by_cases h1 : n < 10
  · rw [if_pos h1]; exact ⟨[], n, by omega, rfl⟩
  · by_cases h2 : n < 100
    · rw [if_neg h1, if_pos h2]; exact ⟨[_], n % 10, by omega, rfl⟩
    · rw [if_neg h1, if_neg h2]; exact ⟨[_, _], n % 10, by omega, rfl⟩
theorem two_last (n : Nat) : ∃ l k, k ≤ 9 ∧ Of.two n = l ++ [Of.dig k] := ⟨[_], n % 10, by omega, rfl⟩
theorem body_last (y : Nat) : ∃ l k, k ≤ 9 ∧ Of.body y = l ++ [Of.dig k] := by
  unfold Of.body
  by_cases h : y % 60 = 0
  · rw [if_pos h]
    obtain ⟨l, k, hk, e⟩ := two_last (y / 60 % 60)
    exact ⟨Of.dec (y / 3600) ++ 58 :: l, k, hk, by rw [e]; simp⟩
  · rw [if_neg h]
    obtain ⟨l, k, hk, e⟩ := two_last (y % 60)
    exact ⟨Of.dec (y / 3600) ++ 58 :: (Of.two (y / 60 % 60) ++ 58 :: l), k, hk, by rw [e]; simp⟩
theorem prt_last (x : Int) : ∃ l k, k ≤ 9 ∧ Of.prt x = l ++ [Of.dig k] := by
  obtain ⟨l, k, hk, e⟩ := body_last x.natAbs
  unfold Of.prt
  split
  · exact ⟨45 :: l, k, hk, by rw [e]; rfl⟩
  · exact ⟨l, k, hk, e⟩
theorem cut_prt (x : Int) : cut (Of.prt x) = (Of.prt x, 0) := by
  obtain ⟨l, k, hk, e⟩ := prt_last x
  rw [e]; exact cut_no l _ (letB_dig hk)
/-- a string of an amount, a letter behind it -/
theorem parse_let {x : Int} (h1 : -604799 ≤ x) (h2 : x ≤ 604799) (c : UInt8) (b : Int) (h : letB c = some b) : parse (Of.prt x ++ [c]) = (x, b, 0) := by
  unfold parse
  rw [cut_let _ _ _ h, Of.parse_prt h1 h2]; rfl
theorem parse_wall {x : Int} (h1 : -604799 ≤ x) (h2 : x ≤ 604799) : parse (Of.prt x) = (x, 0, 0) := by
  unfold parse
  rw [cut_prt, Of.parse_prt h1 h2]; rfl
theorem parse_prt {x b : Int} (h1 : -604799 ≤ x) (h2 : x ≤ 604799) (b1 : 0 ≤ b) (b2 : b ≤ 2) : parse (prt x b) = (x, b, 0) := by
  unfold prt
  have : b = 0 ∨ b = 1 ∨ b = 2 := by omega
  rcases this with rfl | rfl | rfl
  · show parse (Of.prt x ++ []) = _
    rw [List.append_nil]; exact parse_wall h1 h2
  · exact parse_let h1 h2 115 1 rfl
  · exact parse_let h1 h2 117 2 rfl
theorem prt_inj {x b y c : Int} (h1 : -604799 ≤ x) (h2 : x ≤ 604799) (b1 : 0 ≤ b) (b2 : b ≤ 2) (h3 : -604799 ≤ y) (h4 : y ≤ 604799) (c1 : 0 ≤ c) (c2 : c ≤ 2) (h : prt x b = prt y c) : x = y ∧ b = c := by
  have := parse_prt h1 h2 b1 b2
  rw [h, parse_prt h3 h4 c1 c2] at this
  simp only [Prod.mk.injEq, and_true] at this
  exact ⟨this.1.symm, this.2.symm⟩
theorem prt_len (x b : Int) : 4 ≤ (prt x b).length ∧ (prt x b).length ≤ 11 := by
  have := Of.prt_len x
  have hc : (canon b).length ≤ 1 := by unfold canon; split; · exact Nat.le_refl 1
                                       split; · exact Nat.le_refl 1
                                       exact Nat.zero_le 1
  unfold prt; rw [List.length_append]; omega
/-- what is parsed is right -/
theorem parse_bd (l : List UInt8) : (-604799 ≤ (parse l).1 ∧ (parse l).1 ≤ 604799) ∧ (0 ≤ (parse l).2.1 ∧ (parse l).2.1 ≤ 2) ∧ ((parse l).2.2 = 0 ∨ ((parse l).2.2 = 3 ∧ (parse l).1 = 0 ∧ (parse l).2.1 = 0) ∨ ((parse l).2.2 = 5 ∧ (parse l).1 = 0 ∧ (parse l).2.1 = 0)) := by
  have h := Of.parse_bd (cut l).1
  have hc := cut_bd l
  unfold parse fin
  split
  · exact ⟨h.1, hc, .inl rfl⟩
  · rename_i h0
    refine ⟨by simp, by simp, ?_⟩
    rcases h.2 with e | e | e
    · exact absurd e h0
    · exact .inr (.inl ⟨e.1, rfl, rfl⟩)
    · exact .inr (.inr ⟨e.1, rfl, rfl⟩)
/-- one byte more behind an amount's string spoils it -/
theorem ofparse_more {x : Int} (h1 : -604799 ≤ x) (h2 : x ≤ 604799) (c : UInt8) : Of.parse (Of.prt x ++ [c]) = (0, 5) := by
  unfold Of.prt
  split
  · rw [List.cons_append, Of.parse_minus, Of.form_more (by omega) c [] (fun _ => rfl)]
  · exact Of.parse_more (by omega) c [] (fun _ => rfl)
theorem parse_no {x : Int} (h1 : -604799 ≤ x) (h2 : x ≤ 604799) (c : UInt8) (h : letB c = none) : parse (Of.prt x ++ [c]) = (0, 0, 5) := by
  unfold parse
  rw [cut_no _ _ h, ofparse_more h1 h2]; rfl
theorem parse_twice {x : Int} (h1 : -604799 ≤ x) (h2 : x ≤ 604799) (c d : UInt8) (b : Int) (h : letB d = some b) : parse (Of.prt x ++ [c, d]) = (0, 0, 5) := by
  unfold parse
  rw [show Of.prt x ++ [c, d] = (Of.prt x ++ [c]) ++ [d] by simp, cut_let _ _ _ h, ofparse_more h1 h2]; rfl
end Go.Proofs.YteahckmpjihcaaaDoor.Cl
