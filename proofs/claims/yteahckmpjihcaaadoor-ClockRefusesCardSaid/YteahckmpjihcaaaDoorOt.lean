/- The strings of amounts of time in plain lists of bytes: digits, the string, what it is read as. No program in sight. -/
import Derived.Test.YteahckmpjihcaaaDoorOf
namespace Go.Proofs.YteahckmpjihcaaaDoor.Of
def dig (k : Nat) : UInt8 := UInt8.ofNat (48 + k)
theorem dig_nat {k : Nat} (h : k ≤ 9) : (dig k).toNat = 48 + k := by
  unfold dig; rw [UInt8.toNat_ofNat']; omega
theorem dig_isD {k : Nat} (h : k ≤ 9) : isD (dig k) = true := by
  simp only [isD, dig_nat h, decide_eq_true_eq]; omega
theorem dig_dv {k : Nat} (h : k ≤ 9) : dv (dig k) = k := by
  simp only [dv, dig_nat h]; omega
theorem dig_ne {k : Nat} (h : k ≤ 9) (c : UInt8) (hc : c.toNat < 48 ∨ 57 < c.toNat) : dig k ≠ c := by
  intro e; have := congrArg UInt8.toNat e; rw [dig_nat h] at this; omega
/-- the hours, up to three digits -/
def dec (n : Nat) : List UInt8 := if n < 10 then [dig n] else if n < 100 then [dig (n / 10), dig (n % 10)] else [dig (n / 100), dig (n / 10 % 10), dig (n % 10)]
def two (n : Nat) : List UInt8 := [dig (n / 10), dig (n % 10)]
def body (y : Nat) : List UInt8 := dec (y / 3600) ++ 58 :: (two (y / 60 % 60) ++ (if y % 60 = 0 then [] else 58 :: two (y % 60)))
def prt (x : Int) : List UInt8 := if x < 0 then 45 :: body x.natAbs else body x.natAbs
theorem dec_digits {n : Nat} (h : n < 1000) : Lib.decDigits n = dec n := by
  unfold dec
  by_cases h1 : n < 10
  · rw [Lib.decDigits, dif_pos h1, if_pos h1]; rfl
  · rw [Lib.decDigits, dif_neg h1, if_neg h1]
    by_cases h2 : n < 100
    · rw [Lib.decDigits, dif_pos (by omega), if_pos h2]; rfl
    · rw [Lib.decDigits, dif_neg (by omega), if_neg h2, Lib.decDigits, dif_pos (by omega), show n / 10 / 10 = n / 100 by omega]; rfl
theorem dec_itoa {n : Nat} (h : n < 1000) : Lib.itoa (n : Int) = dec n := by
  unfold Lib.itoa; rw [if_neg (by omega), ← dec_digits h]; simp
theorem two_short {n : Nat} (h : n < 10) : 48 :: dec n = two n := by
  unfold dec two; rw [if_pos h, show n / 10 = 0 by omega, show n % 10 = n by omega]; rfl
theorem two_long {n : Nat} (h : 10 ≤ n) (h2 : n < 100) : dec n = two n := by
  unfold dec two; rw [if_neg (by omega), if_pos h2]
theorem dec_len (n : Nat) : (dec n).length = if n < 10 then 1 else if n < 100 then 2 else 3 := by
  unfold dec; split
  · rfl
  · split <;> rfl
theorem dec_le (n : Nat) : 1 ≤ (dec n).length ∧ (dec n).length ≤ 3 := by
  rw [dec_len]; split
  · omega
  · split <;> omega
/-- the hours are read back, whatever stands behind them but a digit -/
theorem dec_run {n : Nat} (h : n < 1000) (r : List UInt8) (hr : ∀ c, r[0]? = some c → isD c = false) : run3 (dec n ++ r) = dec n ∧ val (dec n) = n ∧ okH (dec n ++ r) := by
  unfold dec
  by_cases h1 : n < 10
  · simp only [if_pos h1, List.cons_append, List.nil_append]
    have e := run3_1 (dig n) r (dig_isD (by omega)) hr
    refine ⟨e, by simp [val, dig_dv (show n ≤ 9 by omega)], ?_⟩
    unfold okH; rw [e]; simp
  · by_cases h2 : n < 100
    · simp only [if_neg h1, if_pos h2, List.cons_append, List.nil_append]
      have e := run3_2 (dig (n / 10)) (dig (n % 10)) r (dig_isD (by omega)) (dig_isD (by omega)) hr
      refine ⟨e, by simp [val, dig_dv (show n / 10 ≤ 9 by omega), dig_dv (show n % 10 ≤ 9 by omega)]; omega, ?_⟩
      unfold okH; rw [e]; simp
      intro e2
      have := congrArg UInt8.toNat e2; rw [dig_nat (by omega)] at this; simp at this; omega
    · simp only [if_neg h1, if_neg h2, List.cons_append, List.nil_append]
      have e := run3_3 (dig (n / 100)) (dig (n / 10 % 10)) (dig (n % 10)) r (dig_isD (by omega)) (dig_isD (by omega)) (dig_isD (by omega))
      refine ⟨e, by simp [val, dig_dv (show n / 100 ≤ 9 by omega), dig_dv (show n / 10 % 10 ≤ 9 by omega), dig_dv (show n % 10 ≤ 9 by omega)]; omega, ?_⟩
      unfold okH; rw [e]; simp
      intro e2
      have := congrArg UInt8.toNat e2; rw [dig_nat (by omega)] at this; simp at this; omega
theorem pr_two {m : Nat} (h : m < 60) (r : List UInt8) : pr (two m ++ r) = some (m : Int) := by
  simp only [two, List.cons_append, List.nil_append, pr, dig_isD (show m / 10 ≤ 9 by omega), dig_isD (show m % 10 ≤ 9 by omega), dig_dv (show m / 10 ≤ 9 by omega), dig_dv (show m % 10 ≤ 9 by omega)]
  rw [if_pos (by simp; omega)]
  congr 1; omega
theorem form_hours {h : Nat} (hh : h < 1000) (r : List UInt8) (hr : ∀ c, r[0]? = some c → isD c = false) : form (dec h ++ r) = (tl r).map (3600 * (h : Int) + ·) := by
  obtain ⟨e, ev, ok⟩ := dec_run hh r hr
  rw [form_okH ok, e, ev, List.drop_left]
theorem form_hms {h m : Nat} (hh : h < 1000) (hm : m < 60) (r : List UInt8) : form (dec h ++ 58 :: (two m ++ r)) = (tl2 r).map (3600 * (h : Int) + 60 * m + ·) := by
  rw [form_hours hh _ (by simp [isD_58])]
  simp only [tl, if_true, pr_two hm]
  rw [show (two m ++ r).drop 2 = r from rfl]
  cases tl2 r
  · rfl
  · simp; omega
theorem tl2_two {s : Nat} (h : s < 60) : tl2 (58 :: two s) = some (s : Int) := by
  have := pr_two h []
  rw [List.append_nil] at this
  simp only [tl2, if_true, this]; rfl
theorem tl2_more {s : Nat} (h : s < 60) (c : UInt8) (r : List UInt8) : tl2 (58 :: (two s ++ c :: r)) = none := by
  simp only [tl2, if_true, pr_two h]; rfl
theorem form_body {y : Nat} (hy : y < 3600000) : form (body y) = some (y : Int) := by
  unfold body
  rw [form_hms (by omega) (by omega)]
  by_cases h0 : y % 60 = 0
  · rw [if_pos h0]; simp [tl2]; omega
  · rw [if_neg h0, tl2_two (by omega)]; simp; omega
/-- behind the string of an amount nothing more may stand -/
theorem form_more {y : Nat} (hy : y < 3600000) (c : UInt8) (r : List UInt8) (hc : c = 58 → r = []) : form (body y ++ c :: r) = none := by
  unfold body
  rw [List.append_assoc, List.cons_append, List.append_assoc, form_hms (by omega) (by omega)]
  by_cases h0 : y % 60 = 0
  · rw [if_pos h0]
    by_cases e : c = 58
    · subst e; rw [hc rfl]; simp [tl2, pr]
    · simp [tl2, e]
  · rw [if_neg h0, List.cons_append, tl2_more (by omega)]; rfl
theorem body_len (y : Nat) : 4 ≤ (body y).length ∧ (body y).length ≤ 9 := by
  have := dec_le (y / 3600)
  unfold body; split <;> simp [two] <;> omega
theorem prt_len (x : Int) : 4 ≤ (prt x).length ∧ (prt x).length ≤ 10 := by
  have := body_len x.natAbs
  unfold prt; split
  · simp; omega
  · omega
theorem dec_cons (n : Nat) (h : n < 1000) : ∃ k r, k ≤ 9 ∧ dec n = dig k :: r := by
  unfold dec
  by_cases h1 : n < 10
  · exact ⟨n, _, by omega, if_pos h1⟩
  · by_cases h2 : n < 100
    · exact ⟨n / 10, _, by omega, by rw [if_neg h1, if_pos h2]⟩
    · exact ⟨n / 100, _, by omega, by rw [if_neg h1, if_neg h2]⟩
theorem body_cons (y : Nat) (h : y < 3600000) : ∃ k r, k ≤ 9 ∧ body y = dig k :: r := by
  obtain ⟨k, r, hk, e⟩ := dec_cons (y / 3600) (by omega)
  exact ⟨k, _, hk, by unfold body; rw [e]; rfl⟩
theorem parse_noMinus {l : List UInt8} (h : l[0]? ≠ some 45) : parse l = match form l with | some x => if x > 604799 then (0, 3) else (x, 0) | none => (0, 5) := by
  unfold parse
  split
  · simp at h
  · rfl
theorem parse_minus (r : List UInt8) : parse (45 :: r) = match form r with | some x => if x = 0 then (0, 5) else if x > 604799 then (0, 3) else (-x, 0) | none => (0, 5) := rfl
theorem parse_prt {x : Int} (h : -604799 ≤ x) (h2 : x ≤ 604799) : parse (prt x) = (x, 0) := by
  unfold prt
  have hf := form_body (y := x.natAbs) (by omega)
  by_cases h0 : x < 0
  · rw [if_pos h0, parse_minus, hf]
    simp only
    rw [if_neg (by omega), if_neg (by omega)]
    simp only [Prod.mk.injEq, and_true]; omega
  · rw [if_neg h0]
    obtain ⟨k, r, hk, e⟩ := body_cons x.natAbs (by omega)
    rw [parse_noMinus (by rw [e]; simpa using dig_ne hk 45 (by decide)), hf]
    simp only
    rw [if_neg (by omega)]
    simp only [Prod.mk.injEq, and_true]; omega
theorem prt_inj {x y : Int} (hx : -604799 ≤ x) (hx2 : x ≤ 604799) (hy : -604799 ≤ y) (hy2 : y ≤ 604799) (h : prt x = prt y) : x = y := by
  have := parse_prt hx hx2
  rw [h, parse_prt hy hy2] at this
  exact (congrArg Prod.fst this).symm
theorem prt_neg {x : Int} (h : 0 < x) : prt (-x) = 45 :: prt x := by
  unfold prt; rw [if_pos (by omega), if_neg (by omega)]; simp
theorem parse_bd (l : List UInt8) : (-604799 ≤ (parse l).1 ∧ (parse l).1 ≤ 604799) ∧ ((parse l).2 = 0 ∨ ((parse l).2 = 3 ∧ (parse l).1 = 0) ∨ ((parse l).2 = 5 ∧ (parse l).1 = 0)) := by
  have key : ∀ (o : Option Int), (∀ x, o = some x → 0 ≤ x) → (-604799 ≤ (match o with | some x => if x > 604799 then ((0, 3) : Int × Int) else (x, 0) | none => (0, 5)).1 ∧ (match o with | some x => if x > 604799 then ((0, 3) : Int × Int) else (x, 0) | none => (0, 5)).1 ≤ 604799) ∧ ((match o with | some x => if x > 604799 then ((0, 3) : Int × Int) else (x, 0) | none => (0, 5)).2 = 0 ∨ ((match o with | some x => if x > 604799 then ((0, 3) : Int × Int) else (x, 0) | none => (0, 5)).2 = 3 ∧ (match o with | some x => if x > 604799 then ((0, 3) : Int × Int) else (x, 0) | none => (0, 5)).1 = 0) ∨ ((match o with | some x => if x > 604799 then ((0, 3) : Int × Int) else (x, 0) | none => (0, 5)).2 = 5 ∧ (match o with | some x => if x > 604799 then ((0, 3) : Int × Int) else (x, 0) | none => (0, 5)).1 = 0)) := by
    intro o ho
    cases o with
    | none => simp
    | some x =>
      have := ho x rfl
      simp only
      split <;> simp <;> omega
  by_cases h : l[0]? = some 45
  · match l with
    | [] => simp at h
    | c :: r =>
      simp at h
      subst h
      rw [parse_minus]
      cases hf : form r with
      | none => simp
      | some x =>
        have := form_bd hf
        simp only
        split
        · simp
        · split <;> simp <;> omega
  · rw [parse_noMinus h]
    exact key _ (fun x hx => (form_bd hx).1)
theorem form_bad (c : UInt8) (r : List UInt8) (h : isD c = false) : form (c :: r) = none := form_none0 (by rw [run3_cons c r h]; rfl)
theorem parse_bad (c : UInt8) (r : List UInt8) (h : isD c = false) (h45 : c ≠ 45) : parse (c :: r) = (0, 5) := by
  rw [parse_noMinus (by simpa using h45), form_bad c r h]
theorem parse_bad2 (c : UInt8) (r : List UInt8) (h : isD c = false) : parse (45 :: c :: r) = (0, 5) := by
  rw [parse_minus, form_bad c r h]
theorem parse_more {y : Nat} (hy : y < 3600000) (c : UInt8) (r : List UInt8) (hc : c = 58 → r = []) : parse (body y ++ c :: r) = (0, 5) := by
  obtain ⟨k, q, hk, e⟩ := body_cons y hy
  rw [parse_noMinus (by rw [e]; simpa using dig_ne hk 45 (by decide)), form_more hy c r hc]
theorem parse_zeros {y : Nat} (hy : y < 3600000) : parse (48 :: 48 :: body y) = (0, 5) := by
  obtain ⟨k, q, hk, e⟩ := body_cons y hy
  rw [parse_noMinus (by simp), form_noneZ (by rw [e, run3_3 48 48 (dig k) q (by decide) (by decide) (dig_isD hk)]; simp) (by simp)]
end Go.Proofs.YteahckmpjihcaaaDoor.Of
