/- Amounts of time as text in plain lists of bytes: digits, the form, the amount, the string. No program in sight. -/
import Derived.Lib.ItoaNum
namespace Go.Proofs.YteahckmpjihcaaaDoor.Of
/-- a decimal digit, and its value -/
def isD (c : UInt8) : Bool := decide (48 ≤ (c.toNat : Int) ∧ (c.toNat : Int) ≤ 57)
def dv (c : UInt8) : Int := (c.toNat : Int) - 48
def val (l : List UInt8) : Int := l.foldl (fun n c => 10 * n + dv c) 0
/-- the digits ahead, three at most -/
def run3 (l : List UInt8) : List UInt8 := (l.take 3).takeWhile isD
/-- two digits ahead that say a number below 60 -/
def pr (r : List UInt8) : Option Int := match r with
  | d :: e :: _ => if isD d && isD e && decide (dv d ≤ 5) then some (10 * dv d + dv e) else none
  | _ => none
/-- what stands behind the minutes -/
def tl2 (r : List UInt8) : Option Int := match r with
  | [] => some 0
  | c :: r => if c = 58 then (match pr r with | some s => if r.drop 2 = [] then some s else none | none => none) else none
/-- what stands behind the hours -/
def tl (r : List UInt8) : Option Int := match r with
  | [] => some 0
  | c :: r => if c = 58 then (match pr r with | some m => (tl2 (r.drop 2)).map (60 * m + ·) | none => none) else none
def form (l : List UInt8) : Option Int :=
  if (run3 l).length = 0 ∨ (1 < (run3 l).length ∧ l[0]? = some 48) then none
  else (tl (l.drop (run3 l).length)).map (3600 * val (run3 l) + ·)
/-- the amount and the error; MaxClock is 604799 -/
def parse (l : List UInt8) : Int × Int := match l with
  | 45 :: r => match form r with
    | some x => if x = 0 then (0, 5) else if x > 604799 then (0, 3) else (-x, 0)
    | none => (0, 5)
  | _ => match form l with
    | some x => if x > 604799 then (0, 3) else (x, 0)
    | none => (0, 5)
theorem isD_bd {c : UInt8} (h : isD c = true) : 0 ≤ dv c ∧ dv c ≤ 9 := by simp [isD, dv] at *; omega
theorem isD_58 : isD 58 = false := by decide
theorem isD_45 : isD 45 = false := by decide
theorem run3_le (l : List UInt8) : (run3 l).length ≤ 3 ∧ (run3 l).length ≤ l.length := by
  have h1 := (List.takeWhile_prefix (l := l.take 3) isD).length_le
  have h2 : (l.take 3).length ≤ 3 := List.length_take_le _ _
  have h3 : (l.take 3).length ≤ l.length := List.length_take_le' _ _
  unfold run3; omega
theorem run3_nil : run3 [] = [] := rfl
theorem takeWhile_all : ∀ (l : List UInt8), l.all isD = true → l.takeWhile isD = l
  | [], _ => rfl
  | c :: l, h => by simp at h; simp [h.1, takeWhile_all l (by simpa using h.2)]
theorem takeWhile_stop : ∀ (l : List UInt8) (k : Nat), (l.take k).all isD = true → (∀ c, l[k]? = some c → isD c = false) → l.takeWhile isD = l.take k
  | [], k, _, _ => by simp
  | c :: l, 0, _, h => by have := h c rfl; simp [this]
  | c :: l, k + 1, h, g => by
    simp at h
    have h2 : (l.take k).all isD = true := by simpa using h.2
    simp [h.1, takeWhile_stop l k h2 (fun c hc => g c (by simpa using hc))]
/-- where the digits end -/
theorem run3_stop (l : List UInt8) (k : Nat) (hk : k ≤ 3) (h : (l.take k).all isD = true) (g : k = 3 ∨ ∀ c, l[k]? = some c → isD c = false) : run3 l = l.take k := by
  unfold run3
  rcases g with rfl | g
  · exact takeWhile_all _ h
  · rw [takeWhile_stop (l.take 3) k (by rw [List.take_take, Nat.min_eq_left hk]; exact h) ?_, List.take_take, Nat.min_eq_left hk]
    intro c hc
    rw [List.getElem?_take] at hc
    split at hc
    · exact g c hc
    · cases hc
theorem all_snoc (l : List UInt8) (k : Nat) (c : UInt8) (h : (l.take k).all isD = true) (hc : l[k]? = some c) (hd : isD c = true) : (l.take (k + 1)).all isD = true := by
  rw [List.take_add_one, hc]; simp at h ⊢; exact ⟨h, hd⟩
theorem val_snoc (l : List UInt8) (k : Nat) (c : UInt8) (hc : l[k]? = some c) : val (l.take (k + 1)) = 10 * val (l.take k) + dv c := by
  rw [List.take_add_one, hc]; simp [val]
theorem val_nn : ∀ (l : List UInt8), l.all isD = true → 0 ≤ val l ∧ val l + 1 ≤ 10 ^ l.length := by
  intro l
  have key : ∀ (l : List UInt8) (a : Int), l.all isD = true → a * 10 ^ l.length ≤ l.foldl (fun n c => 10 * n + dv c) a ∧ l.foldl (fun n c => 10 * n + dv c) a + 1 ≤ (a + 1) * 10 ^ l.length := by
    intro l
    induction l with
    | nil => intro a _; simp
    | cons c l ih =>
      intro a h
      simp at h
      have hb := isD_bd h.1
      have h2 := ih (10 * a + dv c) (by simpa using h.2)
      have hp : (0 : Int) < 10 ^ l.length := Int.pow_pos (by decide)
      simp only [List.foldl_cons, List.length_cons, Int.pow_succ]
      generalize (10 : Int) ^ l.length = p at *
      generalize List.foldl _ _ l = f at *
      have e1 : (10 * a + dv c) * p = a * (p * 10) + dv c * p := by rw [Int.add_mul, Int.mul_comm 10 a, Int.mul_assoc, Int.mul_comm 10 p]
      have e2 : (10 * a + dv c + 1) * p = a * (p * 10) + dv c * p + p := by rw [Int.add_mul, e1]; simp
      have e3 : (a + 1) * (p * 10) = a * (p * 10) + p * 10 := by rw [Int.add_mul]; simp
      have e4 : 0 ≤ dv c * p := Int.mul_nonneg hb.1 (by omega)
      have e5 : dv c * p ≤ 9 * p := Int.mul_le_mul_of_nonneg_right hb.2 (by omega)
      omega
  intro h
  have := key l 0 h
  unfold val
  simp at this
  omega
theorem run3_all (l : List UInt8) : (run3 l).all isD = true := by
  simp only [List.all_eq_true]
  intro c hc
  exact List.all_eq_true.1 (List.all_takeWhile) c hc
theorem val_run3 (l : List UInt8) : 0 ≤ val (run3 l) ∧ val (run3 l) ≤ 999 := by
  have h := val_nn _ (run3_all l)
  have h3 := (run3_le l).1
  have : (10 : Int) ^ (run3 l).length ≤ 10 ^ 3 := by
    have : (run3 l).length = 0 ∨ (run3 l).length = 1 ∨ (run3 l).length = 2 ∨ (run3 l).length = 3 := by omega
    rcases this with e | e | e | e <;> rw [e] <;> decide
  omega
theorem run3_cons (c : UInt8) (r : List UInt8) (h : isD c = false) : run3 (c :: r) = [] := by simp [run3, h]
/-- the digits ahead, digit by digit -/
theorem run3_1 (a : UInt8) (r : List UInt8) (ha : isD a = true) (hr : ∀ c, r[0]? = some c → isD c = false) : run3 (a :: r) = [a] := by
  have := run3_stop (a :: r) 1 (by omega) (by simp [ha]) (.inr (by simpa using hr))
  simpa using this
theorem run3_2 (a b : UInt8) (r : List UInt8) (ha : isD a = true) (hb : isD b = true) (hr : ∀ c, r[0]? = some c → isD c = false) : run3 (a :: b :: r) = [a, b] := by
  have := run3_stop (a :: b :: r) 2 (by omega) (by simp [ha, hb]) (.inr (by simpa using hr))
  simpa using this
theorem run3_3 (a b c : UInt8) (r : List UInt8) (ha : isD a = true) (hb : isD b = true) (hc : isD c = true) : run3 (a :: b :: c :: r) = [a, b, c] := by
  have := run3_stop (a :: b :: c :: r) 3 (by omega) (by simp [ha, hb, hc]) (.inl rfl)
  simpa using this
/-- the first two bytes, and whether a third digit follows -/
theorem run3_two (r : List UInt8) (h : (run3 r).length = 2) : pr r = if val (run3 r) ≤ 59 then some (val (run3 r)) else none := by
  match r with
  | [] => simp [run3_nil] at h
  | [a] => have := (run3_le [a]).2; simp at this; omega
  | a :: b :: r =>
    by_cases ha : isD a = true
    · by_cases hb : isD b = true
      · have e : run3 (a :: b :: r) = [a, b] := by
          match r with
          | [] => exact run3_2 a b [] ha hb (by simp)
          | c :: r =>
            by_cases hc : isD c = true
            · rw [run3_3 a b c r ha hb hc] at h; simp at h
            · exact run3_2 a b (c :: r) ha hb (by simpa using hc)
        have h1 := isD_bd ha
        have h2 := isD_bd hb
        rw [e]
        simp only [pr, ha, hb, val, List.foldl_cons, List.foldl_nil, Bool.and_self, Bool.true_and, decide_eq_true_eq]
        by_cases h5 : dv a ≤ 5
        · rw [if_pos (by omega)]; simp; omega
        · rw [if_neg (by omega)]; simp; omega
      · rw [run3_1 a (b :: r) ha (by simpa using hb)] at h; simp at h
    · rw [run3_cons a _ (by simpa using ha)] at h; simp at h
theorem pr_short (r : List UInt8) (h : (run3 r).length < 2) : pr r = none := by
  match r with
  | [] => rfl
  | [a] => rfl
  | a :: b :: r =>
    by_cases ha : isD a = true
    · by_cases hb : isD b = true
      · exfalso
        have h2 := run3_stop (a :: b :: r) 2 (by omega) (by simp [ha, hb])
        match r with
        | [] => rw [h2 (.inr (by simp))] at h; simp at h
        | c :: r =>
          by_cases hc : isD c = true
          · rw [run3_3 a b c r ha hb hc] at h; simp at h
          · rw [h2 (.inr (by simpa using hc))] at h; simp at h
      · simp [pr, ha, hb]
    · simp [pr, ha]
theorem ne58 {c : UInt8} (h : isD c = true) : c ≠ 58 := by rintro rfl; simp [isD_58] at h
/-- three digits: behind two of them there is no end, and no colon -/
theorem three_no (r : List UInt8) (h : (run3 r).length = 3) : tl2 (r.drop 2) = none ∧ r.drop 2 ≠ [] := by
  match r with
  | [] => simp [run3_nil] at h
  | [a] => have := (run3_le [a]).2; simp at this; omega
  | [a, b] => have := (run3_le [a, b]).2; simp at this; omega
  | a :: b :: c :: r =>
    by_cases hc : isD c = true
    · have := ne58 hc
      simp [tl2, this]
    · exfalso
      have h3 := run3_all (a :: b :: c :: r)
      have e : run3 (a :: b :: c :: r) = [a, b, c] := by
        have hp : run3 (a :: b :: c :: r) <+: (a :: b :: c :: r).take 3 := List.takeWhile_prefix _
        have := hp.eq_of_length (by rw [h]; simp)
        rw [this]; simp
      rw [e] at h3; simp at h3; exact hc h3.2.2
theorem pr_bd {r : List UInt8} {m : Int} (h : pr r = some m) : 0 ≤ m ∧ m ≤ 59 := by
  match r with
  | [] => cases h
  | [a] => cases h
  | a :: b :: r =>
    simp only [pr] at h
    split at h
    · rename_i hc
      simp at hc
      have h1 := isD_bd hc.1.1
      have h2 := isD_bd hc.1.2
      cases h; omega
    · cases h
theorem tl2_bd {r : List UInt8} {m : Int} (h : tl2 r = some m) : 0 ≤ m ∧ m ≤ 59 := by
  match r with
  | [] => cases h; omega
  | c :: r =>
    simp only [tl2] at h
    split at h
    · split at h
      · rename_i s hs
        split at h
        · cases h; exact pr_bd hs
        · cases h
      · cases h
    · cases h
theorem tl_bd {r : List UInt8} {m : Int} (h : tl r = some m) : 0 ≤ m ∧ m ≤ 3599 := by
  match r with
  | [] => cases h; omega
  | c :: r =>
    simp only [tl] at h
    split at h
    · split at h
      · rename_i s hs
        simp only [Option.map_eq_some_iff] at h
        obtain ⟨y, hy, rfl⟩ := h
        have := pr_bd hs
        have := tl2_bd hy
        omega
      · cases h
    · cases h
theorem form_bd {l : List UInt8} {x : Int} (h : form l = some x) : 0 ≤ x ∧ x ≤ 3599999 := by
  unfold form at h
  split at h
  · cases h
  · simp only [Option.map_eq_some_iff] at h
    obtain ⟨y, hy, rfl⟩ := h
    have := tl_bd hy
    have := val_run3 l
    omega
/- the ways of a reader that goes by places -/
theorem form_none0 {l : List UInt8} (h : (run3 l).length = 0) : form l = none := by simp [form, h]
theorem form_noneZ {l : List UInt8} (h : 1 < (run3 l).length) (g : l[0]? = some 48) : form l = none := by simp [form, h, g]
/-- the hours are right -/
def okH (l : List UInt8) : Prop := (run3 l).length ≠ 0 ∧ ¬ (1 < (run3 l).length ∧ l[0]? = some 48)
theorem form_okH {l : List UInt8} (h : okH l) : form l = (tl (l.drop (run3 l).length)).map (3600 * val (run3 l) + ·) := by
  unfold form; rw [if_neg]; intro k; exact k.elim h.1 h.2
theorem drop_eq {l : List UInt8} {k : Nat} {c : UInt8} (h : l[k]? = some c) : l.drop k = c :: l.drop (k + 1) := by
  obtain ⟨hk, rfl⟩ := List.getElem?_eq_some_iff.1 h
  exact List.drop_eq_getElem_cons hk
theorem form_end {l : List UInt8} (h : okH l) (g : l.length ≤ (run3 l).length) : form l = some (3600 * val (run3 l) + 60 * 0 + 0) := by
  rw [form_okH h, List.drop_of_length_le g]; simp [tl]
theorem form_colon {l : List UInt8} {c : UInt8} (h : okH l) (hc : l[(run3 l).length]? = some c) (g : c ≠ 58) : form l = none := by
  rw [form_okH h, drop_eq hc]; simp [tl, g]
theorem form_min {l : List UInt8} {r : List UInt8} (h : okH l) (hc : l[(run3 l).length]? = some 58) (hr : l.drop ((run3 l).length + 1) = r) (g : pr r = none ∨ tl2 (r.drop 2) = none) : form l = none := by
  rw [form_okH h, drop_eq hc, hr]
  rcases g with g | g
  · simp [tl, g]
  · simp only [tl, if_true]; cases pr r <;> simp [g]
theorem form_two {l : List UInt8} {r : List UInt8} {m : Int} (h : okH l) (hc : l[(run3 l).length]? = some 58) (hr : l.drop ((run3 l).length + 1) = r) (g : pr r = some m) (he : r.drop 2 = []) : form l = some (3600 * val (run3 l) + 60 * m + 0) := by
  rw [form_okH h, drop_eq hc, hr]; simp [tl, g, he, tl2]
theorem form_three {l r r2 : List UInt8} {m s : Int} (h : okH l) (hc : l[(run3 l).length]? = some 58) (hr : l.drop ((run3 l).length + 1) = r) (g : pr r = some m) (h2 : r[2]? = some 58) (hr2 : r.drop 3 = r2) (g2 : pr r2 = some s) (he : r2.drop 2 = []) : form l = some (3600 * val (run3 l) + 60 * m + s) := by
  rw [form_okH h, drop_eq hc, hr]; simp [tl, g, drop_eq h2, hr2, tl2, g2, he, Int.add_assoc]
theorem tl2_colon {r : List UInt8} {c : UInt8} (h2 : r[2]? = some c) (g : c ≠ 58) : tl2 (r.drop 2) = none := by
  rw [drop_eq h2]; simp [tl2, g]
theorem tl2_none {r r2 : List UInt8} {c : UInt8} (h2 : r[2]? = some c) (hr2 : r.drop 3 = r2) (g : pr r2 = none ∨ r2.drop 2 ≠ []) : tl2 (r.drop 2) = none := by
  rw [drop_eq h2, hr2]
  rcases g with g | g
  · simp [tl2, g]
  · simp only [tl2]; cases pr r2 <;> simp [g]
end Go.Proofs.YteahckmpjihcaaaDoor.Of
