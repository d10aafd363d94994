/- The order of the strings of amounts, and where the first colon stands. No function of the program is named. -/
import Derived.Test.YtgfplgclldghkaaDoorOt
import Derived.Lib.Bytealg
import Derived.Laws.Strings
namespace Go.Proofs.YtgfplgclldghkaaDoor.Of
open Go
theorem less_pre : ∀ (p x y : List UInt8), Op.bytesLess (p ++ x) (p ++ y) = Op.bytesLess x y
  | [], _, _ => rfl
  | c :: p, x, y => by simp [Op.bytesLess, less_pre p x y]
theorem less_dig {a b : Nat} (ha : a ≤ 9) (hb : b ≤ 9) (x y : List UInt8) : Op.bytesLess (dig a :: x) (dig b :: y) = (decide (a < b) || (decide (a = b) && Op.bytesLess x y)) := by
  have h1 : (dig a < dig b) ↔ a < b := by rw [UInt8.lt_iff_toNat_lt, dig_nat ha, dig_nat hb]; omega
  have h2 : (dig a = dig b) ↔ a = b := by rw [← UInt8.toNat_inj, dig_nat ha, dig_nat hb]; omega
  have h3 : decide (dig a < dig b) = decide (a < b) := by simp [h1]
  have h4 : (dig a == dig b) = decide (a = b) := by rw [Bool.eq_iff_iff]; simp [h2]
  simp only [Op.bytesLess, h3, h4]
theorem or_and (p q r s t : Bool) : (p || (q && (r || (s && t)))) = ((p || (q && r)) || ((q && s) && t)) := by cases p <;> cases q <;> cases r <;> cases s <;> cases t <;> rfl
theorem less_two {m n : Nat} (hm : m < 100) (hn : n < 100) (x y : List UInt8) : Op.bytesLess (two m ++ x) (two n ++ y) = (decide (m < n) || (decide (m = n) && Op.bytesLess x y)) := by
  simp only [two, List.cons_append, List.nil_append]
  rw [less_dig (by omega) (by omega), less_dig (by omega) (by omega), or_and]
  congr 1
  · rw [Bool.eq_iff_iff]; simp; omega
  · congr 1; rw [Bool.eq_iff_iff]; simp; omega
theorem less_dec {m n : Nat} (hm : m < 1000) (hn : n < 1000) (h : (dec m).length = (dec n).length) (x y : List UInt8) : Op.bytesLess (dec m ++ x) (dec n ++ y) = (decide (m < n) || (decide (m = n) && Op.bytesLess x y)) := by
  rw [dec_len, dec_len] at h
  unfold dec
  by_cases h1 : m < 10
  · have h2 : n < 10 := by
      rw [if_pos h1] at h; split at h
      · assumption
      · split at h <;> omega
    rw [if_pos h1, if_pos h2]
    simp only [List.cons_append, List.nil_append]
    exact less_dig (by omega) (by omega) x y
  · by_cases h2 : m < 100
    · have h3 : ¬ n < 10 ∧ n < 100 := by
        rw [if_neg h1, if_pos h2] at h; split at h
        · omega
        · split at h <;> omega
      rw [if_neg h1, if_pos h2, if_neg h3.1, if_pos h3.2]
      exact less_two (by omega) (by omega) x y
    · have h3 : ¬ n < 10 ∧ ¬ n < 100 := by
        rw [if_neg h1, if_neg h2] at h; split at h
        · omega
        · split at h <;> omega
      rw [if_neg h1, if_neg h2, if_neg h3.1, if_neg h3.2]
      simp only [List.cons_append, List.nil_append]
      rw [less_dig (by omega) (by omega), less_dig (by omega) (by omega), less_dig (by omega) (by omega), or_and, or_and]
      congr 1
      · rw [Bool.eq_iff_iff]; simp; omega
      · congr 1; rw [Bool.eq_iff_iff]; simp; omega
theorem less_body {x y : Nat} (hx : x < 3600000) (hy : y < 3600000) (h : (dec (x / 3600)).length = (dec (y / 3600)).length) (hl : (body x).length = (body y).length) : Op.bytesLess (body x) (body y) = decide (x < y) := by
  have e : ∀ a b : List UInt8, Op.bytesLess (58 :: a) (58 :: b) = Op.bytesLess a b := fun a b => less_pre [58] a b
  have hz : (x % 60 = 0) ↔ (y % 60 = 0) := by
    unfold body at hl
    by_cases h1 : x % 60 = 0 <;> by_cases h2 : y % 60 = 0 <;> simp [h1, h2, two] at hl ⊢ <;> omega
  unfold body
  rw [less_dec (by omega) (by omega) h, e, less_two (by omega) (by omega)]
  by_cases h1 : x % 60 = 0
  · rw [if_pos h1, if_pos (hz.1 h1)]
    rw [Bool.eq_iff_iff]; simp [Op.bytesLess]; omega
  · have h2 : ¬ y % 60 = 0 := fun k => h1 (hz.2 k)
    rw [if_neg h1, if_neg h2, e]
    have := less_two (show x % 60 < 100 by omega) (show y % 60 < 100 by omega) [] []
    simp only [List.append_nil] at this
    rw [this, Bool.eq_iff_iff]; simp [Op.bytesLess]; omega
theorem idx_skip : ∀ (d r : List UInt8), (∀ c ∈ d, c ≠ 58) → Lib.indexByte (d ++ 58 :: r) 58 = d.length
  | [], r, _ => by simp [Lib.indexByte]
  | c :: d, r, h => by
    have h1 : (c == 58) = false := by simpa using h c (by simp)
    have h2 := idx_skip d r (fun x hx => h x (by simp [hx]))
    simp only [List.cons_append, Lib.indexByte, h1, h2, Bool.false_eq_true, if_false, List.length_cons]
    rw [if_neg (by simp)]; omega
theorem dec_no58 {n : Nat} (h : n < 1000) : ∀ c ∈ dec n, c ≠ 58 := by
  intro c hc
  unfold dec at hc
  split at hc
  · simp at hc; subst hc; exact dig_ne (by omega) 58 (by decide)
  · split at hc
    · simp at hc; rcases hc with rfl | rfl <;> exact dig_ne (by omega) 58 (by decide)
    · simp at hc; rcases hc with rfl | rfl | rfl <;> exact dig_ne (by omega) 58 (by decide)
theorem idx_body {y : Nat} (hy : y < 3600000) : Lib.indexByte (body y) 58 = (dec (y / 3600)).length := idx_skip _ _ (dec_no58 (by omega))
theorem prt_pos {x : Int} (h : 0 ≤ x) : prt x = body x.toNat := by
  unfold prt; rw [if_neg (by omega)]; congr 1; omega
end Go.Proofs.YtgfplgclldghkaaDoor.Of
