/- The statements about layer 3: the helper is, the examples of the chapter. -/
import Derived.Test.YtejdeaacpjgjiaaChk
namespace Go.Proofs.Ytejdeaacpjgjiaa
open Go.RowKit

theorem is_any (x y : Int) (p q : Bool) (w : World) : Calls Try.prog 19 #[.int .i64 x, .bool p, .int .i64 y, .bool q] w fun e w' => e = .returned (.bool (decide (x = y) && decide (p = q))) ∧ w = w' := by
  by_cases h : x = y
  · subst h
    go_enter Try.func19, Try.ntmps19
    go_wp2
    go_ret
    exact ⟨ret_bool (by cases p <;> cases q <;> simp), rfl⟩
  · go_enter Try.func19, Try.ntmps19
    go_wp2
    go_ret
    exact ⟨ret_bool (by simp [h]), rfl⟩
theorem is_yes (x y : Int) (p q : Bool) (h : x = y) (g : p = q) (w : World) : Calls Try.prog 19 #[.int .i64 x, .bool p, .int .i64 y, .bool q] w fun e w' => e = .returned (.bool true) ∧ w = w' := by
  have := is_any x y p q w
  rw [show (decide (x = y) && decide (p = q)) = true by simp [h, g]] at this
  exact this
theorem add_at (a b r : Int) (c : Bool) (h : Ck.rs (a + b) = r ∧ Ck.fit (a + b) = c) (ha : Ck.fit a = true) (hb : Ck.fit b = true) (w : World) : Calls Try.prog 9 #[.int .i64 a, .int .i64 b] w fun e w' => e = .returned (.tuple #[.int .i64 r, .bool c]) ∧ w = w' := by
  obtain ⟨rfl, rfl⟩ := h; exact add_any a b w ((Ck.fit_iff a).1 ha) ((Ck.fit_iff b).1 hb)
theorem sub_at (a b r : Int) (c : Bool) (h : Ck.rs (a - b) = r ∧ Ck.fit (a - b) = c) (ha : Ck.fit a = true) (hb : Ck.fit b = true) (w : World) : Calls Try.prog 11 #[.int .i64 a, .int .i64 b] w fun e w' => e = .returned (.tuple #[.int .i64 r, .bool c]) ∧ w = w' := by
  obtain ⟨rfl, rfl⟩ := h; exact sub_any a b w ((Ck.fit_iff a).1 ha) ((Ck.fit_iff b).1 hb)
theorem mul_at (a b r : Int) (c : Bool) (h : Ck.rs (a * b) = r ∧ Ck.fit (a * b) = c) (ha : Ck.fit a = true) (hb : Ck.fit b = true) (w : World) : Calls Try.prog 13 #[.int .i64 a, .int .i64 b] w fun e w' => e = .returned (.tuple #[.int .i64 r, .bool c]) ∧ w = w' := by
  obtain ⟨rfl, rfl⟩ := h; exact mul_any a b w ((Ck.fit_iff a).1 ha) ((Ck.fit_iff b).1 hb)
theorem div_at (a b r : Int) (c : Bool) (h : (if Ck.dok a b then Ck.dv a b else 0) = r ∧ Ck.dok a b = c) (ha : Ck.fit a = true) (hb : Ck.fit b = true) (w : World) : Calls Try.prog 15 #[.int .i64 a, .int .i64 b] w fun e w' => e = .returned (.tuple #[.int .i64 r, .bool c]) ∧ w = w' := by
  obtain ⟨rfl, rfl⟩ := h; exact div_any a b w ((Ck.fit_iff a).1 ha) ((Ck.fit_iff b).1 hb)
theorem mod_at (a b r : Int) (c : Bool) (h : (if decide (b ≠ 0) then Ck.md a b else 0) = r ∧ decide (b ≠ 0) = c) (hb : Ck.fit b = true) (w : World) : Calls Try.prog 17 #[.int .i64 a, .int .i64 b] w fun e w' => e = .returned (.tuple #[.int .i64 r, .bool c]) ∧ w = w' := by
  obtain ⟨rfl, rfl⟩ := h; exact mod_any a b w ((Ck.fit_iff b).1 hb)

/-- the chapter's examples: the function, two numbers, the result, whether it fits -/
def exRow (i : Nat) : Nat × Int × Int × Int × Bool := [
  (9, 9223372036854775807, 1, 0, false), (9, 9223372036854775807, -1, 9223372036854775806, true), (11, -9223372036854775808, 1, 0, false), (11, 0, -9223372036854775808, 0, false), (11, -1, -9223372036854775808, 9223372036854775807, true), (13, -9223372036854775808, -1, 0, false), (13, -9223372036854775808, 1, -9223372036854775808, true), (13, 4294967296, 2147483648, 0, false),
  (15, 7, 2, 3, true), (15, -7, 2, -4, true), (15, 7, -2, -4, true), (15, -7, -2, 3, true), (17, 7, 2, 1, true), (17, -7, 2, 1, true), (17, 7, -2, -1, true), (17, -7, -2, -1, true), (15, -9223372036854775808, -1, 0, false), (17, -9223372036854775808, -1, 0, true), (17, 5, 0, 0, false)].getD i (0, 0, 0, 0, false)
/-- each example is true -/
theorem ex_calls (i : Nat) (hi : i < 19) (w : World) : Calls Try.prog (exRow i).1 #[.int .i64 (exRow i).2.1, .int .i64 (exRow i).2.2.1] w fun e w' => e = .returned (.tuple #[.int .i64 (exRow i).2.2.2.1, .bool (exRow i).2.2.2.2]) ∧ w = w' := by
  have : i = 0 ∨ i = 1 ∨ i = 2 ∨ i = 3 ∨ i = 4 ∨ i = 5 ∨ i = 6 ∨ i = 7 ∨ i = 8 ∨ i = 9 ∨ i = 10 ∨ i = 11 ∨ i = 12 ∨ i = 13 ∨ i = 14 ∨ i = 15 ∨ i = 16 ∨ i = 17 ∨ i = 18 := by omega
  rcases this with rfl | rfl | rfl | rfl | rfl | rfl | rfl | rfl | rfl | rfl | rfl | rfl | rfl | rfl | rfl | rfl | rfl | rfl | rfl
  · exact add_at _ _ _ _ (by decide) (by decide) (by decide) w
  · exact add_at _ _ _ _ (by decide) (by decide) (by decide) w
  · exact sub_at _ _ _ _ (by decide) (by decide) (by decide) w
  · exact sub_at _ _ _ _ (by decide) (by decide) (by decide) w
  · exact sub_at _ _ _ _ (by decide) (by decide) (by decide) w
  · exact mul_at _ _ _ _ (by decide) (by decide) (by decide) w
  · exact mul_at _ _ _ _ (by decide) (by decide) (by decide) w
  · exact mul_at _ _ _ _ (by decide) (by decide) (by decide) w
  · exact div_at _ _ _ _ (by decide) (by decide) (by decide) w
  · exact div_at _ _ _ _ (by decide) (by decide) (by decide) w
  · exact div_at _ _ _ _ (by decide) (by decide) (by decide) w
  · exact div_at _ _ _ _ (by decide) (by decide) (by decide) w
  · exact mod_at _ _ _ _ (by decide) (by decide) w
  · exact mod_at _ _ _ _ (by decide) (by decide) w
  · exact mod_at _ _ _ _ (by decide) (by decide) w
  · exact mod_at _ _ _ _ (by decide) (by decide) w
  · exact div_at _ _ _ _ (by decide) (by decide) (by decide) w
  · exact mod_at _ _ _ _ (by decide) (by decide) w
  · exact mod_at _ _ _ _ (by decide) (by decide) w
end Go.Proofs.Ytejdeaacpjgjiaa
