/- The contracts of package checked: each function returns what XCk says. -/
import Derived.Test.YtejdeaacpjgjiaaKit
import Derived.Test.YtejdeaacpjgjiaaCk
namespace Go.Proofs.Ytejdeaacpjgjiaa
open Go.RowKit

/-- what a function of package checked returns: the number, if it fits, else 0; and whether it fits -/
def out (x : Int) : Ending := .returned (.tuple #[.int .i64 (Ck.rs x), .bool (Ck.fit x)])
theorem out_yes {x : Int} (h : Ck.fit x = true) : out x = .returned (.tuple #[.int .i64 x, .bool true]) := by unfold out; rw [h, Ck.rs_yes h]
theorem out_no {x : Int} (h : Ck.fit x = false) : out x = .returned (.tuple #[.int .i64 0, .bool false]) := by unfold out; rw [h, Ck.rs_no h]

theorem add_any (a b : Int) (w : World) (ha : -9223372036854775808 ≤ a ∧ a ≤ 9223372036854775807) (hb : -9223372036854775808 ≤ b ∧ b ≤ 9223372036854775807) : Calls Try.prog 9 #[.int .i64 a, .int .i64 b] w fun e w' => e = out (a + b) ∧ w = w' := by
  rcases Ck.fit_cases (a + b) with ⟨h1, h2, h3⟩ | ⟨h1, h2, h3⟩
  · rw [out_yes h1]
    clear h1 h2
    by_cases s : b < 0
    · have d : decide (a + b < a) = true := by simp; omega
      go_enter Try.func9, Try.ntmps9
      go_wp2
      go_ret2
      exact ⟨rfl, rfl⟩
    · have d : decide (a + b < a) = false := by simp; omega
      go_enter Try.func9, Try.ntmps9
      go_wp2
      go_ret2
      exact ⟨rfl, rfl⟩
  · rw [out_no h1]
    clear h1 h2
    rcases h3 with h3 | h3
    · have e : wrap64 (a + b) = a + b + 18446744073709551616 := by unfold wrap64; omega
      have s : b < 0 := by omega
      have d : decide (a + b + 18446744073709551616 < a) = false := by simp; omega
      go_enter Try.func9, Try.ntmps9
      go_wp2
      go_ret2
      exact ⟨rfl, rfl⟩
    · have e : wrap64 (a + b) = a + b - 18446744073709551616 := by unfold wrap64; omega
      have s : ¬ b < 0 := by omega
      go_enter Try.func9, Try.ntmps9
      go_wp2
      go_ret2
      exact ⟨rfl, rfl⟩
theorem sub_any (a b : Int) (w : World) (ha : -9223372036854775808 ≤ a ∧ a ≤ 9223372036854775807) (hb : -9223372036854775808 ≤ b ∧ b ≤ 9223372036854775807) : Calls Try.prog 11 #[.int .i64 a, .int .i64 b] w fun e w' => e = out (a - b) ∧ w = w' := by
  rcases Ck.fit_cases (a - b) with ⟨h1, h2, h3⟩ | ⟨h1, h2, h3⟩
  · rw [out_yes h1]
    clear h1 h2
    by_cases s : b < 0
    · have d : decide (a < a - b) = true := by simp; omega
      go_enter Try.func11, Try.ntmps11
      go_wp2
      go_ret2
      exact ⟨rfl, rfl⟩
    · have d : decide (a < a - b) = false := by simp; omega
      go_enter Try.func11, Try.ntmps11
      go_wp2
      go_ret2
      exact ⟨rfl, rfl⟩
  · rw [out_no h1]
    clear h1 h2
    rcases h3 with h3 | h3
    · have e : wrap64 (a - b) = a - b + 18446744073709551616 := by unfold wrap64; omega
      have s : ¬ b < 0 := by omega
      go_enter Try.func11, Try.ntmps11
      go_wp2
      go_ret2
      exact ⟨rfl, rfl⟩
    · have e : wrap64 (a - b) = a - b - 18446744073709551616 := by unfold wrap64; omega
      have s : b < 0 := by omega
      have d : decide (a < a - b - 18446744073709551616) = false := by simp; omega
      go_enter Try.func11, Try.ntmps11
      go_wp2
      go_ret2
      exact ⟨rfl, rfl⟩
theorem mul_any (a b : Int) (w : World) (ha : -9223372036854775808 ≤ a ∧ a ≤ 9223372036854775807) (hb : -9223372036854775808 ≤ b ∧ b ≤ 9223372036854775807) : Calls Try.prog 13 #[.int .i64 a, .int .i64 b] w fun e w' => e = out (a * b) ∧ w = w' := by
  by_cases z : a = 0
  · subst z
    rw [Int.zero_mul, out_yes (by decide)]
    go_enter Try.func13, Try.ntmps13
    go_wp2
    go_ret2
    exact ⟨rfl, rfl⟩
  · by_cases o : a = -1
    · subst o
      have e : -1 * b = 0 - b := by omega
      rw [e]
      clear e
      rcases Ck.fit_cases (0 - b) with ⟨h1, h2, h3⟩ | ⟨h1, h2, h3⟩
      · have E := out_yes h1
        have SB := sub_any 0 b w (by decide) hb
        rw [E] at SB ⊢
        clear E h1 h2
        go_enter Try.func13, Try.ntmps13
        go_wp2_with (go_at_call 11; refine SB.mono ?_; rintro e w' ⟨rfl, rfl⟩)
        go_ret2
        exact ⟨ret_ib (by simp) rfl, rfl⟩
      · have E := out_no h1
        have SB := sub_any 0 b w (by decide) hb
        rw [E] at SB ⊢
        clear E h1 h2
        go_enter Try.func13, Try.ntmps13
        go_wp2_with (go_at_call 11; refine SB.mono ?_; rintro e w' ⟨rfl, rfl⟩)
        go_ret2
        exact ⟨rfl, rfl⟩
    · rcases Ck.fit_cases (a * b) with ⟨h1, h2, h3⟩ | ⟨h1, h2, h3⟩
      · rw [out_yes h1]
        have q := Ck.mul_in a b z
        have d : (wrap64 ((wrap64 (a * b)).tdiv a) != b) = false := by rw [wrap64_of h3, q, wrap64_of hb]; simp
        have E := Lib.hid (wrap64_of h3)
        clear q h1 h2 h3
        go_enter Try.func13, Try.ntmps13
        go_wp2
        go_ret2
        exact ⟨ret_ib E.out rfl, rfl⟩
      · rw [out_no h1]
        have d : (wrap64 ((wrap64 (a * b)).tdiv a) != b) = true := by
          have q := Ck.mul_out a b (wrap64 (a * b)) z ha (by unfold wrap64; rfl) h1
          have r : wrap64 ((wrap64 (a * b)).tdiv a) = (wrap64 (a * b)).tdiv a := wrap64_of (Ck.tdiv_bd _ _ (by unfold wrap64; omega) ((Ck.dok_iff _ _).2 ⟨z, fun g => o g.2⟩))
          rw [r]
          simpa using q
        clear h1 h2 h3
        go_enter Try.func13, Try.ntmps13
        go_wp2
        go_ret2
        exact ⟨rfl, rfl⟩
theorem up_any (a b : Int) (w : World) (hb : b ≠ 0) : Calls Try.prog 27 #[.int .i64 a, .int .i64 b] w fun e w' => e = .returned (.bool (Ck.up a b)) ∧ w = w' := by
  have f := Ck.t_facts a b hb
  have hu : ∀ r, r = a.tmod b → Ck.up a b = decide (r ≠ 0 ∧ ((r < 0 ∧ 0 ≤ b) ∨ (0 ≤ r ∧ b < 0))) := by rintro r rfl; rfl
  have HU := Lib.hid hu
  clear hu f
  go_enter Try.func27, Try.ntmps27
  go_wp2
  · go_ret
    have h : a.tmod b = 0 := ‹_›
    exact ⟨ret_bool (by rw [HU.out _ rfl, h]; simp), rfl⟩
  · go_ret
    refine ⟨ret_bool ?_, rfl⟩
    rw [HU.out _ rfl]
    generalize a.tmod b = t
    by_cases h0 : t = 0
    · simp [h0]
    · by_cases h1 : t < 0
      · have h2 : ¬ 0 ≤ t := by omega
        by_cases h3 : b < 0
        · have h4 : ¬ 0 ≤ b := by omega
          simp [h0, h1, h2, h3, h4]
        · have h4 : 0 ≤ b := by omega
          simp [h0, h1, h2, h3, h4]
      · have h2 : 0 ≤ t := by omega
        by_cases h3 : b < 0
        · have h4 : ¬ 0 ≤ b := by omega
          simp [h0, h1, h2, h3, h4]
        · have h4 : 0 ≤ b := by omega
          simp [h0, h1, h2, h3, h4]
theorem up_at (a b : Int) (r : Bool) (hr : Ck.up a b = r) (w : World) (hb : b ≠ 0) : Calls Try.prog 27 #[.int .i64 a, .int .i64 b] w fun e w' => e = .returned (.bool r) ∧ w = w' := hr ▸ up_any a b w hb
/-- what Div and Mod return -/
def outIf (c : Bool) (x : Int) : Ending := .returned (.tuple #[.int .i64 (if c then x else 0), .bool c])
theorem outIf_yes {c : Bool} {x : Int} (h : c = true) : outIf c x = .returned (.tuple #[.int .i64 x, .bool true]) := by subst h; rfl
theorem outIf_no {c : Bool} {x : Int} (h : c = false) : outIf c x = .returned (.tuple #[.int .i64 0, .bool false]) := by subst h; rfl
set_option maxHeartbeats 1000000 in
theorem div_any (a b : Int) (w : World) (ha : -9223372036854775808 ≤ a ∧ a ≤ 9223372036854775807) (hb : -9223372036854775808 ≤ b ∧ b ≤ 9223372036854775807) : Calls Try.prog 15 #[.int .i64 a, .int .i64 b] w fun e w' => e = outIf (Ck.dok a b) (Ck.dv a b) ∧ w = w' := by
  by_cases z : b = 0
  · rw [outIf_no ((Ck.dok_no a b).2 (.inl z))]
    subst z
    go_enter Try.func15, Try.ntmps15
    go_wp2
    go_ret2
    exact ⟨rfl, rfl⟩
  · by_cases m : a = -9223372036854775808 ∧ b = -1
    · rw [outIf_no ((Ck.dok_no a b).2 (.inr m))]
      obtain ⟨rfl, rfl⟩ := m
      go_enter Try.func15, Try.ntmps15
      go_wp2
      go_ret2
      exact ⟨rfl, rfl⟩
    · have hd := (Ck.dok_iff a b).2 ⟨z, m⟩
      rw [outIf_yes hd]
      have b1 := Ck.dv_bd a b ha hd
      have b2 := Ck.tdiv_bd a b ha hd
      have e := wrap64_of b2
      by_cases u : Ck.up a b = true
      · have x := (Ck.up_yes a b z u).1
        rw [x] at b1 ⊢
        have U := Lib.hid u
        clear u x hd
        have B0 : (b == 0) = false := by simpa using z
        by_cases m1 : a = -9223372036854775808
        · have B1 : (b == -1) = false := by simpa using fun g => m ⟨m1, g⟩
          have B2 : (a == -9223372036854775808) = true := by simpa using m1
          clear m m1
          go_enter Try.func15, Try.ntmps15
          go_wp2_with (go_at_call 27; refine (up_at _ _ _ U.out _ z).mono ?_; rintro e w' ⟨rfl, rfl⟩)
          go_ret2
          exact ⟨rfl, rfl⟩
        · have B2 : (a == -9223372036854775808) = false := by simpa using m1
          clear m m1
          go_enter Try.func15, Try.ntmps15
          go_wp2_with (go_at_call 27; refine (up_at _ _ _ U.out _ z).mono ?_; rintro e w' ⟨rfl, rfl⟩)
          go_ret2
          exact ⟨rfl, rfl⟩
      · replace u : Ck.up a b = false := by simpa using u
        have x := (Ck.up_no a b z u).1
        rw [x] at b1 ⊢
        have U := Lib.hid u
        clear u x hd
        have B0 : (b == 0) = false := by simpa using z
        by_cases m1 : a = -9223372036854775808
        · have B1 : (b == -1) = false := by simpa using fun g => m ⟨m1, g⟩
          have B2 : (a == -9223372036854775808) = true := by simpa using m1
          clear m m1
          go_enter Try.func15, Try.ntmps15
          go_wp2_with (go_at_call 27; refine (up_at _ _ _ U.out _ z).mono ?_; rintro e w' ⟨rfl, rfl⟩)
          go_ret2
          exact ⟨rfl, rfl⟩
        · have B2 : (a == -9223372036854775808) = false := by simpa using m1
          clear m m1
          go_enter Try.func15, Try.ntmps15
          go_wp2_with (go_at_call 27; refine (up_at _ _ _ U.out _ z).mono ?_; rintro e w' ⟨rfl, rfl⟩)
          go_ret2
          exact ⟨rfl, rfl⟩
set_option maxHeartbeats 1000000 in
theorem mod_any (a b : Int) (w : World) (hb : -9223372036854775808 ≤ b ∧ b ≤ 9223372036854775807) : Calls Try.prog 17 #[.int .i64 a, .int .i64 b] w fun e w' => e = outIf (decide (b ≠ 0)) (Ck.md a b) ∧ w = w' := by
  by_cases z : b = 0
  · rw [outIf_no (by simpa using z)]
    subst z
    go_enter Try.func17, Try.ntmps17
    go_wp2
    go_ret2
    exact ⟨rfl, rfl⟩
  · rw [outIf_yes (by simpa using z)]
    have b1 := Ck.md_bd a b z hb
    have f := Ck.t_facts a b z
    have b2 : -9223372036854775808 ≤ a.tmod b ∧ a.tmod b ≤ 9223372036854775807 := by
      rcases Int.lt_or_lt_of_ne z with g | g
      · have := f.2.2.2.2 g; omega
      · have := f.2.2.2.1 g; omega
    have e := wrap64_of b2
    have B0 : (b == 0) = false := by simpa using z
    clear f
    by_cases u : Ck.up a b = true
    · have x := (Ck.up_yes a b z u).2
      rw [x] at b1 ⊢
      have U := Lib.hid u
      clear u x
      go_enter Try.func17, Try.ntmps17
      go_wp2_with (go_at_call 27; refine (up_at _ _ _ U.out _ z).mono ?_; rintro e w' ⟨rfl, rfl⟩)
      go_ret2
      exact ⟨rfl, rfl⟩
    · replace u : Ck.up a b = false := by simpa using u
      have x := (Ck.up_no a b z u).2
      rw [x] at b1 ⊢
      have U := Lib.hid u
      clear u x
      go_enter Try.func17, Try.ntmps17
      go_wp2_with (go_at_call 27; refine (up_at _ _ _ U.out _ z).mono ?_; rintro e w' ⟨rfl, rfl⟩)
      go_ret2
      exact ⟨rfl, rfl⟩
end Go.Proofs.Ytejdeaacpjgjiaa
