/- The document's answers of layer 3: what the package analemmaref03 returns. -/
import Derived.Test.YtejdeaacpjgjiaaChk
import Derived.Test.YtejdeaacpjgjiaaShelf
namespace Go.Proofs.Ytejdeaacpjgjiaa
open Go.RowKit

theorem radd_any (a b : Int) (w : World) (ha : -9223372036854775808 ≤ a ∧ a ≤ 9223372036854775807) (hb : -9223372036854775808 ≤ b ∧ b ≤ 9223372036854775807) : Calls Try.prog 10 #[.int .i64 a, .int .i64 b] w fun e w' => e = out (a + b) ∧ w = w' := by
  rcases Ck.fit_cases (a + b) with ⟨h1, h2, h3⟩ | ⟨h1, h2, h3⟩
  · rw [out_yes h1]
    clear h1 h2
    by_cases s : 0 < b
    · have s2 : ¬ b < 0 := by omega
      have g : ¬ 9223372036854775807 - b < a := by omega
      go_enter Try.func10, Try.ntmps10
      go_wp2
      go_ret2
      exact ⟨rfl, rfl⟩
    · by_cases s2 : b < 0
      · have g : ¬ a < -9223372036854775808 - b := by omega
        go_enter Try.func10, Try.ntmps10
        go_wp2
        go_ret2
        exact ⟨rfl, rfl⟩
      · go_enter Try.func10, Try.ntmps10
        go_wp2
        go_ret2
        exact ⟨rfl, rfl⟩
  · rw [out_no h1]
    clear h1 h2
    rcases h3 with h3 | h3
    · have s : ¬ 0 < b := by omega
      have s2 : b < 0 := by omega
      have g : a < -9223372036854775808 - b := by omega
      go_enter Try.func10, Try.ntmps10
      go_wp2
      go_ret2
      exact ⟨rfl, rfl⟩
    · have s : 0 < b := by omega
      have g : 9223372036854775807 - b < a := by omega
      go_enter Try.func10, Try.ntmps10
      go_wp2
      go_ret2
      exact ⟨rfl, rfl⟩
theorem rsub_any (a b : Int) (w : World) (ha : -9223372036854775808 ≤ a ∧ a ≤ 9223372036854775807) (hb : -9223372036854775808 ≤ b ∧ b ≤ 9223372036854775807) : Calls Try.prog 12 #[.int .i64 a, .int .i64 b] w fun e w' => e = out (a - b) ∧ w = w' := by
  rcases Ck.fit_cases (a - b) with ⟨h1, h2, h3⟩ | ⟨h1, h2, h3⟩
  · rw [out_yes h1]
    clear h1 h2
    by_cases s : 0 < b
    · have s2 : ¬ b < 0 := by omega
      have g : ¬ a < -9223372036854775808 + b := by omega
      go_enter Try.func12, Try.ntmps12
      go_wp2
      go_ret2
      exact ⟨rfl, rfl⟩
    · by_cases s2 : b < 0
      · have g : ¬ 9223372036854775807 + b < a := by omega
        go_enter Try.func12, Try.ntmps12
        go_wp2
        go_ret2
        exact ⟨rfl, rfl⟩
      · go_enter Try.func12, Try.ntmps12
        go_wp2
        go_ret2
        exact ⟨rfl, rfl⟩
  · rw [out_no h1]
    clear h1 h2
    rcases h3 with h3 | h3
    · have s : 0 < b := by omega
      have g : a < -9223372036854775808 + b := by omega
      go_enter Try.func12, Try.ntmps12
      go_wp2
      go_ret2
      exact ⟨rfl, rfl⟩
    · have s : ¬ 0 < b := by omega
      have s2 : b < 0 := by omega
      have g : 9223372036854775807 + b < a := by omega
      go_enter Try.func12, Try.ntmps12
      go_wp2
      go_ret2
      exact ⟨rfl, rfl⟩
theorem size_any (a : Int) (w : World) (ha : -9223372036854775808 ≤ a ∧ a ≤ 9223372036854775807) : Calls Try.prog 26 #[.int .i64 a] w fun e w' => e = .returned (.int .u64 (Ck.sz a)) ∧ w = w' := by
  by_cases h : 0 ≤ a
  · have e : Ck.sz a = a := by unfold Ck.sz; rw [if_pos h]
    have E := Lib.hid e
    clear e
    go_enter Try.func26, Try.ntmps26
    go_wp2
    go_ret
    exact ⟨ret_int (by rw [E.out]; try omega), rfl⟩
  · have e : Ck.sz a = -a := by unfold Ck.sz; rw [if_neg h]
    have E := Lib.hid e
    clear e
    go_enter Try.func26, Try.ntmps26
    go_wp2
    go_ret
    exact ⟨ret_int (by rw [E.out]; try omega), rfl⟩
/-- the product of two sizes, high and low -/
theorem mul64_at (x y h l : Int) (bx : 0 ≤ x ∧ x ≤ 9223372036854775808) (bY : 0 ≤ y ∧ y ≤ 9223372036854775808) (hh : x * y / 18446744073709551616 = h ∧ x * y % 18446744073709551616 = l) (w : World) : Calls Try.prog 25 #[.int .u64 x, .int .u64 y] w fun e w' => e = .returned (.tuple #[.int .u64 h, .int .u64 l]) ∧ w = w' := by
  obtain ⟨rfl, rfl⟩ := hh
  obtain ⟨m, rfl⟩ : ∃ m : Nat, x = m := ⟨x.toNat, by omega⟩
  obtain ⟨n, rfl⟩ : ∃ n : Nat, y = n := ⟨y.toNat, by omega⟩
  refine (Try.bits_Mul64 m n (by omega) (by omega) w).mono ?_
  rintro e w' ⟨rfl, rfl⟩
  exact ⟨by rw [← Int.natCast_mul]; rfl, rfl⟩
theorem sz_mul_bd (a b : Int) (ha : -9223372036854775808 ≤ a ∧ a ≤ 9223372036854775807) (hb : -9223372036854775808 ≤ b ∧ b ≤ 9223372036854775807) : 0 ≤ Ck.sz a * Ck.sz b ∧ Ck.sz a * Ck.sz b ≤ 9223372036854775808 * 9223372036854775808 := by
  have h1 := Ck.sz_bd a ha
  have h2 := Ck.sz_bd b hb
  exact ⟨Int.mul_nonneg h1.1 h2.1, Int.mul_le_mul h1.2 h2.2 h2.1 (by omega)⟩
set_option maxHeartbeats 1000000 in
theorem rmul_core (a b p h l : Int) (ha : -9223372036854775808 ≤ a ∧ a ≤ 9223372036854775807) (hb : -9223372036854775808 ≤ b ∧ b ≤ 9223372036854775807) (hp : Ck.sz a * Ck.sz b = p) (hh : p / 18446744073709551616 = h ∧ p % 18446744073709551616 = l)
    (bh : 0 ≤ h ∧ h ≤ 4611686018427387904) (bl : 0 ≤ l ∧ l ≤ 18446744073709551615) (r : Int) (c : Bool)
    (s : (decide (a < 0) = decide (b < 0)) ∧ ((c = false ∧ r = 0 ∧ (0 < h ∨ 9223372036854775807 < l)) ∨ (c = true ∧ r = l ∧ h = 0 ∧ l ≤ 9223372036854775807)) ∨ (decide (a < 0) = !decide (b < 0)) ∧ ((c = false ∧ r = 0 ∧ (0 < h ∨ 9223372036854775808 < l)) ∨ (c = true ∧ r = -l ∧ h = 0 ∧ l ≤ 9223372036854775808))) (w : World) :
    Calls Try.prog 14 #[.int .i64 a, .int .i64 b] w fun e w' => e = .returned (.tuple #[.int .i64 r, .bool c]) ∧ w = w' := by
  have SA := Lib.hid (size_any a w ha)
  have SB := Lib.hid (size_any b w hb)
  have MM := Lib.hid (mul64_at _ _ h l (Ck.sz_bd a ha) (Ck.sz_bd b hb) (by rw [hp]; exact hh) w)
  clear hp hh
  rcases s with ⟨s1, ⟨rfl, rfl, s2⟩ | ⟨rfl, rfl, rfl, s3⟩⟩ | ⟨s1, ⟨rfl, rfl, s2⟩ | ⟨rfl, rfl, rfl, s3⟩⟩
  · by_cases g : 0 < h
    · clear s2
      go_enter Try.func14, Try.ntmps14
      go_wp2_with fail
      refine SA.out.mono ?_; rintro e w' ⟨rfl, rfl⟩
      go_wp2_with fail
      refine SB.out.mono ?_; rintro e w' ⟨rfl, rfl⟩
      go_wp2_with fail
      refine MM.out.mono ?_; rintro e w' ⟨rfl, rfl⟩
      go_wp2
      go_ret2
      exact ⟨rfl, rfl⟩
    · have s3 : 9223372036854775807 < l := by omega
      clear s2
      go_enter Try.func14, Try.ntmps14
      go_wp2_with fail
      refine SA.out.mono ?_; rintro e w' ⟨rfl, rfl⟩
      go_wp2_with fail
      refine SB.out.mono ?_; rintro e w' ⟨rfl, rfl⟩
      go_wp2_with fail
      refine MM.out.mono ?_; rintro e w' ⟨rfl, rfl⟩
      go_wp2
      go_ret2
      exact ⟨rfl, rfl⟩
  · have s4 : ¬ 9223372036854775807 < r := by omega
    have bl2 : 0 ≤ r ∧ r ≤ 9223372036854775807 := by omega
    clear bl
    go_enter Try.func14, Try.ntmps14
    go_wp2_with fail
    refine SA.out.mono ?_; rintro e w' ⟨rfl, rfl⟩
    go_wp2_with fail
    refine SB.out.mono ?_; rintro e w' ⟨rfl, rfl⟩
    go_wp2_with fail
    refine MM.out.mono ?_; rintro e w' ⟨rfl, rfl⟩
    go_wp2
    go_ret2
    exact ⟨rfl, rfl⟩
  · by_cases g : 0 < h
    · clear s2
      go_enter Try.func14, Try.ntmps14
      go_wp2_with fail
      refine SA.out.mono ?_; rintro e w' ⟨rfl, rfl⟩
      go_wp2_with fail
      refine SB.out.mono ?_; rintro e w' ⟨rfl, rfl⟩
      go_wp2_with fail
      refine MM.out.mono ?_; rintro e w' ⟨rfl, rfl⟩
      go_wp2
      go_ret2
      exact ⟨rfl, rfl⟩
    · have s3 : 9223372036854775808 < l := by omega
      clear s2
      go_enter Try.func14, Try.ntmps14
      go_wp2_with fail
      refine SA.out.mono ?_; rintro e w' ⟨rfl, rfl⟩
      go_wp2_with fail
      refine SB.out.mono ?_; rintro e w' ⟨rfl, rfl⟩
      go_wp2_with fail
      refine MM.out.mono ?_; rintro e w' ⟨rfl, rfl⟩
      go_wp2
      go_ret2
      exact ⟨rfl, rfl⟩
  · by_cases z : l = 0
    · subst z
      go_enter Try.func14, Try.ntmps14
      go_wp2_with fail
      refine SA.out.mono ?_; rintro e w' ⟨rfl, rfl⟩
      go_wp2_with fail
      refine SB.out.mono ?_; rintro e w' ⟨rfl, rfl⟩
      go_wp2_with fail
      refine MM.out.mono ?_; rintro e w' ⟨rfl, rfl⟩
      go_wp2
      go_ret2
      exact ⟨rfl, rfl⟩
    · have s4 : ¬ 9223372036854775808 < l := by omega
      have z2 : (l == 0) = false := by simpa using z
      go_enter Try.func14, Try.ntmps14
      go_wp2_with fail
      refine SA.out.mono ?_; rintro e w' ⟨rfl, rfl⟩
      go_wp2_with fail
      refine SB.out.mono ?_; rintro e w' ⟨rfl, rfl⟩
      go_wp2_with fail
      refine MM.out.mono ?_; rintro e w' ⟨rfl, rfl⟩
      go_wp2
      go_ret2
      exact ⟨ret_ib (by omega) rfl, rfl⟩
theorem rmul_any (a b : Int) (w : World) (ha : -9223372036854775808 ≤ a ∧ a ≤ 9223372036854775807) (hb : -9223372036854775808 ≤ b ∧ b ≤ 9223372036854775807) : Calls Try.prog 14 #[.int .i64 a, .int .i64 b] w fun e w' => e = out (a * b) ∧ w = w' := by
  have h1 := sz_mul_bd a b ha hb
  have h2 := Ck.mul_sz a b
  unfold out
  generalize hp : Ck.sz a * Ck.sz b = p at *
  refine rmul_core a b p _ _ ha hb hp ⟨rfl, rfl⟩ (by omega) (by omega) _ _ ?_ w
  by_cases s : decide (a < 0) = decide (b < 0)
  · have e := h2.1 (by by_cases x : a < 0 <;> by_cases y : b < 0 <;> simp [x, y] at s ⊢ <;> omega)
    rw [e]
    refine .inl ⟨s, ?_⟩
    rcases Ck.fit_cases p with ⟨c1, c2, c3⟩ | ⟨c1, c2, c3⟩
    · exact .inr ⟨c1, by omega, by omega, by omega⟩
    · exact .inl ⟨c1, c2, by omega⟩
  · have e := h2.2 (by by_cases x : a < 0 <;> by_cases y : b < 0 <;> simp [x, y] at s ⊢ <;> omega)
    rw [e]
    refine .inr ⟨by by_cases x : a < 0 <;> by_cases y : b < 0 <;> simp [x, y] at s ⊢, ?_⟩
    rcases Ck.fit_cases (-p) with ⟨c1, c2, c3⟩ | ⟨c1, c2, c3⟩
    · exact .inr ⟨c1, by omega, by omega, by omega⟩
    · exact .inl ⟨c1, c2, by omega⟩
theorem quiet_size (a : Int) (w : World) (n : Nat) (ha : -9223372036854775808 ≤ a ∧ a ≤ 9223372036854775807) : Calls Try.prog 26 #[.int .i64 a] (w.drewN n) fun e w' => e = .returned (.int .u64 (Ck.sz a)) ∧ ∃ m, w' = w.drewN m := dw_same (size_any a _ ha)

set_option maxHeartbeats 1000000 in
theorem parts_at (a b q r : Int) (hq : Ck.sz a / Ck.sz b = q ∧ Ck.sz a % Ck.sz b = r) (w : World) (ha : -9223372036854775808 ≤ a ∧ a ≤ 9223372036854775807) (hb : -9223372036854775808 ≤ b ∧ b ≤ 9223372036854775807) (hz : b ≠ 0) : Calls Try.prog 28 #[.int .i64 a, .int .i64 b] w fun e w' => e = .returned (.tuple #[.int .u64 q, .int .u64 r]) ∧ Dw w w' := by
  have b1 := Ck.sz_bd a ha
  have b2 := Ck.sz_bd b hb
  have b3 : ¬ Ck.sz b = 0 := by unfold Ck.sz; split <;> omega
  have Q := Lib.hid hq
  clear hq
  have SA := fun n => Lib.hid (quiet_size a w n ha)
  have SB := fun n => Lib.hid (quiet_size b w n hb)
  generalize Ck.sz a = x at *
  generalize Ck.sz b = y at *
  go_enter Try.func28, Try.ntmps28
  go_wp2
  go_quiet ((go_at_call 26; first | (with_reducible exact (SA _).out) | (with_reducible exact (SB _).out)))
  go_wp2
  go_ret2
  exact ⟨ret_two Q.out.1 Q.out.2, _, rfl⟩
set_option maxHeartbeats 1000000 in
theorem rdiv_core (a b q r v : Int) (c : Bool) (ha : -9223372036854775808 ≤ a ∧ a ≤ 9223372036854775807) (hb : -9223372036854775808 ≤ b ∧ b ≤ 9223372036854775807) (hz : ¬ b = 0) (hq : Ck.sz a / Ck.sz b = q ∧ Ck.sz a % Ck.sz b = r)
    (bq : 0 ≤ q ∧ q ≤ 9223372036854775808) (br : 0 ≤ r ∧ r ≤ 9223372036854775808)
    (s : ((decide (a < 0) = decide (b < 0)) ∧ ((c = false ∧ v = 0 ∧ 9223372036854775807 < q) ∨ (c = true ∧ v = q ∧ ¬ 9223372036854775807 < q))) ∨ ((decide (a < 0) = !decide (b < 0)) ∧ c = true ∧ ((r = 0 ∧ v = -q) ∨ (0 < r ∧ v = -(q + 1) ∧ q + 1 ≤ 9223372036854775808)))) (w : World) :
    Calls Try.prog 16 #[.int .i64 a, .int .i64 b] w fun e w' => e = .returned (.tuple #[.int .i64 v, .bool c]) ∧ Dw w w' := by
  have PA := Lib.hid (parts_at a b q r hq w ha hb hz)
  have Z := hz
  clear hq
  have z2 : (b == 0) = false := by simpa using hz
  rcases s with ⟨s1, ⟨rfl, rfl, s2⟩ | ⟨rfl, rfl, s2⟩⟩ | ⟨s1, rfl, ⟨rfl, rfl⟩ | ⟨s3, rfl, s4⟩⟩
  · clear bq
    go_enter Try.func16, Try.ntmps16
    go_wp2_with fail
    refine PA.out.mono ?_; rintro e w1 ⟨rfl, hd⟩; have HD := Lib.hid hd; clear hd
    go_wp2
    go_ret2
    exact ⟨rfl, HD.out⟩
  · have bv : 0 ≤ v ∧ v ≤ 9223372036854775807 := by omega
    clear bq
    go_enter Try.func16, Try.ntmps16
    go_wp2_with fail
    refine PA.out.mono ?_; rintro e w1 ⟨rfl, hd⟩; have HD := Lib.hid hd; clear hd
    go_wp2
    go_ret2
    exact ⟨rfl, HD.out⟩
  · by_cases y : q = 0
    · subst y
      go_enter Try.func16, Try.ntmps16
      go_wp2_with fail
      refine PA.out.mono ?_; rintro e w1 ⟨rfl, hd⟩; have HD := Lib.hid hd; clear hd
      go_wp2
      go_ret2
      exact ⟨rfl, HD.out⟩
    · have y2 : (q == 0) = false := by simpa using y
      go_enter Try.func16, Try.ntmps16
      go_wp2_with fail
      refine PA.out.mono ?_; rintro e w1 ⟨rfl, hd⟩; have HD := Lib.hid hd; clear hd
      go_wp2
      go_ret2
      exact ⟨ret_ib (by omega) rfl, HD.out⟩
  · have y2 : (q + 1 == 0) = false := by simp; omega
    go_enter Try.func16, Try.ntmps16
    go_wp2_with fail
    refine PA.out.mono ?_; rintro e w1 ⟨rfl, hd⟩; have HD := Lib.hid hd; clear hd
    go_wp2
    go_ret2
    exact ⟨ret_ib (by omega) rfl, HD.out⟩
theorem sgn (a b : Int) : (decide (a < 0) = decide (b < 0) ∧ ((a < 0 ∧ b < 0) ∨ (0 ≤ a ∧ 0 ≤ b))) ∨ ((decide (a < 0) = !decide (b < 0)) ∧ ((a < 0 ∧ 0 ≤ b) ∨ (0 ≤ a ∧ b < 0))) := by
  by_cases x : a < 0 <;> by_cases y : b < 0 <;> simp [x, y] <;> omega
theorem rdiv_any (a b : Int) (w : World) (ha : -9223372036854775808 ≤ a ∧ a ≤ 9223372036854775807) (hb : -9223372036854775808 ≤ b ∧ b ≤ 9223372036854775807) : Calls Try.prog 16 #[.int .i64 a, .int .i64 b] w fun e w' => e = outIf (Ck.dok a b) (Ck.dv a b) ∧ Dw w w' := by
  by_cases hz : b = 0
  · rw [outIf_no ((Ck.dok_no a b).2 (.inl hz))]
    subst hz
    go_enter Try.func16, Try.ntmps16
    go_wp2
    go_ret2
    exact ⟨rfl, Dw.refl _⟩
  · have h1 := Ck.sz_bd a ha
    have h2 := Ck.sz_bd b hb
    have h3 : 0 < Ck.sz b := by unfold Ck.sz; split <;> omega
    have h4 := (Ck.ediv_bd (Ck.sz a) (Ck.sz b) h3).1 h1.1
    have h5 := Int.emod_nonneg (Ck.sz a) (show Ck.sz b ≠ 0 by omega)
    have h6 := Int.emod_lt_of_pos (Ck.sz a) h3
    have hs := fun h => Ck.dv_same a b h
    have ho := Ck.dv_other a b hz
    have hv := Ck.dv_bd a b ha
    have hn : Ck.dok a b = false → Ck.dv a b = 9223372036854775808 := by
      intro h
      obtain ⟨rfl, rfl⟩ := Ck.dv_out a b hz h
      decide
    unfold outIf
    generalize hq : Ck.sz a / Ck.sz b = q at *
    generalize hr : Ck.sz a % Ck.sz b = r at *
    refine rdiv_core a b q r _ _ ha hb hz ⟨hq, hr⟩ (by omega) (by omega) ?_ w
    rcases sgn a b with ⟨s1, s2⟩ | ⟨s1, s2⟩
    · refine .inl ⟨s1, ?_⟩
      have e := (hs s2).1
      cases c : Ck.dok a b with
      | false => exact .inl ⟨rfl, rfl, by have := hn c; omega⟩
      | true => exact .inr ⟨rfl, e, by have := hv c; omega⟩
    · have c : Ck.dok a b = true := by
        rw [Ck.dok_iff]
        refine ⟨hz, ?_⟩
        rintro ⟨rfl, rfl⟩
        simp at s1
      have := hv c
      rw [c]
      refine .inr ⟨s1, rfl, ?_⟩
      rcases (show 0 < r ∨ r ≤ 0 by omega) with g | g
      · have e := (ho s2).2 g
        exact .inr ⟨g, e.1, by omega⟩
      · have e := (ho s2).1 (by omega)
        exact .inl ⟨by omega, e.1⟩
set_option maxHeartbeats 1000000 in
theorem rmod_core (a b q r t v : Int) (ha : -9223372036854775808 ≤ a ∧ a ≤ 9223372036854775807) (hb : -9223372036854775808 ≤ b ∧ b ≤ 9223372036854775807) (hz : ¬ b = 0) (hq : Ck.sz a / Ck.sz b = q ∧ Ck.sz a % Ck.sz b = r) (ht : Ck.sz b = t)
    (br : 0 ≤ r ∧ r < t) (bt : t ≤ 9223372036854775808)
    (s : ((decide (a < 0) = decide (b < 0)) ∧ ((b < 0 ∧ v = -r) ∨ (¬ b < 0 ∧ v = r))) ∨ ((decide (a < 0) = !decide (b < 0)) ∧ ((r = 0 ∧ v = 0) ∨ (0 < r ∧ ((b < 0 ∧ v = -(t - r)) ∨ (¬ b < 0 ∧ v = t - r)))))) (w : World) :
    Calls Try.prog 18 #[.int .i64 a, .int .i64 b] w fun e w' => e = .returned (.tuple #[.int .i64 v, .bool true]) ∧ Dw w w' := by
  have PA := Lib.hid (parts_at a b q r hq w ha hb hz)
  have SZ := Lib.hid ht
  clear hq ht
  have z2 : (b == 0) = false := by simpa using hz
  have b2 : r ≤ 9223372036854775807 := by omega
  rcases s with ⟨s1, ⟨s2, rfl⟩ | ⟨s2, rfl⟩⟩ | ⟨s1, ⟨rfl, rfl⟩ | ⟨s3, ⟨s2, rfl⟩ | ⟨s2, rfl⟩⟩⟩
  · by_cases g : 0 < r
    · skip
      go_enter Try.func18, Try.ntmps18
      go_wp2_with fail
      refine PA.out.mono ?_; rintro e w1 ⟨rfl, hd⟩; have HD := Lib.hid hd; clear hd
      go_wp2
      go_ret2
      exact ⟨ret_ib (by omega) rfl, HD.out⟩
    · skip
      go_enter Try.func18, Try.ntmps18
      go_wp2_with fail
      refine PA.out.mono ?_; rintro e w1 ⟨rfl, hd⟩; have HD := Lib.hid hd; clear hd
      go_wp2
      go_ret2
      exact ⟨ret_ib (by omega) rfl, HD.out⟩
  · by_cases g : 0 < v
    · skip
      go_enter Try.func18, Try.ntmps18
      go_wp2_with fail
      refine PA.out.mono ?_; rintro e w1 ⟨rfl, hd⟩; have HD := Lib.hid hd; clear hd
      go_wp2
      go_ret2
      exact ⟨ret_ib (by omega) rfl, HD.out⟩
    · skip
      go_enter Try.func18, Try.ntmps18
      go_wp2_with fail
      refine PA.out.mono ?_; rintro e w1 ⟨rfl, hd⟩; have HD := Lib.hid hd; clear hd
      go_wp2
      go_ret2
      exact ⟨ret_ib (by omega) rfl, HD.out⟩
  · by_cases s2 : b < 0
    · skip
      go_enter Try.func18, Try.ntmps18
      go_wp2_with fail
      refine PA.out.mono ?_; rintro e w1 ⟨rfl, hd⟩; have HD := Lib.hid hd; clear hd
      go_wp2
      go_ret2
      exact ⟨ret_ib (by omega) rfl, HD.out⟩
    · skip
      go_enter Try.func18, Try.ntmps18
      go_wp2_with fail
      refine PA.out.mono ?_; rintro e w1 ⟨rfl, hd⟩; have HD := Lib.hid hd; clear hd
      go_wp2
      go_ret2
      exact ⟨ret_ib (by omega) rfl, HD.out⟩
  · have b3 : 0 ≤ t - r ∧ t - r ≤ 9223372036854775807 := by omega
    go_enter Try.func18, Try.ntmps18
    go_wp2_with fail
    refine PA.out.mono ?_; rintro e w1 ⟨rfl, hd⟩; have HD := Lib.hid hd; clear hd
    go_wp2_with fail
    refine (size_any _ _ hb).mono ?_; rintro e w2 ⟨rfl, rfl⟩
    rw [SZ.out]
    go_wp2
    go_ret2
    exact ⟨ret_ib (by omega) rfl, HD.out⟩
  · have b3 : 0 ≤ t - r ∧ t - r ≤ 9223372036854775807 := by omega
    go_enter Try.func18, Try.ntmps18
    go_wp2_with fail
    refine PA.out.mono ?_; rintro e w1 ⟨rfl, hd⟩; have HD := Lib.hid hd; clear hd
    go_wp2_with fail
    refine (size_any _ _ hb).mono ?_; rintro e w2 ⟨rfl, rfl⟩
    rw [SZ.out]
    go_wp2
    go_ret2
    exact ⟨ret_ib (by omega) rfl, HD.out⟩
theorem rmod_any (a b : Int) (w : World) (ha : -9223372036854775808 ≤ a ∧ a ≤ 9223372036854775807) (hb : -9223372036854775808 ≤ b ∧ b ≤ 9223372036854775807) : Calls Try.prog 18 #[.int .i64 a, .int .i64 b] w fun e w' => e = outIf (decide (b ≠ 0)) (Ck.md a b) ∧ Dw w w' := by
  by_cases hz : b = 0
  · rw [outIf_no (by simpa using hz)]
    subst hz
    go_enter Try.func18, Try.ntmps18
    go_wp2
    go_ret2
    exact ⟨rfl, Dw.refl _⟩
  · rw [outIf_yes (by simpa using hz)]
    have h2 := Ck.sz_bd b hb
    have h3 : 0 < Ck.sz b := by unfold Ck.sz; split <;> omega
    have h5 := Int.emod_nonneg (Ck.sz a) (show Ck.sz b ≠ 0 by omega)
    have h6 := Int.emod_lt_of_pos (Ck.sz a) h3
    have hs := fun h => Ck.dv_same a b h
    have ho := Ck.dv_other a b hz
    refine rmod_core a b _ (Ck.sz a % Ck.sz b) (Ck.sz b) _ ha hb hz ⟨rfl, rfl⟩ rfl (by omega) (by omega) ?_ w
    rcases sgn a b with ⟨s1, s2⟩ | ⟨s1, s2⟩
    · refine .inl ⟨s1, ?_⟩
      have e := (hs s2).2
      rcases (show b < 0 ∨ 0 ≤ b by omega) with g | g
      · exact .inl ⟨g, e.1 g⟩
      · exact .inr ⟨by omega, e.2 g⟩
    · refine .inr ⟨s1, ?_⟩
      rcases (show 0 < Ck.sz a % Ck.sz b ∨ Ck.sz a % Ck.sz b ≤ 0 by omega) with k | k
      · have e := ((ho s2).2 k).2
        refine .inr ⟨k, ?_⟩
        rcases (show b < 0 ∨ 0 ≤ b by omega) with g | g
        · exact .inl ⟨g, e.1 g⟩
        · exact .inr ⟨by omega, e.2 g⟩
      · exact .inl ⟨by omega, ((ho s2).1 (by omega)).2⟩
end Go.Proofs.Ytejdeaacpjgjiaa
