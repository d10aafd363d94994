/- The document's answers of layer 4: Print and what it calls. -/
import Derived.Test.YteahckmpjihcaaaDoorOpr
import Derived.Deep.LoopGhost
namespace Go.Proofs.YteahckmpjihcaaaDoor
open Go.RowKit
theorem dec1_any (x : Int) (n : Nat) (hx : x = (n : Int)) (hn : n < 10) (w : World) : Calls Tryd.prog 31 #[.int .i64 x] w fun e w' => e = .returned (.string ⟨#[Of.dig n]⟩) ∧ w = w' := by
  have key : (⟨#[48, 49, 50, 51, 52, 53, 54, 55, 56, 57]⟩ : ByteArray).extract n (n + 1) = ⟨#[Of.dig n]⟩ := by
    have : n = 0 ∨ n = 1 ∨ n = 2 ∨ n = 3 ∨ n = 4 ∨ n = 5 ∨ n = 6 ∨ n = 7 ∨ n = 8 ∨ n = 9 := by omega
    rcases this with rfl | rfl | rfl | rfl | rfl | rfl | rfl | rfl | rfl | rfl <;> rfl
  subst hx
  have hs : (⟨#[48, 49, 50, 51, 52, 53, 54, 55, 56, 57]⟩ : ByteArray).size = 10 := rfl
  go_enter Tryd.func31, Tryd.ntmps31
  go_wp2
  go_ret
  exact ⟨rfl, rfl⟩
theorem dec2_any (x : Int) (n : Nat) (hx : x = (n : Int)) (h1 : 10 ≤ n) (hn : n < 100) (w : World) : Calls Tryd.prog 31 #[.int .i64 x] w fun e w' => e = .returned (.string ⟨(Of.dec n).toArray⟩) ∧ w = w' := by
  have hap : (⟨#[Of.dig (n / 10)]⟩ ++ ⟨#[Of.dig (n % 10)]⟩ : ByteArray) = ⟨(Of.dec n).toArray⟩ := by
    unfold Of.dec; rw [if_neg (by omega), if_pos hn]; exact app_bs [_] [_]
  have hA := fun w => dec1_any (x / 10) (n / 10) (by omega) (by omega) w
  have hB := fun w => dec1_any (x % 10) (n % 10) (by omega) (by omega) w
  have hx1 : 10 ≤ x := by omega
  have hx2 : x < 100 := by omega
  have q : ¬ 9223372036854775807 < (⟨#[Of.dig (n / 10)]⟩ : ByteArray).size + (⟨#[Of.dig (n % 10)]⟩ : ByteArray).size := by
    show ¬ 9223372036854775807 < 1 + 1; omega
  clear hx
  generalize (⟨#[Of.dig (n / 10)]⟩ : ByteArray) = P at *
  generalize (⟨#[Of.dig (n % 10)]⟩ : ByteArray) = Q at *
  go_enter Tryd.func31, Tryd.ntmps31
  go_wp2_with fail
  refine (hA _).mono ?_; rintro e w1 ⟨rfl, rfl⟩
  go_wp2_with fail
  refine (hB _).mono ?_; rintro e w1 ⟨rfl, rfl⟩
  go_wp2
  go_ret
  exact ⟨rfl, rfl⟩
theorem dec3_any (x : Int) (n : Nat) (hx : x = (n : Int)) (h1 : 100 ≤ n) (hn : n < 1000) (w : World) : Calls Tryd.prog 31 #[.int .i64 x] w fun e w' => e = .returned (.string ⟨(Of.dec n).toArray⟩) ∧ w = w' := by
  have hap : (⟨(Of.dec (n / 10)).toArray⟩ ++ ⟨#[Of.dig (n % 10)]⟩ : ByteArray) = ⟨(Of.dec n).toArray⟩ := by
    have := app_bs (Of.dec (n / 10)) [Of.dig (n % 10)]
    refine this.trans ?_
    unfold Of.dec
    rw [if_neg (show ¬ n / 10 < 10 by omega), if_pos (show n / 10 < 100 by omega), if_neg (show ¬ n < 10 by omega), if_neg (show ¬ n < 100 by omega), show n / 10 / 10 = n / 100 by omega]; rfl
  have hA := fun w => dec2_any (x / 10) (n / 10) (by omega) (by omega) (by omega) w
  have hB := fun w => dec1_any (x % 10) (n % 10) (by omega) (by omega) w
  have hx1 : 100 ≤ x := by omega
  have hx2 : x < 1000 := by omega
  have hl := (Of.dec_le (n / 10)).2
  have q : ¬ 9223372036854775807 < (⟨(Of.dec (n / 10)).toArray⟩ : ByteArray).size + (⟨#[Of.dig (n % 10)]⟩ : ByteArray).size := by
    rw [bs_size]; show ¬ 9223372036854775807 < _ + 1; omega
  clear hx hl
  generalize (⟨(Of.dec (n / 10)).toArray⟩ : ByteArray) = P at *
  generalize (⟨#[Of.dig (n % 10)]⟩ : ByteArray) = Q at *
  go_enter Tryd.func31, Tryd.ntmps31
  go_wp2_with fail
  refine (hA _).mono ?_; rintro e w1 ⟨rfl, rfl⟩
  go_wp2_with fail
  refine (hB _).mono ?_; rintro e w1 ⟨rfl, rfl⟩
  go_wp2
  go_ret
  exact ⟨rfl, rfl⟩
theorem decimal_any (x : Int) (n : Nat) (hx : x = (n : Int)) (hn : n < 1000) (w : World) : Calls Tryd.prog 31 #[.int .i64 x] w fun e w' => e = .returned (.string ⟨(Of.dec n).toArray⟩) ∧ w = w' := by
  by_cases h1 : n < 10
  · have e : Of.dec n = [Of.dig n] := by unfold Of.dec; rw [if_pos h1]
    rw [e]; exact dec1_any x n hx h1 w
  · by_cases h2 : n < 100
    · exact dec2_any x n hx (by omega) h2 w
    · exact dec3_any x n hx (by omega) hn w
theorem rtwo_any (x : Int) (n : Nat) (hx : x = (n : Int)) (hn : n < 100) (w : World) : Calls Tryd.prog 32 #[.int .i64 x] w fun e w' => e = .returned (.string ⟨(Of.two n).toArray⟩) ∧ w = w' := by
  have hap : (⟨#[Of.dig (n / 10)]⟩ ++ ⟨#[Of.dig (n % 10)]⟩ : ByteArray) = ⟨(Of.two n).toArray⟩ := app_bs [_] [_]
  have hA := fun w => dec1_any (x / 10) (n / 10) (by omega) (by omega) w
  have hB := fun w => dec1_any (x % 10) (n % 10) (by omega) (by omega) w
  have hx1 : 0 ≤ x := by omega
  have hx2 : x < 100 := by omega
  have q : ¬ 9223372036854775807 < (⟨#[Of.dig (n / 10)]⟩ : ByteArray).size + (⟨#[Of.dig (n % 10)]⟩ : ByteArray).size := by
    show ¬ 9223372036854775807 < 1 + 1; omega
  clear hx
  generalize (⟨#[Of.dig (n / 10)]⟩ : ByteArray) = P at *
  generalize (⟨#[Of.dig (n % 10)]⟩ : ByteArray) = Q at *
  go_enter Tryd.func32, Tryd.ntmps32
  go_wp2_with fail
  refine (hA _).mono ?_; rintro e w1 ⟨rfl, rfl⟩
  go_wp2_with fail
  refine (hB _).mono ?_; rintro e w1 ⟨rfl, rfl⟩
  go_wp2
  go_ret
  exact ⟨rfl, rfl⟩
theorem body_bs (y : Nat) : (⟨(Of.body y).toArray⟩ : ByteArray) = if y % 60 = 0 then ⟨(Of.dec (y / 3600)).toArray⟩ ++ ⟨#[58]⟩ ++ ⟨(Of.two (y / 60 % 60)).toArray⟩ else ⟨(Of.dec (y / 3600)).toArray⟩ ++ ⟨#[58]⟩ ++ ⟨(Of.two (y / 60 % 60)).toArray⟩ ++ ⟨#[58]⟩ ++ ⟨(Of.two (y % 60)).toArray⟩ := by
  have hd : ∀ l : List UInt8, (⟨l.toArray⟩ ++ ⟨#[58]⟩ : ByteArray) = ⟨(l ++ [58]).toArray⟩ := fun l => app_bs l [58]
  unfold Of.body
  by_cases h : y % 60 = 0
  · rw [if_pos h, if_pos h, hd, app_bs]; simp
  · rw [if_neg h, if_neg h, hd, app_bs, hd, app_bs]; simp
set_option maxHeartbeats 1000000 in
theorem rpos_any (x : Int) (y : Nat) (hx : x = (y : Int)) (hy : y ≤ 604799) (w : World) : Calls Tryd.prog 25 #[.int .i64 x] w fun e w' => e = .returned (.tuple #[.string ⟨(Of.body y).toArray⟩, .int .i64 0]) ∧ w = w' := by
  have hA := fun w => decimal_any (x / 3600) (y / 3600) (by omega) (by omega) w
  have hB := fun w => rtwo_any (x / 60 % 60) (y / 60 % 60) (by omega) (by omega) w
  have hC := fun w => rtwo_any (x % 60) (y % 60) (by omega) (by omega) w
  have hx1 : 0 ≤ x := by omega
  have hx2 : x ≤ 604799 := by omega
  have hl := (Of.dec_le (y / 3600)).2
  have hbb := body_bs y
  have s1 : (⟨(Of.dec (y / 3600)).toArray⟩ : ByteArray).size ≤ 3 := by rw [bs_size]; exact hl
  have s2 : (⟨(Of.two (y / 60 % 60)).toArray⟩ : ByteArray).size ≤ 2 := Nat.le_refl 2
  have s3 : (⟨(Of.two (y % 60)).toArray⟩ : ByteArray).size ≤ 2 := Nat.le_refl 2
  by_cases h0 : y % 60 = 0
  · rw [if_pos h0] at hbb
    have hz : (x % 60 != 0) = false := by simp; omega
    rw [hbb]
    clear hx hl hbb h0 hC s3
    generalize (⟨(Of.dec (y / 3600)).toArray⟩ : ByteArray) = P at *
    generalize (⟨(Of.two (y / 60 % 60)).toArray⟩ : ByteArray) = Q at *
    have q1 : ¬ 9223372036854775807 < P.size + 1 := by omega
    have q2 : ¬ 9223372036854775807 < P.size + 1 + Q.size := by omega
    go_enter Tryd.func25, Tryd.ntmps25
    go_wp2_with fail
    refine (hA _).mono ?_; rintro e w1 ⟨rfl, rfl⟩
    go_wp2_with fail
    refine (hB _).mono ?_; rintro e w1 ⟨rfl, rfl⟩
    go_wp2
    go_ret2
    exact ⟨rfl, rfl⟩
  · rw [if_neg h0] at hbb
    have hz : (x % 60 != 0) = true := by simp; omega
    rw [hbb]
    clear hx hl hbb h0
    generalize (⟨(Of.dec (y / 3600)).toArray⟩ : ByteArray) = P at *
    generalize (⟨(Of.two (y / 60 % 60)).toArray⟩ : ByteArray) = Q at *
    generalize (⟨(Of.two (y % 60)).toArray⟩ : ByteArray) = R at *
    have q1 : ¬ 9223372036854775807 < P.size + 1 := by omega
    have q2 : ¬ 9223372036854775807 < P.size + 1 + Q.size := by omega
    have q3 : ¬ 9223372036854775807 < P.size + 1 + Q.size + 1 := by omega
    have q4 : ¬ 9223372036854775807 < P.size + 1 + Q.size + 1 + R.size := by omega
    go_enter Tryd.func25, Tryd.ntmps25
    go_wp2_with fail
    refine (hA _).mono ?_; rintro e w1 ⟨rfl, rfl⟩
    go_wp2_with fail
    refine (hB _).mono ?_; rintro e w1 ⟨rfl, rfl⟩
    go_wp2_with fail
    refine (hC _).mono ?_; rintro e w1 ⟨rfl, rfl⟩
    go_wp2
    go_ret2
    exact ⟨rfl, rfl⟩
theorem rprint_at (x : Int) (hx : -9223372036854775808 ≤ x ∧ x ≤ 9223372036854775807) (S : ByteArray) (c : Int) (hS : prs x = (S, c)) (w : World) : Calls Tryd.prog 25 #[.int .i64 x] w fun e w' => e = .returned (.tuple #[.string S, .int .i64 c]) ∧ w = w' := by
  unfold prs at hS
  by_cases h : -604799 ≤ x ∧ x ≤ 604799
  · rw [if_pos h] at hS
    obtain ⟨rfl, rfl⟩ := Prod.mk.inj hS
    clear hS
    obtain ⟨h1, h2⟩ := h
    by_cases h0 : x < 0
    · have hr : (⟨#[45]⟩ ++ ⟨(Of.body x.natAbs).toArray⟩ : ByteArray) = ⟨(Of.prt x).toArray⟩ := by
        have := app_bs [45] (Of.body x.natAbs)
        unfold Of.prt; rw [if_pos h0]; exact this
      have hl := (Of.body_len x.natAbs).2
      have hq : ¬ 9223372036854775807 < 1 + (⟨(Of.body x.natAbs).toArray⟩ : ByteArray).size := by rw [bs_size]; omega
      have hA := fun w => rpos_any (-x) x.natAbs (by omega) (by omega) w
      rw [← hr]
      clear hr hl
      generalize (⟨(Of.body x.natAbs).toArray⟩ : ByteArray) = B at *
      go_enter Tryd.func25, Tryd.ntmps25
      go_wp2_with fail
      refine (hA _).mono ?_; rintro e w1 ⟨rfl, rfl⟩
      go_wp2
      go_ret2
      exact ⟨rfl, rfl⟩
    · have e : Of.prt x = Of.body x.natAbs := by unfold Of.prt; rw [if_neg h0]
      rw [e]
      exact rpos_any x x.natAbs (by omega) (by omega) w
  · rw [if_neg h] at hS
    obtain ⟨rfl, rfl⟩ := Prod.mk.inj hS
    clear hS
    obtain ⟨hx1, hx2⟩ := hx
    by_cases h1 : x < -604799
    · clear h
      go_enter Tryd.func25, Tryd.ntmps25
      go_wp2
      go_ret2
      exact ⟨rfl, rfl⟩
    · have h2 : 604799 < x := by omega
      clear h
      go_enter Tryd.func25, Tryd.ntmps25
      go_wp2
      go_ret2
      exact ⟨rfl, rfl⟩
end Go.Proofs.YteahckmpjihcaaaDoor
