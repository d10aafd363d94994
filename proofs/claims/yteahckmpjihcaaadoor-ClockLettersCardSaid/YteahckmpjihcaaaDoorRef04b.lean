/- The document's answers of layer 4: digits, pairs, the form. -/
import Derived.Test.YteahckmpjihcaaaDoorOfn
import Derived.Test.YteahckmpjihcaaaDoorRef04
import Derived.Deep.QuietTactic
import Derived.BigQuiet
namespace Go.Proofs.YteahckmpjihcaaaDoor
open Go.RowKit
def dgt (c : Int) : Int := if 48 ≤ c ∧ c ≤ 57 then c - 48 else -1
theorem digit_any (c : Int) (h0 : 0 ≤ c) (h1 : c ≤ 255) (w : World) : Calls Tryd.prog 37 #[.int .u8 c] w fun e w' => e = .returned (.int .i64 (dgt c)) ∧ w = w' := by
  unfold dgt
  by_cases h : 48 ≤ c ∧ c ≤ 57
  · rw [if_pos h]
    obtain ⟨h2, h3⟩ := h
    go_enter Tryd.func37, Tryd.ntmps37
    go_wp2
    go_ret
    exact ⟨rfl, rfl⟩
  · rw [if_neg h]
    by_cases h2 : c < 48
    · clear h
      go_enter Tryd.func37, Tryd.ntmps37
      go_wp2
      go_ret
      exact ⟨rfl, rfl⟩
    · have h3 : 57 < c := by omega
      clear h
      go_enter Tryd.func37, Tryd.ntmps37
      go_wp2
      go_ret
      exact ⟨rfl, rfl⟩
theorem digit_yes (c v : Int) (hv : c - 48 = v) (h0 : 48 ≤ c) (h1 : c ≤ 57) (w : World) : Calls Tryd.prog 37 #[.int .u8 c] w fun e w' => e = .returned (.int .i64 v) ∧ w = w' := by
  have := digit_any c (by omega) (by omega) w
  unfold dgt at this
  rw [if_pos ⟨h0, h1⟩, hv] at this
  exact this
theorem digit_no (c : Int) (h0 : 0 ≤ c) (h1 : c ≤ 255) (h : ¬ (48 ≤ c ∧ c ≤ 57)) (w : World) : Calls Tryd.prog 37 #[.int .u8 c] w fun e w' => e = .returned (.int .i64 (-1)) ∧ w = w' := by
  have := digit_any c h0 h1 w
  unfold dgt at this
  rw [if_neg h] at this
  exact this
/-- the number of two digits, or -1 -/
def prn (o : Option Int) : Int := match o with | some v => v | none => -1
set_option maxHeartbeats 1000000 in
theorem pair_yes (s : ByteArray) (a : Nat) (v : Int) (hs : s.size ≤ 1000) (ha : a + 1 < s.size) (hd : Of.isD s[a] = true) (he : Of.isD s[a + 1] = true) (h5 : Of.dv s[a] ≤ 5) (hv : 10 * Of.dv s[a] + Of.dv s[a + 1] = v) (w : World) : Calls Tryd.prog 38 #[.string s, .int .i64 a] w fun e w' => e = .returned (.int .i64 v) ∧ ∃ n, w' = w.drewN n := by
  have b1 := Of.isD_bd hd
  have b2 := Of.isD_bd he
  unfold Of.dv at b1 b2 h5 hv
  have H1 := fun w => digit_yes (s[a].toNat : Int) _ rfl (by omega) (by omega) w
  have H2 := fun w => digit_yes (s[a + 1].toNat : Int) _ rfl (by omega) (by omega) w
  generalize (s[a].toNat : Int) - 48 = p at *
  generalize (s[a + 1].toNat : Int) - 48 = q at *
  have b3 := b1.1
  have b4 := b1.2
  have b5 := b2.1
  have b6 := b2.2
  have HV := Lib.hid hv
  have i1 : IntKind.i64.wrap (10 * p) = 10 * p := IntWalk.i64_in _ (by omega)
  have i2 : IntKind.i64.wrap (10 * p + q) = 10 * p + q := IntWalk.i64_in _ (by omega)
  have i3 : IntKind.i64.wrap ((a : Int) + 1) = (a : Int) + 1 := IntWalk.i64_in _ (by omega)
  clear hd he b1 b2 hv
  go_enter Tryd.func38, Tryd.ntmps38
  go_wp2_with fail
  refine (H1 _).mono ?_; rintro e w1 ⟨rfl, rfl⟩
  go_wp2_with fail
  refine (H2 _).mono ?_; rintro e w1 ⟨rfl, rfl⟩
  go_wp2_with fail
  refine (H1 _).mono ?_; rintro e w1 ⟨rfl, rfl⟩
  go_wp2_with fail
  go_quiet ((first | (go_at_call 37; with_reducible exact dw_same (H1 _)) | (go_at_call 37; with_reducible exact dw_same (H2 _))))
  go_wp2
  go_ret
  exact ⟨ret_int HV.out, _, rfl⟩
/-- no two digits, or too great -/
theorem pair_no (s : ByteArray) (a : Nat) (hs : s.size ≤ 1000) (ha : a ≤ s.size + 6) (h : Of.pr (s.data.toList.drop a) = none) (w : World) : Calls Tryd.prog 38 #[.string s, .int .i64 a] w fun e w' => e = .returned (.int .i64 (-1)) ∧ ∃ n, w' = w.drewN n := by
  by_cases h1 : a + 1 < s.size
  · have hd : s.data.toList.drop a = s[a] :: s[a + 1] :: s.data.toList.drop (a + 2) := by
      rw [Of.drop_eq (byte_at s a (by omega)), Of.drop_eq (byte_at s (a + 1) h1)]
    rw [hd] at h
    by_cases hx : Of.isD s[a] = true
    · have hx1 : 48 ≤ (s[a].toNat : Int) ∧ (s[a].toNat : Int) ≤ 57 := by simpa [Of.isD] using hx
      by_cases hy : Of.isD s[a + 1] = true
      · have hy1 : 48 ≤ (s[a + 1].toNat : Int) ∧ (s[a + 1].toNat : Int) ≤ 57 := by simpa [Of.isD] using hy
        have h5 : ¬ Of.dv s[a] ≤ 5 := by
          intro k; simp [Of.pr, hx, hy, k] at h
        unfold Of.dv at h5
        have H1 := fun w => digit_yes (s[a].toNat : Int) _ rfl hx1.1 hx1.2 w
        have H2 := fun w => digit_yes (s[a + 1].toNat : Int) _ rfl hy1.1 hy1.2 w
        have g1 : 0 ≤ (s[a].toNat : Int) - 48 := by omega
        have g2 : 0 ≤ (s[a + 1].toNat : Int) - 48 := by omega
        generalize (s[a].toNat : Int) - 48 = p at *
        generalize (s[a + 1].toNat : Int) - 48 = q at *
        have HD := Lib.hid hd
        clear hd h hx hy hx1 hy1
        go_enter Tryd.func38, Tryd.ntmps38
        go_wp2_with fail
        refine (H1 _).mono ?_; rintro e w1 ⟨rfl, rfl⟩
        go_wp2_with fail
        refine (H2 _).mono ?_; rintro e w1 ⟨rfl, rfl⟩
        go_wp2_with fail
        refine (H1 _).mono ?_; rintro e w1 ⟨rfl, rfl⟩
        go_wp2
        go_ret
        exact ⟨rfl, 0, rfl⟩
      · have hy1 : ¬ (48 ≤ (s[a + 1].toNat : Int) ∧ (s[a + 1].toNat : Int) ≤ 57) := by simpa [Of.isD] using hy
        have ub : (s[a + 1].toNat : Int) ≤ 255 := by have := s[a + 1].toNat_lt; omega
        have H1 := fun w => digit_yes (s[a].toNat : Int) _ rfl hx1.1 hx1.2 w
        have H2 := fun w => digit_no (s[a + 1].toNat : Int) (by omega) ub hy1 w
        have g1 : 0 ≤ (s[a].toNat : Int) - 48 := by omega
        generalize (s[a].toNat : Int) - 48 = p at *
        clear hd h hx hy hx1 hy1 ub
        go_enter Tryd.func38, Tryd.ntmps38
        go_wp2_with fail
        refine (H1 _).mono ?_; rintro e w1 ⟨rfl, rfl⟩
        go_wp2_with fail
        refine (H2 _).mono ?_; rintro e w1 ⟨rfl, rfl⟩
        go_wp2
        go_ret
        exact ⟨rfl, 0, rfl⟩
    · have hx1 : ¬ (48 ≤ (s[a].toNat : Int) ∧ (s[a].toNat : Int) ≤ 57) := by simpa [Of.isD] using hx
      have ub : (s[a].toNat : Int) ≤ 255 := by have := s[a].toNat_lt; omega
      have H1 := fun w => digit_no (s[a].toNat : Int) (by omega) ub hx1 w
      clear hd h hx hx1 ub
      go_enter Tryd.func38, Tryd.ntmps38
      go_wp2_with fail
      refine (H1 _).mono ?_; rintro e w1 ⟨rfl, rfl⟩
      go_wp2
      go_ret
      exact ⟨rfl, 0, rfl⟩
  · have h2 : (s.size : Int) < (a : Int) + 2 := by omega
    clear h
    go_enter Tryd.func38, Tryd.ntmps38
    go_wp2
    go_ret
    exact ⟨rfl, 0, rfl⟩
theorem pair_any (s : ByteArray) (a : Nat) (hs : s.size ≤ 1000) (ha : a ≤ s.size + 6) (w : World) : Calls Tryd.prog 38 #[.string s, .int .i64 a] w fun e w' => e = .returned (.int .i64 (prn (Of.pr (s.data.toList.drop a)))) ∧ ∃ n, w' = w.drewN n := by
  cases h : Of.pr (s.data.toList.drop a) with
  | none => exact pair_no s a hs ha h w
  | some v =>
    have h1 : a + 1 < s.size := by
      rcases Nat.lt_or_ge (a + 1) s.size with k | k
      · exact k
      · exfalso
        have hl : (s.data.toList.drop a).length ≤ 1 := by simp; omega
        match s.data.toList.drop a, hl, h with
        | [], _, h => cases h
        | [_], _, h => cases h
        | _ :: _ :: _, hl, _ => simp at hl
    have hd : s.data.toList.drop a = s[a] :: s[a + 1] :: s.data.toList.drop (a + 2) := by
      rw [Of.drop_eq (byte_at s a (by omega)), Of.drop_eq (byte_at s (a + 1) h1)]
    rw [hd] at h
    simp only [Of.pr] at h
    split at h
    · rename_i hc
      simp at hc
      exact pair_yes s a v hs h1 hc.1.1 hc.1.2 hc.2 (Option.some.inj h) w
    · cases h
end Go.Proofs.YteahckmpjihcaaaDoor
