/- The walk of OffsetBack. -/
import Derived.Test.YtgfplgclldghkaaDoorLaw04
namespace Go.Proofs.YtgfplgclldghkaaDoor
open Go.RowKit
theorem prs_yes {x : Int} (h1 : -604799 ≤ x) (h2 : x ≤ 604799) : prs x = (⟨(Of.prt x).toArray⟩, 0) := by unfold prs; rw [if_pos ⟨h1, h2⟩]
theorem prt_size (x : Int) : (⟨(Of.prt x).toArray⟩ : ByteArray).size ≤ 10 := by rw [bs_size]; exact (Of.prt_len x).2
theorem prt_max (x : Int) : (⟨(Of.prt x).toArray⟩ : ByteArray).size ≤ maxLen := by have := prt_size x; unfold maxLen; omega
theorem prt_parse {x : Int} (h1 : -604799 ≤ x) (h2 : x ≤ 604799) : Of.parse (⟨(Of.prt x).toArray⟩ : ByteArray).data.toList = (x, 0) := Of.parse_prt h1 h2
/-- Print, Parse at worlds behind this one -/
theorem print_s {W0 w : World} (x : Int) (S : ByteArray) (c : Int) (hx : Hid (-9223372036854775808 ≤ x ∧ x ≤ 9223372036854775807)) (hS : Hid (prs x = (S, c))) (HC : Hid (Ps W0 w)) : Calls Tryd.prog 13 #[.int .i64 x] w fun e w' => e = .returned (.tuple #[.string S, .int .i64 c]) ∧ Hid (Ps W0 w') :=
  (print_at x hx.out S c hS.out w HC.out.2.1 HC.out.2.2).mono fun _ _ ⟨he, hb⟩ => ⟨he, Ps.hbl HC hb⟩
theorem parse_s {W0 w : World} (s : ByteArray) (y f : Int) (hs : Hid (s.size ≤ maxLen)) (h : Hid (Of.parse s.data.toList = (y, f))) (HC : Hid (Ps W0 w)) : Calls Tryd.prog 11 #[.string s] w fun e w' => e = .returned (.tuple #[.int .i64 y, .int .i64 f]) ∧ Hid (Ps W0 w') :=
  (parse_at s hs.out y f h.out w HC.out.2.1).mono fun _ _ ⟨he, hb⟩ => ⟨he, Ps.hbl HC hb⟩
theorem works_s {W0 w : World} (HC : Hid (Ps W0 w)) : Calls Tryd.prog 10 #[] w fun e w' => e = .returned (.bool true) ∧ Hid (Ps W0 w') :=
  (works4_any w HC.out.2.1 HC.out.2.2).mono fun _ _ ⟨he, hb⟩ => ⟨he, Ps.hbl HC hb⟩
theorem hid_bd {x : Int} (h1 : -604799 ≤ x) (h2 : x ≤ 604799) : Hid (-9223372036854775808 ≤ x ∧ x ≤ 9223372036854775807) := Lib.hid (by omega)
set_option maxRecDepth 100000 in
set_option maxHeartbeats 2000000 in
theorem oback_walk (n : Int) (hn : (Lit.int .u32 n).wf = true) (W0 : World) (hT : CtsW W0 ∧ PowW W0) : Calls Tryd.prog 5 #[.int .u32 n] W0 fun e w' => e = .returned (.bool true) ∧ Below W0.heap.size W0 w' := by
  have HC := Lib.hid (Ps.mk0 hT.1 hT.2)
  have hb := bounds_u32 hn
  obtain ⟨hb1, hb2⟩ := hb
  have hx1 : 0 ≤ n % 604800 := by omega
  have hx2 : n % 604800 ≤ 604799 := by omega
  have HX := hid_bd (show -604799 ≤ n % 604800 by omega) (by omega)
  have HY := hid_bd (show -604799 ≤ -(n % 604800) by omega) (by omega)
  have HS := Lib.hid (prs_yes (show -604799 ≤ n % 604800 by omega) (by omega))
  have HL := Lib.hid (prt_max (n % 604800))
  have HP := Lib.hid (prt_parse (show -604799 ≤ n % 604800 by omega) (by omega))
  have HM := Lib.hid (prs_yes (show -604799 ≤ -(n % 604800) by omega) (by omega))
  have HL2 := Lib.hid (prt_max (-(n % 604800)))
  have HP2 := Lib.hid (prt_parse (show -604799 ≤ -(n % 604800) by omega) (by omega))
  have hsz := prt_size (n % 604800)
  clear hT hn
  by_cases h0 : n % 604800 = 0
  · have e : Of.prt (-(n % 604800)) = Of.prt (n % 604800) := by rw [h0]; rfl
    rw [e] at HM HL2 HP2
    have h0b : (n % 604800 == 0) = true := by simpa using h0
    have h0c : (-(n % 604800) == 0) = true := by simpa using h0
    have H0 := Lib.hid h0
    clear h0 e
    generalize (⟨(Of.prt (n % 604800)).toArray⟩ : ByteArray) = S at *
    have hq : ¬ 9223372036854775807 < 1 + S.size := by omega
    go_enter Tryd.func5, Tryd.ntmps5
    go_wp2_with fail
    refine (print_s _ S 0 HX HS HC).mono ?_; rintro e w1 ⟨rfl, HC⟩
    go_wp2_with fail
    refine (parse_s S _ 0 HL HP HC).mono ?_; rintro e w1 ⟨rfl, HC⟩
    go_wp2_with fail
    refine (print_s _ S 0 HX HS HC).mono ?_; rintro e w1 ⟨rfl, HC⟩
    go_wp2_with fail
    refine (print_s _ S 0 HY HM HC).mono ?_; rintro e w1 ⟨rfl, HC⟩
    go_wp2_with fail
    refine (parse_s S _ 0 HL HP2 HC).mono ?_; rintro e w1 ⟨rfl, HC⟩
    go_wp2_with fail
    refine (works_s HC).mono ?_; rintro e w1 ⟨rfl, HC⟩
    go_wp2
    go_ret
    exact ⟨rfl, HC.out.1⟩
  · have e : (⟨(Of.prt (-(n % 604800))).toArray⟩ : ByteArray) = ⟨#[45]⟩ ++ ⟨(Of.prt (n % 604800)).toArray⟩ := by
      rw [Of.prt_neg (by omega)]; exact (app_bs [45] _).symm
    rw [e] at HM HL2 HP2
    have h0b : (n % 604800 == 0) = false := by simpa using h0
    clear h0 e
    generalize (⟨(Of.prt (n % 604800)).toArray⟩ : ByteArray) = S at *
    have hq : ¬ 9223372036854775807 < 1 + S.size := by omega
    go_enter Tryd.func5, Tryd.ntmps5
    go_wp2_with fail
    refine (print_s _ S 0 HX HS HC).mono ?_; rintro e w1 ⟨rfl, HC⟩
    go_wp2_with fail
    refine (parse_s S _ 0 HL HP HC).mono ?_; rintro e w1 ⟨rfl, HC⟩
    go_wp2_with fail
    refine (print_s _ S 0 HX HS HC).mono ?_; rintro e w1 ⟨rfl, HC⟩
    go_wp2_with fail
    refine (print_s _ _ 0 HY HM HC).mono ?_; rintro e w1 ⟨rfl, HC⟩
    go_wp2_with fail
    refine (parse_s _ _ 0 HL2 HP2 HC).mono ?_; rintro e w1 ⟨rfl, HC⟩
    go_wp2_with fail
    refine (works_s HC).mono ?_; rintro e w1 ⟨rfl, HC⟩
    go_wp2
    go_ret
    exact ⟨rfl, HC.out.1⟩
end Go.Proofs.YtgfplgclldghkaaDoor
