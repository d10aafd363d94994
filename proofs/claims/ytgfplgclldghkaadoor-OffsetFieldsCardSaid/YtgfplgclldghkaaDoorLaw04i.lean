/- The walk of OffsetFields. -/
import Derived.Test.YtgfplgclldghkaaDoorLaw04h
import Derived.Test.YtgfplgclldghkaaDoorOv
import Derived.Deep.LoopGhost
namespace Go.Proofs.YtgfplgclldghkaaDoor
open Go.RowKit
theorem two_h {W0 w : World} (x : Int) (n : Nat) (T : ByteArray) (hx : Hid (x = (n : Int))) (hn : n < 100) (hT : Hid (⟨(Of.two n).toArray⟩ = T)) (HC : Hid (Ps W0 w)) : Calls Tryd.prog 15 #[.int .i64 x] w fun e w' => e = .returned (.string T) ∧ Below w.heap.size w w' ∧ Hid (Ps W0 w') := by
  have := two_c x n hx.out hn w
  rw [hT.out] at this
  exact this.mono fun _ _ ⟨he, hb⟩ => ⟨he, hb, Ps.hbl HC hb⟩
set_option maxRecDepth 100000 in
set_option maxHeartbeats 4000000 in
theorem ofld_ap (a b c x : Int) (hN mN sN k : Nat) (ha : 0 ≤ a ∧ a < 256) (hb : 0 ≤ b ∧ b < 256) (hc : 0 ≤ c ∧ c < 256) (h1 : a % 168 = (hN : Int)) (h2 : b % 60 = (mN : Int)) (h3 : c % 60 = (sN : Int)) (hx : 3600 * (hN : Int) + 60 * (mN : Int) + (sN : Int) = x)
    (F M Z S : ByteArray) (hF : ⟨(Of.dec hN).toArray⟩ = F) (hM : ⟨(Of.two mN).toArray⟩ = M) (hZ : ⟨(Of.two sN).toArray⟩ = Z) (hS : ⟨(Of.prt x).toArray⟩ = S) (hk : (Of.dec hN).length = k)
    (hs0 : sN ≠ 0) (W0 : World) (hT : CtsW W0 ∧ PowW W0) : Calls Tryd.prog 6 #[.int .u8 a, .int .u8 b, .int .u8 c, .bool false] W0 fun e w' => e = .returned (.bool true) ∧ Below W0.heap.size W0 w' := by
  have HC := Lib.hid (Ps.mk0 hT.1 hT.2)
  have HT := Lib.hid hT
  obtain ⟨ha1, ha2⟩ := ha
  obtain ⟨hb1, hb2⟩ := hb
  obtain ⟨hc1, hc2⟩ := hc
  have g1 : hN < 168 := by omega
  have g2 : mN < 60 := by omega
  have g3 : sN < 60 := by omega
  have HX := hid_bd (show -604799 ≤ x by omega) (by omega)
  have hpx := prs_yes (show -604799 ≤ x by omega) (by omega)
  have hw := fld_whole g1 g2 g3 x hx S hS
  rw [hS] at hpx
  have HS := Lib.hid hpx
  rw [hF, hM, hZ, hk] at hw
  obtain ⟨hi, hks, hext, hwa, hwb⟩ := hw
  have s1 : S.size ≤ 10 := by rw [← hS, bs_size]; exact (Of.prt_len x).2
  have f1 : F.size ≤ 3 := by rw [← hF, bs_size]; exact (Of.dec_le hN).2
  have m1 : M.size ≤ 2 := by rw [← hM]; exact Nat.le_refl 2
  have z1 : Z.size ≤ 2 := by rw [← hZ]; exact Nat.le_refl 2
  have r3 := reads3 g1 g2 g3
  have q1 : ¬ 9223372036854775807 < F.size + 1 := by omega
  have q2 : ¬ 9223372036854775807 < F.size + 1 + M.size := by omega
  have q3 : ¬ 9223372036854775807 < F.size + 1 + M.size + 1 := by omega
  have q4 : ¬ 9223372036854775807 < F.size + 1 + M.size + 1 + Z.size := by omega
  rw [hF, hM, hZ, hx] at r3
  have hL : ∀ i, i < 1 → Reads x ([F ++ ⟨#[58]⟩ ++ M ++ ⟨#[58]⟩ ++ Z].getD i F) := by
    intro i hi
    have : i = 0 := by omega
    rcases this with rfl
    · exact r3
  have heq : (S.toList == (F ++ ⟨#[58]⟩ ++ M ++ ⟨#[58]⟩ ++ Z).toList) = true := by
    rw [hwa hs0]; exact beq_self_eq_true _
  have HL := Lib.hid hL
  have HM := Lib.hid hM
  have HZ := Lib.hid hZ
  have HI := Lib.hid hi
  have b1 : (mN : Int) < 60 := by omega
  have b2 : (sN : Int) < 60 := by omega
  have b3 : (hN : Int) < 168 := by omega
  have es : ((sN : Int) == 0) = false := by simp; omega
  clear hT hpx hS hwa hwb r3 hL hF hM hZ hi hk hs0
  go_enter Tryd.func6, Tryd.ntmps6
  go_wp2_with fail
  refine (print_s _ S 0 HX HS HC).mono ?_; rintro e w1 ⟨rfl, HC⟩
  go_wp2_with fail
  refine (cut_s S k HI.out hks (by omega) HC).mono ?_; rintro e w2 ⟨rfl, HC⟩
  go_wp2_with fail
  refine (two_h (mN : Int) mN M (Lib.hid rfl) (by omega) HM HC).mono ?_; rintro e w3 ⟨rfl, _, HC⟩
  go_wp2_with fail
  refine (two_h (sN : Int) sN Z (Lib.hid rfl) (by omega) HZ HC).mono ?_; rintro e w4 ⟨rfl, _, HC⟩
  go_wp2_with fail
  have HV : Hid (Sts (w4.alloc (.cells #[.string (F ++ ⟨#[58]⟩ ++ M ++ ⟨#[58]⟩ ++ Z)] 9)) w4.heap.size [F ++ ⟨#[58]⟩ ++ M ++ ⟨#[58]⟩ ++ Z]) := Lib.hid fun j s hj => by
    match j, hj with
    | 0, hj => simp at hj; subst hj; exact new_cell _ _ _ _ _ rfl
  replace HC := Ps.hal HC (.cells #[.string (F ++ ⟨#[58]⟩ ++ M ++ ⟨#[58]⟩ ++ Z)] 9)
  have hz : w4.heap.size < (w4.alloc (.cells #[.string (F ++ ⟨#[58]⟩ ++ M ++ ⟨#[58]⟩ ++ Z)] 9)).heap.size := by simp
  generalize w4.alloc (.cells #[.string (F ++ ⟨#[58]⟩ ++ M ++ ⟨#[58]⟩ ++ Z)] 9) = W1 at *
  generalize w4.heap.size = g at *
  go_wp2
  go_loopw [87] (fun i wr => ∃ k : Nat, k ≤ 1 ∧ i = .int .i64 k ∧ Below W1.heap.size W1 wr) (fun i _ => 1 - (intOf i).toNat)
  case atStart => exact ⟨0, by omega, rfl, Below.refl _ _⟩
  case round =>
    obtain ⟨j, hj, rfl, hb⟩ := hrel
    have HP := Lib.hid (HC.out.bl hb)
    by_cases hj3 : j < 1
    · have c0 : wr.cell? ⟨g, j, none⟩ = some (.string ([F ++ ⟨#[58]⟩ ++ M ++ ⟨#[58]⟩ ++ Z].getD j F)) := (hb.cell (p := ⟨g, j, none⟩) hz).trans (HV.out j _ (by
        rw [List.getD_eq_getElem?_getD, List.getElem?_eq_getElem (by simpa using hj3)]; rfl))
      have HR := Lib.hid (HL.out j hj3)
      have HB2 := Lib.hid hb
      clear hb heq
      generalize [F ++ ⟨#[58]⟩ ++ M ++ ⟨#[58]⟩ ++ Z].getD j F = v at *
      go_wp2_with fail
      refine (parse_at v (by have := HR.out.2.2.2; unfold maxLen; omega) x 0 HR.out.1 _ HP.out.2.1).mono ?_
      rintro e w8 ⟨rfl, hb⟩
      have HB3 := Lib.hid ((HB2.out.trans (hb.mono HB2.out.size) : Below W1.heap.size W1 w8))
      clear hb
      go_wp2
      go_roundw
      case rel => first | exact ⟨j + 1, by omega, by go_num, HB3.out⟩ | ((repeat apply Exists.intro); exact ⟨⟨j + 1, by omega, by go_num, HB3.out⟩, rfl⟩)
      case measure => simp [intOf]; omega
    · obtain rfl : j = 1 := by omega
      have c0 : wr.cell? ⟨g, 0, none⟩ = some (.string (F ++ ⟨#[58]⟩ ++ M ++ ⟨#[58]⟩ ++ Z)) := (hb.cell (p := ⟨g, 0, none⟩) hz).trans (HV.out 0 _ rfl)
      clear hb HV HL hj hj3
      go_wp2_with fail
      refine (works_s HP).mono ?_; rintro e w9 ⟨rfl, HP⟩
      go_wp2
      go_ret
      exact ⟨rfl, HP.out.1⟩
set_option maxRecDepth 100000 in
set_option maxHeartbeats 4000000 in
theorem ofld_am (a b c x : Int) (hN mN sN k : Nat) (ha : 0 ≤ a ∧ a < 256) (hb : 0 ≤ b ∧ b < 256) (hc : 0 ≤ c ∧ c < 256) (h1 : a % 168 = (hN : Int)) (h2 : b % 60 = (mN : Int)) (h3 : c % 60 = (sN : Int)) (hx : 3600 * (hN : Int) + 60 * (mN : Int) + (sN : Int) = x)
    (F M Z S : ByteArray) (hF : ⟨(Of.dec hN).toArray⟩ = F) (hM : ⟨(Of.two mN).toArray⟩ = M) (hZ : ⟨(Of.two sN).toArray⟩ = Z) (hS : ⟨(Of.prt x).toArray⟩ = S) (hk : (Of.dec hN).length = k)
    (hs0 : sN ≠ 0) (hx0 : x ≠ 0) (W0 : World) (hT : CtsW W0 ∧ PowW W0) : Calls Tryd.prog 6 #[.int .u8 a, .int .u8 b, .int .u8 c, .bool true] W0 fun e w' => e = .returned (.bool true) ∧ Below W0.heap.size W0 w' := by
  have HC := Lib.hid (Ps.mk0 hT.1 hT.2)
  have HT := Lib.hid hT
  obtain ⟨ha1, ha2⟩ := ha
  obtain ⟨hb1, hb2⟩ := hb
  obtain ⟨hc1, hc2⟩ := hc
  have g1 : hN < 168 := by omega
  have g2 : mN < 60 := by omega
  have g3 : sN < 60 := by omega
  have HX := hid_bd (show -604799 ≤ x by omega) (by omega)
  have hpx := prs_yes (show -604799 ≤ x by omega) (by omega)
  have hw := fld_whole g1 g2 g3 x hx S hS
  rw [hS] at hpx
  have HS := Lib.hid hpx
  rw [hF, hM, hZ, hk] at hw
  obtain ⟨hi, hks, hext, hwa, hwb⟩ := hw
  have s1 : S.size ≤ 10 := by rw [← hS, bs_size]; exact (Of.prt_len x).2
  have f1 : F.size ≤ 3 := by rw [← hF, bs_size]; exact (Of.dec_le hN).2
  have m1 : M.size ≤ 2 := by rw [← hM]; exact Nat.le_refl 2
  have z1 : Z.size ≤ 2 := by rw [← hZ]; exact Nat.le_refl 2
  have r3 := reads3 g1 g2 g3
  have q1 : ¬ 9223372036854775807 < F.size + 1 := by omega
  have q2 : ¬ 9223372036854775807 < F.size + 1 + M.size := by omega
  have q3 : ¬ 9223372036854775807 < F.size + 1 + M.size + 1 := by omega
  have q4 : ¬ 9223372036854775807 < F.size + 1 + M.size + 1 + Z.size := by omega
  rw [hF, hM, hZ, hx] at r3
  have hL : ∀ i, i < 1 → Reads x ([F ++ ⟨#[58]⟩ ++ M ++ ⟨#[58]⟩ ++ Z].getD i F) := by
    intro i hi
    have : i = 0 := by omega
    rcases this with rfl
    · exact r3
  have heq : (S.toList == (F ++ ⟨#[58]⟩ ++ M ++ ⟨#[58]⟩ ++ Z).toList) = true := by
    rw [hwa hs0]; exact beq_self_eq_true _
  have HL := Lib.hid hL
  have HM := Lib.hid hM
  have HZ := Lib.hid hZ
  have HI := Lib.hid hi
  have b1 : (mN : Int) < 60 := by omega
  have b2 : (sN : Int) < 60 := by omega
  have b3 : (hN : Int) < 168 := by omega
  have es : ((sN : Int) == 0) = false := by simp; omega
  have ex : (x == 0) = false := by simpa using hx0
  have ex2 : (x != 0) = true := by simpa using hx0
  have HX0 := Lib.hid hx0
  clear hT hpx hS hwa hwb r3 hL hF hM hZ hi hk hs0 hx0
  go_enter Tryd.func6, Tryd.ntmps6
  go_wp2_with fail
  refine (print_s _ S 0 HX HS HC).mono ?_; rintro e w1 ⟨rfl, HC⟩
  go_wp2_with fail
  refine (cut_s S k HI.out hks (by omega) HC).mono ?_; rintro e w2 ⟨rfl, HC⟩
  go_wp2_with fail
  refine (two_h (mN : Int) mN M (Lib.hid rfl) (by omega) HM HC).mono ?_; rintro e w3 ⟨rfl, _, HC⟩
  go_wp2_with fail
  refine (two_h (sN : Int) sN Z (Lib.hid rfl) (by omega) HZ HC).mono ?_; rintro e w4 ⟨rfl, _, HC⟩
  go_wp2_with fail
  have HV : Hid (Sts (w4.alloc (.cells #[.string (F ++ ⟨#[58]⟩ ++ M ++ ⟨#[58]⟩ ++ Z)] 9)) w4.heap.size [F ++ ⟨#[58]⟩ ++ M ++ ⟨#[58]⟩ ++ Z]) := Lib.hid fun j s hj => by
    match j, hj with
    | 0, hj => simp at hj; subst hj; exact new_cell _ _ _ _ _ rfl
  replace HC := Ps.hal HC (.cells #[.string (F ++ ⟨#[58]⟩ ++ M ++ ⟨#[58]⟩ ++ Z)] 9)
  have hz : w4.heap.size < (w4.alloc (.cells #[.string (F ++ ⟨#[58]⟩ ++ M ++ ⟨#[58]⟩ ++ Z)] 9)).heap.size := by simp
  generalize w4.alloc (.cells #[.string (F ++ ⟨#[58]⟩ ++ M ++ ⟨#[58]⟩ ++ Z)] 9) = W1 at *
  generalize w4.heap.size = g at *
  go_wp2
  go_loopw [87] (fun i wr => ∃ k : Nat, k ≤ 1 ∧ i = .int .i64 k ∧ Below W1.heap.size W1 wr) (fun i _ => 1 - (intOf i).toNat)
  case atStart => exact ⟨0, by omega, rfl, Below.refl _ _⟩
  case round =>
    obtain ⟨j, hj, rfl, hb⟩ := hrel
    have HP := Lib.hid (HC.out.bl hb)
    by_cases hj3 : j < 1
    · have c0 : wr.cell? ⟨g, j, none⟩ = some (.string ([F ++ ⟨#[58]⟩ ++ M ++ ⟨#[58]⟩ ++ Z].getD j F)) := (hb.cell (p := ⟨g, j, none⟩) hz).trans (HV.out j _ (by
        rw [List.getD_eq_getElem?_getD, List.getElem?_eq_getElem (by simpa using hj3)]; rfl))
      have HR := Lib.hid (HL.out j hj3)
      have HB2 := Lib.hid hb
      clear hb heq
      generalize [F ++ ⟨#[58]⟩ ++ M ++ ⟨#[58]⟩ ++ Z].getD j F = v at *
      have hq : ¬ 9223372036854775807 < 1 + v.size := by have := HR.out.2.2.2; omega
      go_wp2_with fail
      refine (parse_at _ (by have := HR.out.2.2.2; simp [ByteArray.size_append, maxLen]; have : (⟨#[45]⟩ : ByteArray).size = 1 := rfl; omega) (-x) 0 (HR.out.2.2.1 HX0.out) _ HP.out.2.1).mono ?_
      rintro e w8 ⟨rfl, hb⟩
      have HB3 := Lib.hid ((HB2.out.trans (hb.mono HB2.out.size) : Below W1.heap.size W1 w8))
      clear hb
      go_wp2
      go_roundw
      case rel => first | exact ⟨j + 1, by omega, by go_num, HB3.out⟩ | ((repeat apply Exists.intro); exact ⟨⟨j + 1, by omega, by go_num, HB3.out⟩, rfl⟩)
      case measure => simp [intOf]; omega
    · obtain rfl : j = 1 := by omega
      have c0 : wr.cell? ⟨g, 0, none⟩ = some (.string (F ++ ⟨#[58]⟩ ++ M ++ ⟨#[58]⟩ ++ Z)) := (hb.cell (p := ⟨g, 0, none⟩) hz).trans (HV.out 0 _ rfl)
      clear hb HV HL hj hj3
      go_wp2_with fail
      refine (works_s HP).mono ?_; rintro e w9 ⟨rfl, HP⟩
      go_wp2
      go_ret
      exact ⟨rfl, HP.out.1⟩
set_option maxRecDepth 100000 in
set_option maxHeartbeats 4000000 in
theorem ofld_bp (a b c x : Int) (hN mN sN k : Nat) (ha : 0 ≤ a ∧ a < 256) (hb : 0 ≤ b ∧ b < 256) (hc : 0 ≤ c ∧ c < 256) (h1 : a % 168 = (hN : Int)) (h2 : b % 60 = (mN : Int)) (h3 : c % 60 = (sN : Int)) (hx : 3600 * (hN : Int) + 60 * (mN : Int) + (sN : Int) = x)
    (F M Z S : ByteArray) (hF : ⟨(Of.dec hN).toArray⟩ = F) (hM : ⟨(Of.two mN).toArray⟩ = M) (hZ : ⟨(Of.two sN).toArray⟩ = Z) (hS : ⟨(Of.prt x).toArray⟩ = S) (hk : (Of.dec hN).length = k)
    (hs0 : sN = 0) (hm0 : mN ≠ 0) (W0 : World) (hT : CtsW W0 ∧ PowW W0) : Calls Tryd.prog 6 #[.int .u8 a, .int .u8 b, .int .u8 c, .bool false] W0 fun e w' => e = .returned (.bool true) ∧ Below W0.heap.size W0 w' := by
  have HC := Lib.hid (Ps.mk0 hT.1 hT.2)
  have HT := Lib.hid hT
  obtain ⟨ha1, ha2⟩ := ha
  obtain ⟨hb1, hb2⟩ := hb
  obtain ⟨hc1, hc2⟩ := hc
  have g1 : hN < 168 := by omega
  have g2 : mN < 60 := by omega
  have g3 : sN < 60 := by omega
  have HX := hid_bd (show -604799 ≤ x by omega) (by omega)
  have hpx := prs_yes (show -604799 ≤ x by omega) (by omega)
  have hw := fld_whole g1 g2 g3 x hx S hS
  rw [hS] at hpx
  have HS := Lib.hid hpx
  rw [hF, hM, hZ, hk] at hw
  obtain ⟨hi, hks, hext, hwa, hwb⟩ := hw
  have s1 : S.size ≤ 10 := by rw [← hS, bs_size]; exact (Of.prt_len x).2
  have f1 : F.size ≤ 3 := by rw [← hF, bs_size]; exact (Of.dec_le hN).2
  have m1 : M.size ≤ 2 := by rw [← hM]; exact Nat.le_refl 2
  have z1 : Z.size ≤ 2 := by rw [← hZ]; exact Nat.le_refl 2
  have r3 := reads3 g1 g2 g3
  have q1 : ¬ 9223372036854775807 < F.size + 1 := by omega
  have q2 : ¬ 9223372036854775807 < F.size + 1 + M.size := by omega
  have q3 : ¬ 9223372036854775807 < F.size + 1 + M.size + 1 := by omega
  have q4 : ¬ 9223372036854775807 < F.size + 1 + M.size + 1 + Z.size := by omega
  rw [hF, hM, hZ, hx] at r3
  have r2 := reads2 g1 g2
  rw [hF, hM, show ((0 : Nat) : Int) = (sN : Int) by rw [hs0], hx] at r2
  have hL : ∀ i, i < 2 → Reads x ([F ++ ⟨#[58]⟩ ++ M ++ ⟨#[58]⟩ ++ Z, F ++ ⟨#[58]⟩ ++ M].getD i F) := by
    intro i hi
    have : i = 0 ∨ i = 1 := by omega
    rcases this with rfl | rfl
    · exact r3
    · exact r2
  have heq : (S.toList == (F ++ ⟨#[58]⟩ ++ M).toList) = true := by
    rw [hwb hs0]; exact beq_self_eq_true _
  have HL := Lib.hid hL
  have HM := Lib.hid hM
  have HZ := Lib.hid hZ
  have HI := Lib.hid hi
  have b1 : (mN : Int) < 60 := by omega
  have b2 : (sN : Int) < 60 := by omega
  have b3 : (hN : Int) < 168 := by omega
  have es : ((sN : Int) == 0) = true := by simp; omega
  have em : ((mN : Int) == 0) = false := by simp; omega
  clear hT hpx hS hwa hwb r3 hL hF hM hZ hi hk hs0 r2 hm0
  go_enter Tryd.func6, Tryd.ntmps6
  go_wp2_with fail
  refine (print_s _ S 0 HX HS HC).mono ?_; rintro e w1 ⟨rfl, HC⟩
  go_wp2_with fail
  refine (cut_s S k HI.out hks (by omega) HC).mono ?_; rintro e w2 ⟨rfl, HC⟩
  go_wp2_with fail
  refine (two_h (mN : Int) mN M (Lib.hid rfl) (by omega) HM HC).mono ?_; rintro e w3 ⟨rfl, _, HC⟩
  go_wp2_with fail
  refine (two_h (sN : Int) sN Z (Lib.hid rfl) (by omega) HZ HC).mono ?_; rintro e w4 ⟨rfl, _, HC⟩
  go_wp2_with fail
  obtain ⟨i0, hi0, hy0, hy1, hy2⟩ := info_parts infoS
  have HO := Lib.hid (own_one (B := W0.heap.size) w4 (F ++ ⟨#[58]⟩ ++ M ++ ⟨#[58]⟩ ++ Z) HC.out.1.size)
  replace HC := Ps.hal HC (.cells #[.string (F ++ ⟨#[58]⟩ ++ M ++ ⟨#[58]⟩ ++ Z)] 9)
  refine (two_h (mN : Int) mN M (Lib.hid rfl) (by omega) HM HC).mono ?_; rintro e w5 ⟨rfl, hb, HC⟩
  replace HO := Lib.hid (own_bl HO.out hb)
  clear hb
  go_wp2_with (at_builtin; refine wpList_append_own _ rfl _ _ 36 rfl W0.heap.size 9 i0 (.string ⟨#[]⟩) 1 16 undS hi0 hy0 hy1 hy2 rfl (by decide) _ _ _ rfl (HO.out.alloc _) ⟨w5.heap.size, 0, none⟩ 1 1 [.string (F ++ ⟨#[58]⟩ ++ M)] rfl rfl ?c1 ?c2 ?c3 ?c4 ?c5 ?_)
  case c1 =>
    intro j u hj
    match j, hj with
    | 0, hj => simp at hj; subst hj; simp [Addr.add]
  case c2 => intro u hu; simp at hu; subst hu; rfl
  case c3 => decide
  case c4 => decide
  case c5 => have := HC.out.1.size; simp; omega
  intro v1 w6 hown' hgrow _
  have hg2 := Ps.grown (Ps.hal HC _).out HT.out (HO.out.alloc _) hgrow
  have HO2 : Hid (w6.ownsRow W0.heap.size 9 1 v1 2 (strV [F ++ ⟨#[58]⟩ ++ M ++ ⟨#[58]⟩ ++ Z, F ++ ⟨#[58]⟩ ++ M])) := Lib.hid hown'
  clear hown' hgrow
  replace HC := Lib.hid hg2
  clear hg2
  replace HO := HO2
  clear HO2
  obtain ⟨g, cap, hvv, hz, hst⟩ := own_strs (L := [F ++ ⟨#[58]⟩ ++ M ++ ⟨#[58]⟩ ++ Z, F ++ ⟨#[58]⟩ ++ M]) HO.out (by simp)
  have hvv2 : v1 = .slice (some ⟨g, 0, none⟩) 2 cap := hvv
  clear hvv
  subst hvv2
  have HV := Lib.hid hst
  clear hst HO hi0 hy0 hy1 hy2
  go_wp2
  generalize w6 = W1 at *
  go_loopw [87] (fun i wr => ∃ k : Nat, k ≤ 2 ∧ i = .int .i64 k ∧ Below W1.heap.size W1 wr) (fun i _ => 2 - (intOf i).toNat)
  case atStart => exact ⟨0, by omega, rfl, Below.refl _ _⟩
  case round =>
    obtain ⟨j, hj, rfl, hb⟩ := hrel
    have HP := Lib.hid (HC.out.bl hb)
    by_cases hj3 : j < 2
    · have c0 : wr.cell? ⟨g, j, none⟩ = some (.string ([F ++ ⟨#[58]⟩ ++ M ++ ⟨#[58]⟩ ++ Z, F ++ ⟨#[58]⟩ ++ M].getD j F)) := (hb.cell (p := ⟨g, j, none⟩) hz).trans (HV.out j _ (by
        rw [List.getD_eq_getElem?_getD, List.getElem?_eq_getElem (by simpa using hj3)]; rfl))
      have HR := Lib.hid (HL.out j hj3)
      have HB2 := Lib.hid hb
      clear hb heq
      generalize [F ++ ⟨#[58]⟩ ++ M ++ ⟨#[58]⟩ ++ Z, F ++ ⟨#[58]⟩ ++ M].getD j F = v at *
      go_wp2_with fail
      refine (parse_at v (by have := HR.out.2.2.2; unfold maxLen; omega) x 0 HR.out.1 _ HP.out.2.1).mono ?_
      rintro e w8 ⟨rfl, hb⟩
      have HB3 := Lib.hid ((HB2.out.trans (hb.mono HB2.out.size) : Below W1.heap.size W1 w8))
      clear hb
      go_wp2
      go_roundw
      case rel => first | exact ⟨j + 1, by omega, by go_num, HB3.out⟩ | ((repeat apply Exists.intro); exact ⟨⟨j + 1, by omega, by go_num, HB3.out⟩, rfl⟩)
      case measure => simp [intOf]; omega
    · obtain rfl : j = 2 := by omega
      have c0 : wr.cell? ⟨g, 0, none⟩ = some (.string (F ++ ⟨#[58]⟩ ++ M ++ ⟨#[58]⟩ ++ Z)) := (hb.cell (p := ⟨g, 0, none⟩) hz).trans (HV.out 0 _ rfl)
      have c1 : wr.cell? ⟨g, 1, none⟩ = some (.string (F ++ ⟨#[58]⟩ ++ M)) := (hb.cell (p := ⟨g, 1, none⟩) hz).trans (HV.out 1 _ rfl)
      clear hb HV HL hj hj3
      go_wp2_with fail
      refine (works_s HP).mono ?_; rintro e w9 ⟨rfl, HP⟩
      go_wp2
      go_ret
      exact ⟨rfl, HP.out.1⟩
set_option maxRecDepth 100000 in
set_option maxHeartbeats 4000000 in
theorem ofld_bm (a b c x : Int) (hN mN sN k : Nat) (ha : 0 ≤ a ∧ a < 256) (hb : 0 ≤ b ∧ b < 256) (hc : 0 ≤ c ∧ c < 256) (h1 : a % 168 = (hN : Int)) (h2 : b % 60 = (mN : Int)) (h3 : c % 60 = (sN : Int)) (hx : 3600 * (hN : Int) + 60 * (mN : Int) + (sN : Int) = x)
    (F M Z S : ByteArray) (hF : ⟨(Of.dec hN).toArray⟩ = F) (hM : ⟨(Of.two mN).toArray⟩ = M) (hZ : ⟨(Of.two sN).toArray⟩ = Z) (hS : ⟨(Of.prt x).toArray⟩ = S) (hk : (Of.dec hN).length = k)
    (hs0 : sN = 0) (hm0 : mN ≠ 0) (hx0 : x ≠ 0) (W0 : World) (hT : CtsW W0 ∧ PowW W0) : Calls Tryd.prog 6 #[.int .u8 a, .int .u8 b, .int .u8 c, .bool true] W0 fun e w' => e = .returned (.bool true) ∧ Below W0.heap.size W0 w' := by
  have HC := Lib.hid (Ps.mk0 hT.1 hT.2)
  have HT := Lib.hid hT
  obtain ⟨ha1, ha2⟩ := ha
  obtain ⟨hb1, hb2⟩ := hb
  obtain ⟨hc1, hc2⟩ := hc
  have g1 : hN < 168 := by omega
  have g2 : mN < 60 := by omega
  have g3 : sN < 60 := by omega
  have HX := hid_bd (show -604799 ≤ x by omega) (by omega)
  have hpx := prs_yes (show -604799 ≤ x by omega) (by omega)
  have hw := fld_whole g1 g2 g3 x hx S hS
  rw [hS] at hpx
  have HS := Lib.hid hpx
  rw [hF, hM, hZ, hk] at hw
  obtain ⟨hi, hks, hext, hwa, hwb⟩ := hw
  have s1 : S.size ≤ 10 := by rw [← hS, bs_size]; exact (Of.prt_len x).2
  have f1 : F.size ≤ 3 := by rw [← hF, bs_size]; exact (Of.dec_le hN).2
  have m1 : M.size ≤ 2 := by rw [← hM]; exact Nat.le_refl 2
  have z1 : Z.size ≤ 2 := by rw [← hZ]; exact Nat.le_refl 2
  have r3 := reads3 g1 g2 g3
  have q1 : ¬ 9223372036854775807 < F.size + 1 := by omega
  have q2 : ¬ 9223372036854775807 < F.size + 1 + M.size := by omega
  have q3 : ¬ 9223372036854775807 < F.size + 1 + M.size + 1 := by omega
  have q4 : ¬ 9223372036854775807 < F.size + 1 + M.size + 1 + Z.size := by omega
  rw [hF, hM, hZ, hx] at r3
  have r2 := reads2 g1 g2
  rw [hF, hM, show ((0 : Nat) : Int) = (sN : Int) by rw [hs0], hx] at r2
  have hL : ∀ i, i < 2 → Reads x ([F ++ ⟨#[58]⟩ ++ M ++ ⟨#[58]⟩ ++ Z, F ++ ⟨#[58]⟩ ++ M].getD i F) := by
    intro i hi
    have : i = 0 ∨ i = 1 := by omega
    rcases this with rfl | rfl
    · exact r3
    · exact r2
  have heq : (S.toList == (F ++ ⟨#[58]⟩ ++ M).toList) = true := by
    rw [hwb hs0]; exact beq_self_eq_true _
  have HL := Lib.hid hL
  have HM := Lib.hid hM
  have HZ := Lib.hid hZ
  have HI := Lib.hid hi
  have b1 : (mN : Int) < 60 := by omega
  have b2 : (sN : Int) < 60 := by omega
  have b3 : (hN : Int) < 168 := by omega
  have es : ((sN : Int) == 0) = true := by simp; omega
  have em : ((mN : Int) == 0) = false := by simp; omega
  have ex : (x == 0) = false := by simpa using hx0
  have ex2 : (x != 0) = true := by simpa using hx0
  have HX0 := Lib.hid hx0
  clear hT hpx hS hwa hwb r3 hL hF hM hZ hi hk hs0 r2 hm0 hx0
  go_enter Tryd.func6, Tryd.ntmps6
  go_wp2_with fail
  refine (print_s _ S 0 HX HS HC).mono ?_; rintro e w1 ⟨rfl, HC⟩
  go_wp2_with fail
  refine (cut_s S k HI.out hks (by omega) HC).mono ?_; rintro e w2 ⟨rfl, HC⟩
  go_wp2_with fail
  refine (two_h (mN : Int) mN M (Lib.hid rfl) (by omega) HM HC).mono ?_; rintro e w3 ⟨rfl, _, HC⟩
  go_wp2_with fail
  refine (two_h (sN : Int) sN Z (Lib.hid rfl) (by omega) HZ HC).mono ?_; rintro e w4 ⟨rfl, _, HC⟩
  go_wp2_with fail
  obtain ⟨i0, hi0, hy0, hy1, hy2⟩ := info_parts infoS
  have HO := Lib.hid (own_one (B := W0.heap.size) w4 (F ++ ⟨#[58]⟩ ++ M ++ ⟨#[58]⟩ ++ Z) HC.out.1.size)
  replace HC := Ps.hal HC (.cells #[.string (F ++ ⟨#[58]⟩ ++ M ++ ⟨#[58]⟩ ++ Z)] 9)
  refine (two_h (mN : Int) mN M (Lib.hid rfl) (by omega) HM HC).mono ?_; rintro e w5 ⟨rfl, hb, HC⟩
  replace HO := Lib.hid (own_bl HO.out hb)
  clear hb
  go_wp2_with (at_builtin; refine wpList_append_own _ rfl _ _ 36 rfl W0.heap.size 9 i0 (.string ⟨#[]⟩) 1 16 undS hi0 hy0 hy1 hy2 rfl (by decide) _ _ _ rfl (HO.out.alloc _) ⟨w5.heap.size, 0, none⟩ 1 1 [.string (F ++ ⟨#[58]⟩ ++ M)] rfl rfl ?c1 ?c2 ?c3 ?c4 ?c5 ?_)
  case c1 =>
    intro j u hj
    match j, hj with
    | 0, hj => simp at hj; subst hj; simp [Addr.add]
  case c2 => intro u hu; simp at hu; subst hu; rfl
  case c3 => decide
  case c4 => decide
  case c5 => have := HC.out.1.size; simp; omega
  intro v1 w6 hown' hgrow _
  have hg2 := Ps.grown (Ps.hal HC _).out HT.out (HO.out.alloc _) hgrow
  have HO2 : Hid (w6.ownsRow W0.heap.size 9 1 v1 2 (strV [F ++ ⟨#[58]⟩ ++ M ++ ⟨#[58]⟩ ++ Z, F ++ ⟨#[58]⟩ ++ M])) := Lib.hid hown'
  clear hown' hgrow
  replace HC := Lib.hid hg2
  clear hg2
  replace HO := HO2
  clear HO2
  obtain ⟨g, cap, hvv, hz, hst⟩ := own_strs (L := [F ++ ⟨#[58]⟩ ++ M ++ ⟨#[58]⟩ ++ Z, F ++ ⟨#[58]⟩ ++ M]) HO.out (by simp)
  have hvv2 : v1 = .slice (some ⟨g, 0, none⟩) 2 cap := hvv
  clear hvv
  subst hvv2
  have HV := Lib.hid hst
  clear hst HO hi0 hy0 hy1 hy2
  go_wp2
  generalize w6 = W1 at *
  go_loopw [87] (fun i wr => ∃ k : Nat, k ≤ 2 ∧ i = .int .i64 k ∧ Below W1.heap.size W1 wr) (fun i _ => 2 - (intOf i).toNat)
  case atStart => exact ⟨0, by omega, rfl, Below.refl _ _⟩
  case round =>
    obtain ⟨j, hj, rfl, hb⟩ := hrel
    have HP := Lib.hid (HC.out.bl hb)
    by_cases hj3 : j < 2
    · have c0 : wr.cell? ⟨g, j, none⟩ = some (.string ([F ++ ⟨#[58]⟩ ++ M ++ ⟨#[58]⟩ ++ Z, F ++ ⟨#[58]⟩ ++ M].getD j F)) := (hb.cell (p := ⟨g, j, none⟩) hz).trans (HV.out j _ (by
        rw [List.getD_eq_getElem?_getD, List.getElem?_eq_getElem (by simpa using hj3)]; rfl))
      have HR := Lib.hid (HL.out j hj3)
      have HB2 := Lib.hid hb
      clear hb heq
      generalize [F ++ ⟨#[58]⟩ ++ M ++ ⟨#[58]⟩ ++ Z, F ++ ⟨#[58]⟩ ++ M].getD j F = v at *
      have hq : ¬ 9223372036854775807 < 1 + v.size := by have := HR.out.2.2.2; omega
      go_wp2_with fail
      refine (parse_at _ (by have := HR.out.2.2.2; simp [ByteArray.size_append, maxLen]; have : (⟨#[45]⟩ : ByteArray).size = 1 := rfl; omega) (-x) 0 (HR.out.2.2.1 HX0.out) _ HP.out.2.1).mono ?_
      rintro e w8 ⟨rfl, hb⟩
      have HB3 := Lib.hid ((HB2.out.trans (hb.mono HB2.out.size) : Below W1.heap.size W1 w8))
      clear hb
      go_wp2
      go_roundw
      case rel => first | exact ⟨j + 1, by omega, by go_num, HB3.out⟩ | ((repeat apply Exists.intro); exact ⟨⟨j + 1, by omega, by go_num, HB3.out⟩, rfl⟩)
      case measure => simp [intOf]; omega
    · obtain rfl : j = 2 := by omega
      have c0 : wr.cell? ⟨g, 0, none⟩ = some (.string (F ++ ⟨#[58]⟩ ++ M ++ ⟨#[58]⟩ ++ Z)) := (hb.cell (p := ⟨g, 0, none⟩) hz).trans (HV.out 0 _ rfl)
      have c1 : wr.cell? ⟨g, 1, none⟩ = some (.string (F ++ ⟨#[58]⟩ ++ M)) := (hb.cell (p := ⟨g, 1, none⟩) hz).trans (HV.out 1 _ rfl)
      clear hb HV HL hj hj3
      go_wp2_with fail
      refine (works_s HP).mono ?_; rintro e w9 ⟨rfl, HP⟩
      go_wp2
      go_ret
      exact ⟨rfl, HP.out.1⟩
set_option maxRecDepth 100000 in
set_option maxHeartbeats 4000000 in
theorem ofld_cp (a b c x : Int) (hN mN sN k : Nat) (ha : 0 ≤ a ∧ a < 256) (hb : 0 ≤ b ∧ b < 256) (hc : 0 ≤ c ∧ c < 256) (h1 : a % 168 = (hN : Int)) (h2 : b % 60 = (mN : Int)) (h3 : c % 60 = (sN : Int)) (hx : 3600 * (hN : Int) + 60 * (mN : Int) + (sN : Int) = x)
    (F M Z S : ByteArray) (hF : ⟨(Of.dec hN).toArray⟩ = F) (hM : ⟨(Of.two mN).toArray⟩ = M) (hZ : ⟨(Of.two sN).toArray⟩ = Z) (hS : ⟨(Of.prt x).toArray⟩ = S) (hk : (Of.dec hN).length = k)
    (hs0 : sN = 0) (hm0 : mN = 0) (W0 : World) (hT : CtsW W0 ∧ PowW W0) : Calls Tryd.prog 6 #[.int .u8 a, .int .u8 b, .int .u8 c, .bool false] W0 fun e w' => e = .returned (.bool true) ∧ Below W0.heap.size W0 w' := by
  have HC := Lib.hid (Ps.mk0 hT.1 hT.2)
  have HT := Lib.hid hT
  obtain ⟨ha1, ha2⟩ := ha
  obtain ⟨hb1, hb2⟩ := hb
  obtain ⟨hc1, hc2⟩ := hc
  have g1 : hN < 168 := by omega
  have g2 : mN < 60 := by omega
  have g3 : sN < 60 := by omega
  have HX := hid_bd (show -604799 ≤ x by omega) (by omega)
  have hpx := prs_yes (show -604799 ≤ x by omega) (by omega)
  have hw := fld_whole g1 g2 g3 x hx S hS
  rw [hS] at hpx
  have HS := Lib.hid hpx
  rw [hF, hM, hZ, hk] at hw
  obtain ⟨hi, hks, hext, hwa, hwb⟩ := hw
  have s1 : S.size ≤ 10 := by rw [← hS, bs_size]; exact (Of.prt_len x).2
  have f1 : F.size ≤ 3 := by rw [← hF, bs_size]; exact (Of.dec_le hN).2
  have m1 : M.size ≤ 2 := by rw [← hM]; exact Nat.le_refl 2
  have z1 : Z.size ≤ 2 := by rw [← hZ]; exact Nat.le_refl 2
  have r3 := reads3 g1 g2 g3
  have q1 : ¬ 9223372036854775807 < F.size + 1 := by omega
  have q2 : ¬ 9223372036854775807 < F.size + 1 + M.size := by omega
  have q3 : ¬ 9223372036854775807 < F.size + 1 + M.size + 1 := by omega
  have q4 : ¬ 9223372036854775807 < F.size + 1 + M.size + 1 + Z.size := by omega
  rw [hF, hM, hZ, hx] at r3
  have r2 := reads2 g1 g2
  rw [hF, hM, show ((0 : Nat) : Int) = (sN : Int) by rw [hs0], hx] at r2
  have r1 := reads1 g1
  rw [hF, show 3600 * (hN : Int) + 60 * ((0 : Nat) : Int) + ((0 : Nat) : Int) = 3600 * (hN : Int) + 60 * (mN : Int) + (sN : Int) by rw [hm0, hs0], hx] at r1
  have hL : ∀ i, i < 3 → Reads x ([F ++ ⟨#[58]⟩ ++ M ++ ⟨#[58]⟩ ++ Z, F ++ ⟨#[58]⟩ ++ M, F].getD i F) := by
    intro i hi
    have : i = 0 ∨ i = 1 ∨ i = 2 := by omega
    rcases this with rfl | rfl | rfl
    · exact r3
    · exact r2
    · exact r1
  have heq : (S.toList == (F ++ ⟨#[58]⟩ ++ M).toList) = true := by
    rw [hwb hs0]; exact beq_self_eq_true _
  have HL := Lib.hid hL
  have HM := Lib.hid hM
  have HZ := Lib.hid hZ
  have HI := Lib.hid hi
  have b1 : (mN : Int) < 60 := by omega
  have b2 : (sN : Int) < 60 := by omega
  have b3 : (hN : Int) < 168 := by omega
  have es : ((sN : Int) == 0) = true := by simp; omega
  have em : ((mN : Int) == 0) = true := by simp; omega
  clear hT hpx hS hwa hwb r3 hL hF hM hZ hi hk hs0 r2 hm0 r1
  go_enter Tryd.func6, Tryd.ntmps6
  go_wp2_with fail
  refine (print_s _ S 0 HX HS HC).mono ?_; rintro e w1 ⟨rfl, HC⟩
  go_wp2_with fail
  refine (cut_s S k HI.out hks (by omega) HC).mono ?_; rintro e w2 ⟨rfl, HC⟩
  go_wp2_with fail
  refine (two_h (mN : Int) mN M (Lib.hid rfl) (by omega) HM HC).mono ?_; rintro e w3 ⟨rfl, _, HC⟩
  go_wp2_with fail
  refine (two_h (sN : Int) sN Z (Lib.hid rfl) (by omega) HZ HC).mono ?_; rintro e w4 ⟨rfl, _, HC⟩
  go_wp2_with fail
  obtain ⟨i0, hi0, hy0, hy1, hy2⟩ := info_parts infoS
  have HO := Lib.hid (own_one (B := W0.heap.size) w4 (F ++ ⟨#[58]⟩ ++ M ++ ⟨#[58]⟩ ++ Z) HC.out.1.size)
  replace HC := Ps.hal HC (.cells #[.string (F ++ ⟨#[58]⟩ ++ M ++ ⟨#[58]⟩ ++ Z)] 9)
  refine (two_h (mN : Int) mN M (Lib.hid rfl) (by omega) HM HC).mono ?_; rintro e w5 ⟨rfl, hb, HC⟩
  replace HO := Lib.hid (own_bl HO.out hb)
  clear hb
  go_wp2_with (at_builtin; refine wpList_append_own _ rfl _ _ 36 rfl W0.heap.size 9 i0 (.string ⟨#[]⟩) 1 16 undS hi0 hy0 hy1 hy2 rfl (by decide) _ _ _ rfl (HO.out.alloc _) ⟨w5.heap.size, 0, none⟩ 1 1 [.string (F ++ ⟨#[58]⟩ ++ M)] rfl rfl ?c1 ?c2 ?c3 ?c4 ?c5 ?_)
  case c1 =>
    intro j u hj
    match j, hj with
    | 0, hj => simp at hj; subst hj; simp [Addr.add]
  case c2 => intro u hu; simp at hu; subst hu; rfl
  case c3 => decide
  case c4 => decide
  case c5 => have := HC.out.1.size; simp; omega
  intro v1 w6 hown' hgrow _
  have hg2 := Ps.grown (Ps.hal HC _).out HT.out (HO.out.alloc _) hgrow
  have HO2 : Hid (w6.ownsRow W0.heap.size 9 1 v1 2 (strV [F ++ ⟨#[58]⟩ ++ M ++ ⟨#[58]⟩ ++ Z, F ++ ⟨#[58]⟩ ++ M])) := Lib.hid hown'
  clear hown' hgrow
  replace HC := Lib.hid hg2
  clear hg2
  replace HO := HO2
  clear HO2
  go_wp2_with (at_builtin; refine wpList_append_own _ rfl _ _ 36 rfl W0.heap.size 9 i0 (.string ⟨#[]⟩) 1 16 undS hi0 hy0 hy1 hy2 rfl (by decide) _ _ _ rfl (HO.out.alloc _) ⟨w6.heap.size, 0, none⟩ 1 1 [.string (F)] rfl rfl ?c1 ?c2 ?c3 ?c4 ?c5 ?_)
  case c1 =>
    intro j u hj
    match j, hj with
    | 0, hj => simp at hj; subst hj; simp [Addr.add]
  case c2 => intro u hu; simp at hu; subst hu; rfl
  case c3 => decide
  case c4 => decide
  case c5 => have := HC.out.1.size; simp; omega
  intro v2 w7 hown' hgrow _
  have hg2 := Ps.grown (Ps.hal HC _).out HT.out (HO.out.alloc _) hgrow
  have HO2 : Hid (w7.ownsRow W0.heap.size 9 1 v2 3 (strV [F ++ ⟨#[58]⟩ ++ M ++ ⟨#[58]⟩ ++ Z, F ++ ⟨#[58]⟩ ++ M, F])) := Lib.hid hown'
  clear hown' hgrow
  replace HC := Lib.hid hg2
  clear hg2
  replace HO := HO2
  clear HO2
  obtain ⟨g, cap, hvv, hz, hst⟩ := own_strs (L := [F ++ ⟨#[58]⟩ ++ M ++ ⟨#[58]⟩ ++ Z, F ++ ⟨#[58]⟩ ++ M, F]) HO.out (by simp)
  have hvv2 : v2 = .slice (some ⟨g, 0, none⟩) 3 cap := hvv
  clear hvv
  subst hvv2
  have HV := Lib.hid hst
  clear hst HO hi0 hy0 hy1 hy2
  go_wp2
  generalize w7 = W1 at *
  go_loopw [87] (fun i wr => ∃ k : Nat, k ≤ 3 ∧ i = .int .i64 k ∧ Below W1.heap.size W1 wr) (fun i _ => 3 - (intOf i).toNat)
  case atStart => exact ⟨0, by omega, rfl, Below.refl _ _⟩
  case round =>
    obtain ⟨j, hj, rfl, hb⟩ := hrel
    have HP := Lib.hid (HC.out.bl hb)
    by_cases hj3 : j < 3
    · have c0 : wr.cell? ⟨g, j, none⟩ = some (.string ([F ++ ⟨#[58]⟩ ++ M ++ ⟨#[58]⟩ ++ Z, F ++ ⟨#[58]⟩ ++ M, F].getD j F)) := (hb.cell (p := ⟨g, j, none⟩) hz).trans (HV.out j _ (by
        rw [List.getD_eq_getElem?_getD, List.getElem?_eq_getElem (by simpa using hj3)]; rfl))
      have HR := Lib.hid (HL.out j hj3)
      have HB2 := Lib.hid hb
      clear hb heq
      generalize [F ++ ⟨#[58]⟩ ++ M ++ ⟨#[58]⟩ ++ Z, F ++ ⟨#[58]⟩ ++ M, F].getD j F = v at *
      go_wp2_with fail
      refine (parse_at v (by have := HR.out.2.2.2; unfold maxLen; omega) x 0 HR.out.1 _ HP.out.2.1).mono ?_
      rintro e w8 ⟨rfl, hb⟩
      have HB3 := Lib.hid ((HB2.out.trans (hb.mono HB2.out.size) : Below W1.heap.size W1 w8))
      clear hb
      go_wp2
      go_roundw
      case rel => first | exact ⟨j + 1, by omega, by go_num, HB3.out⟩ | ((repeat apply Exists.intro); exact ⟨⟨j + 1, by omega, by go_num, HB3.out⟩, rfl⟩)
      case measure => simp [intOf]; omega
    · obtain rfl : j = 3 := by omega
      have c0 : wr.cell? ⟨g, 0, none⟩ = some (.string (F ++ ⟨#[58]⟩ ++ M ++ ⟨#[58]⟩ ++ Z)) := (hb.cell (p := ⟨g, 0, none⟩) hz).trans (HV.out 0 _ rfl)
      have c1 : wr.cell? ⟨g, 1, none⟩ = some (.string (F ++ ⟨#[58]⟩ ++ M)) := (hb.cell (p := ⟨g, 1, none⟩) hz).trans (HV.out 1 _ rfl)
      clear hb HV HL hj hj3
      go_wp2_with fail
      refine (works_s HP).mono ?_; rintro e w9 ⟨rfl, HP⟩
      go_wp2
      go_ret
      exact ⟨rfl, HP.out.1⟩
set_option maxRecDepth 100000 in
set_option maxHeartbeats 4000000 in
theorem ofld_cm (a b c x : Int) (hN mN sN k : Nat) (ha : 0 ≤ a ∧ a < 256) (hb : 0 ≤ b ∧ b < 256) (hc : 0 ≤ c ∧ c < 256) (h1 : a % 168 = (hN : Int)) (h2 : b % 60 = (mN : Int)) (h3 : c % 60 = (sN : Int)) (hx : 3600 * (hN : Int) + 60 * (mN : Int) + (sN : Int) = x)
    (F M Z S : ByteArray) (hF : ⟨(Of.dec hN).toArray⟩ = F) (hM : ⟨(Of.two mN).toArray⟩ = M) (hZ : ⟨(Of.two sN).toArray⟩ = Z) (hS : ⟨(Of.prt x).toArray⟩ = S) (hk : (Of.dec hN).length = k)
    (hs0 : sN = 0) (hm0 : mN = 0) (hx0 : x ≠ 0) (W0 : World) (hT : CtsW W0 ∧ PowW W0) : Calls Tryd.prog 6 #[.int .u8 a, .int .u8 b, .int .u8 c, .bool true] W0 fun e w' => e = .returned (.bool true) ∧ Below W0.heap.size W0 w' := by
  have HC := Lib.hid (Ps.mk0 hT.1 hT.2)
  have HT := Lib.hid hT
  obtain ⟨ha1, ha2⟩ := ha
  obtain ⟨hb1, hb2⟩ := hb
  obtain ⟨hc1, hc2⟩ := hc
  have g1 : hN < 168 := by omega
  have g2 : mN < 60 := by omega
  have g3 : sN < 60 := by omega
  have HX := hid_bd (show -604799 ≤ x by omega) (by omega)
  have hpx := prs_yes (show -604799 ≤ x by omega) (by omega)
  have hw := fld_whole g1 g2 g3 x hx S hS
  rw [hS] at hpx
  have HS := Lib.hid hpx
  rw [hF, hM, hZ, hk] at hw
  obtain ⟨hi, hks, hext, hwa, hwb⟩ := hw
  have s1 : S.size ≤ 10 := by rw [← hS, bs_size]; exact (Of.prt_len x).2
  have f1 : F.size ≤ 3 := by rw [← hF, bs_size]; exact (Of.dec_le hN).2
  have m1 : M.size ≤ 2 := by rw [← hM]; exact Nat.le_refl 2
  have z1 : Z.size ≤ 2 := by rw [← hZ]; exact Nat.le_refl 2
  have r3 := reads3 g1 g2 g3
  have q1 : ¬ 9223372036854775807 < F.size + 1 := by omega
  have q2 : ¬ 9223372036854775807 < F.size + 1 + M.size := by omega
  have q3 : ¬ 9223372036854775807 < F.size + 1 + M.size + 1 := by omega
  have q4 : ¬ 9223372036854775807 < F.size + 1 + M.size + 1 + Z.size := by omega
  rw [hF, hM, hZ, hx] at r3
  have r2 := reads2 g1 g2
  rw [hF, hM, show ((0 : Nat) : Int) = (sN : Int) by rw [hs0], hx] at r2
  have r1 := reads1 g1
  rw [hF, show 3600 * (hN : Int) + 60 * ((0 : Nat) : Int) + ((0 : Nat) : Int) = 3600 * (hN : Int) + 60 * (mN : Int) + (sN : Int) by rw [hm0, hs0], hx] at r1
  have hL : ∀ i, i < 3 → Reads x ([F ++ ⟨#[58]⟩ ++ M ++ ⟨#[58]⟩ ++ Z, F ++ ⟨#[58]⟩ ++ M, F].getD i F) := by
    intro i hi
    have : i = 0 ∨ i = 1 ∨ i = 2 := by omega
    rcases this with rfl | rfl | rfl
    · exact r3
    · exact r2
    · exact r1
  have heq : (S.toList == (F ++ ⟨#[58]⟩ ++ M).toList) = true := by
    rw [hwb hs0]; exact beq_self_eq_true _
  have HL := Lib.hid hL
  have HM := Lib.hid hM
  have HZ := Lib.hid hZ
  have HI := Lib.hid hi
  have b1 : (mN : Int) < 60 := by omega
  have b2 : (sN : Int) < 60 := by omega
  have b3 : (hN : Int) < 168 := by omega
  have es : ((sN : Int) == 0) = true := by simp; omega
  have em : ((mN : Int) == 0) = true := by simp; omega
  have ex : (x == 0) = false := by simpa using hx0
  have ex2 : (x != 0) = true := by simpa using hx0
  have HX0 := Lib.hid hx0
  clear hT hpx hS hwa hwb r3 hL hF hM hZ hi hk hs0 r2 hm0 r1 hx0
  go_enter Tryd.func6, Tryd.ntmps6
  go_wp2_with fail
  refine (print_s _ S 0 HX HS HC).mono ?_; rintro e w1 ⟨rfl, HC⟩
  go_wp2_with fail
  refine (cut_s S k HI.out hks (by omega) HC).mono ?_; rintro e w2 ⟨rfl, HC⟩
  go_wp2_with fail
  refine (two_h (mN : Int) mN M (Lib.hid rfl) (by omega) HM HC).mono ?_; rintro e w3 ⟨rfl, _, HC⟩
  go_wp2_with fail
  refine (two_h (sN : Int) sN Z (Lib.hid rfl) (by omega) HZ HC).mono ?_; rintro e w4 ⟨rfl, _, HC⟩
  go_wp2_with fail
  obtain ⟨i0, hi0, hy0, hy1, hy2⟩ := info_parts infoS
  have HO := Lib.hid (own_one (B := W0.heap.size) w4 (F ++ ⟨#[58]⟩ ++ M ++ ⟨#[58]⟩ ++ Z) HC.out.1.size)
  replace HC := Ps.hal HC (.cells #[.string (F ++ ⟨#[58]⟩ ++ M ++ ⟨#[58]⟩ ++ Z)] 9)
  refine (two_h (mN : Int) mN M (Lib.hid rfl) (by omega) HM HC).mono ?_; rintro e w5 ⟨rfl, hb, HC⟩
  replace HO := Lib.hid (own_bl HO.out hb)
  clear hb
  go_wp2_with (at_builtin; refine wpList_append_own _ rfl _ _ 36 rfl W0.heap.size 9 i0 (.string ⟨#[]⟩) 1 16 undS hi0 hy0 hy1 hy2 rfl (by decide) _ _ _ rfl (HO.out.alloc _) ⟨w5.heap.size, 0, none⟩ 1 1 [.string (F ++ ⟨#[58]⟩ ++ M)] rfl rfl ?c1 ?c2 ?c3 ?c4 ?c5 ?_)
  case c1 =>
    intro j u hj
    match j, hj with
    | 0, hj => simp at hj; subst hj; simp [Addr.add]
  case c2 => intro u hu; simp at hu; subst hu; rfl
  case c3 => decide
  case c4 => decide
  case c5 => have := HC.out.1.size; simp; omega
  intro v1 w6 hown' hgrow _
  have hg2 := Ps.grown (Ps.hal HC _).out HT.out (HO.out.alloc _) hgrow
  have HO2 : Hid (w6.ownsRow W0.heap.size 9 1 v1 2 (strV [F ++ ⟨#[58]⟩ ++ M ++ ⟨#[58]⟩ ++ Z, F ++ ⟨#[58]⟩ ++ M])) := Lib.hid hown'
  clear hown' hgrow
  replace HC := Lib.hid hg2
  clear hg2
  replace HO := HO2
  clear HO2
  go_wp2_with (at_builtin; refine wpList_append_own _ rfl _ _ 36 rfl W0.heap.size 9 i0 (.string ⟨#[]⟩) 1 16 undS hi0 hy0 hy1 hy2 rfl (by decide) _ _ _ rfl (HO.out.alloc _) ⟨w6.heap.size, 0, none⟩ 1 1 [.string (F)] rfl rfl ?c1 ?c2 ?c3 ?c4 ?c5 ?_)
  case c1 =>
    intro j u hj
    match j, hj with
    | 0, hj => simp at hj; subst hj; simp [Addr.add]
  case c2 => intro u hu; simp at hu; subst hu; rfl
  case c3 => decide
  case c4 => decide
  case c5 => have := HC.out.1.size; simp; omega
  intro v2 w7 hown' hgrow _
  have hg2 := Ps.grown (Ps.hal HC _).out HT.out (HO.out.alloc _) hgrow
  have HO2 : Hid (w7.ownsRow W0.heap.size 9 1 v2 3 (strV [F ++ ⟨#[58]⟩ ++ M ++ ⟨#[58]⟩ ++ Z, F ++ ⟨#[58]⟩ ++ M, F])) := Lib.hid hown'
  clear hown' hgrow
  replace HC := Lib.hid hg2
  clear hg2
  replace HO := HO2
  clear HO2
  obtain ⟨g, cap, hvv, hz, hst⟩ := own_strs (L := [F ++ ⟨#[58]⟩ ++ M ++ ⟨#[58]⟩ ++ Z, F ++ ⟨#[58]⟩ ++ M, F]) HO.out (by simp)
  have hvv2 : v2 = .slice (some ⟨g, 0, none⟩) 3 cap := hvv
  clear hvv
  subst hvv2
  have HV := Lib.hid hst
  clear hst HO hi0 hy0 hy1 hy2
  go_wp2
  generalize w7 = W1 at *
  go_loopw [87] (fun i wr => ∃ k : Nat, k ≤ 3 ∧ i = .int .i64 k ∧ Below W1.heap.size W1 wr) (fun i _ => 3 - (intOf i).toNat)
  case atStart => exact ⟨0, by omega, rfl, Below.refl _ _⟩
  case round =>
    obtain ⟨j, hj, rfl, hb⟩ := hrel
    have HP := Lib.hid (HC.out.bl hb)
    by_cases hj3 : j < 3
    · have c0 : wr.cell? ⟨g, j, none⟩ = some (.string ([F ++ ⟨#[58]⟩ ++ M ++ ⟨#[58]⟩ ++ Z, F ++ ⟨#[58]⟩ ++ M, F].getD j F)) := (hb.cell (p := ⟨g, j, none⟩) hz).trans (HV.out j _ (by
        rw [List.getD_eq_getElem?_getD, List.getElem?_eq_getElem (by simpa using hj3)]; rfl))
      have HR := Lib.hid (HL.out j hj3)
      have HB2 := Lib.hid hb
      clear hb heq
      generalize [F ++ ⟨#[58]⟩ ++ M ++ ⟨#[58]⟩ ++ Z, F ++ ⟨#[58]⟩ ++ M, F].getD j F = v at *
      have hq : ¬ 9223372036854775807 < 1 + v.size := by have := HR.out.2.2.2; omega
      go_wp2_with fail
      refine (parse_at _ (by have := HR.out.2.2.2; simp [ByteArray.size_append, maxLen]; have : (⟨#[45]⟩ : ByteArray).size = 1 := rfl; omega) (-x) 0 (HR.out.2.2.1 HX0.out) _ HP.out.2.1).mono ?_
      rintro e w8 ⟨rfl, hb⟩
      have HB3 := Lib.hid ((HB2.out.trans (hb.mono HB2.out.size) : Below W1.heap.size W1 w8))
      clear hb
      go_wp2
      go_roundw
      case rel => first | exact ⟨j + 1, by omega, by go_num, HB3.out⟩ | ((repeat apply Exists.intro); exact ⟨⟨j + 1, by omega, by go_num, HB3.out⟩, rfl⟩)
      case measure => simp [intOf]; omega
    · obtain rfl : j = 3 := by omega
      have c0 : wr.cell? ⟨g, 0, none⟩ = some (.string (F ++ ⟨#[58]⟩ ++ M ++ ⟨#[58]⟩ ++ Z)) := (hb.cell (p := ⟨g, 0, none⟩) hz).trans (HV.out 0 _ rfl)
      have c1 : wr.cell? ⟨g, 1, none⟩ = some (.string (F ++ ⟨#[58]⟩ ++ M)) := (hb.cell (p := ⟨g, 1, none⟩) hz).trans (HV.out 1 _ rfl)
      clear hb HV HL hj hj3
      go_wp2_with fail
      refine (works_s HP).mono ?_; rintro e w9 ⟨rfl, HP⟩
      go_wp2
      go_ret
      exact ⟨rfl, HP.out.1⟩
set_option maxRecDepth 100000 in
set_option maxHeartbeats 4000000 in
theorem ofld_cmz (a b c x : Int) (hN mN sN k : Nat) (ha : 0 ≤ a ∧ a < 256) (hb : 0 ≤ b ∧ b < 256) (hc : 0 ≤ c ∧ c < 256) (h1 : a % 168 = (hN : Int)) (h2 : b % 60 = (mN : Int)) (h3 : c % 60 = (sN : Int)) (hx : 3600 * (hN : Int) + 60 * (mN : Int) + (sN : Int) = x)
    (F M Z S : ByteArray) (hF : ⟨(Of.dec hN).toArray⟩ = F) (hM : ⟨(Of.two mN).toArray⟩ = M) (hZ : ⟨(Of.two sN).toArray⟩ = Z) (hS : ⟨(Of.prt x).toArray⟩ = S) (hk : (Of.dec hN).length = k)
    (hs0 : sN = 0) (hm0 : mN = 0) (hx0 : x = 0) (W0 : World) (hT : CtsW W0 ∧ PowW W0) : Calls Tryd.prog 6 #[.int .u8 a, .int .u8 b, .int .u8 c, .bool true] W0 fun e w' => e = .returned (.bool true) ∧ Below W0.heap.size W0 w' := by
  have HC := Lib.hid (Ps.mk0 hT.1 hT.2)
  have HT := Lib.hid hT
  obtain ⟨ha1, ha2⟩ := ha
  obtain ⟨hb1, hb2⟩ := hb
  obtain ⟨hc1, hc2⟩ := hc
  have g1 : hN < 168 := by omega
  have g2 : mN < 60 := by omega
  have g3 : sN < 60 := by omega
  have HX := hid_bd (show -604799 ≤ x by omega) (by omega)
  have hpx := prs_yes (show -604799 ≤ x by omega) (by omega)
  have hw := fld_whole g1 g2 g3 x hx S hS
  rw [hS] at hpx
  have HS := Lib.hid hpx
  rw [hF, hM, hZ, hk] at hw
  obtain ⟨hi, hks, hext, hwa, hwb⟩ := hw
  have s1 : S.size ≤ 10 := by rw [← hS, bs_size]; exact (Of.prt_len x).2
  have f1 : F.size ≤ 3 := by rw [← hF, bs_size]; exact (Of.dec_le hN).2
  have m1 : M.size ≤ 2 := by rw [← hM]; exact Nat.le_refl 2
  have z1 : Z.size ≤ 2 := by rw [← hZ]; exact Nat.le_refl 2
  have r3 := reads3 g1 g2 g3
  have q1 : ¬ 9223372036854775807 < F.size + 1 := by omega
  have q2 : ¬ 9223372036854775807 < F.size + 1 + M.size := by omega
  have q3 : ¬ 9223372036854775807 < F.size + 1 + M.size + 1 := by omega
  have q4 : ¬ 9223372036854775807 < F.size + 1 + M.size + 1 + Z.size := by omega
  rw [hF, hM, hZ, hx] at r3
  have r2 := reads2 g1 g2
  rw [hF, hM, show ((0 : Nat) : Int) = (sN : Int) by rw [hs0], hx] at r2
  have r1 := reads1 g1
  rw [hF, show 3600 * (hN : Int) + 60 * ((0 : Nat) : Int) + ((0 : Nat) : Int) = 3600 * (hN : Int) + 60 * (mN : Int) + (sN : Int) by rw [hm0, hs0], hx] at r1
  have hL : ∀ i, i < 3 → Reads x ([F ++ ⟨#[58]⟩ ++ M ++ ⟨#[58]⟩ ++ Z, F ++ ⟨#[58]⟩ ++ M, F].getD i F) := by
    intro i hi
    have : i = 0 ∨ i = 1 ∨ i = 2 := by omega
    rcases this with rfl | rfl | rfl
    · exact r3
    · exact r2
    · exact r1
  have heq : (S.toList == (F ++ ⟨#[58]⟩ ++ M).toList) = true := by
    rw [hwb hs0]; exact beq_self_eq_true _
  have HL := Lib.hid hL
  have HM := Lib.hid hM
  have HZ := Lib.hid hZ
  have HI := Lib.hid hi
  have b1 : (mN : Int) < 60 := by omega
  have b2 : (sN : Int) < 60 := by omega
  have b3 : (hN : Int) < 168 := by omega
  have es : ((sN : Int) == 0) = true := by simp; omega
  have em : ((mN : Int) == 0) = true := by simp; omega
  have ex : (x == 0) = true := by simpa using hx0
  have ex2 : (x != 0) = false := by simpa using hx0
  have HX0 := Lib.hid hx0
  clear hT hpx hS hwa hwb r3 hL hF hM hZ hi hk hs0 r2 hm0 r1 hx0
  go_enter Tryd.func6, Tryd.ntmps6
  go_wp2_with fail
  refine (print_s _ S 0 HX HS HC).mono ?_; rintro e w1 ⟨rfl, HC⟩
  go_wp2_with fail
  refine (cut_s S k HI.out hks (by omega) HC).mono ?_; rintro e w2 ⟨rfl, HC⟩
  go_wp2_with fail
  refine (two_h (mN : Int) mN M (Lib.hid rfl) (by omega) HM HC).mono ?_; rintro e w3 ⟨rfl, _, HC⟩
  go_wp2_with fail
  refine (two_h (sN : Int) sN Z (Lib.hid rfl) (by omega) HZ HC).mono ?_; rintro e w4 ⟨rfl, _, HC⟩
  go_wp2_with fail
  obtain ⟨i0, hi0, hy0, hy1, hy2⟩ := info_parts infoS
  have HO := Lib.hid (own_one (B := W0.heap.size) w4 (F ++ ⟨#[58]⟩ ++ M ++ ⟨#[58]⟩ ++ Z) HC.out.1.size)
  replace HC := Ps.hal HC (.cells #[.string (F ++ ⟨#[58]⟩ ++ M ++ ⟨#[58]⟩ ++ Z)] 9)
  refine (two_h (mN : Int) mN M (Lib.hid rfl) (by omega) HM HC).mono ?_; rintro e w5 ⟨rfl, hb, HC⟩
  replace HO := Lib.hid (own_bl HO.out hb)
  clear hb
  go_wp2_with (at_builtin; refine wpList_append_own _ rfl _ _ 36 rfl W0.heap.size 9 i0 (.string ⟨#[]⟩) 1 16 undS hi0 hy0 hy1 hy2 rfl (by decide) _ _ _ rfl (HO.out.alloc _) ⟨w5.heap.size, 0, none⟩ 1 1 [.string (F ++ ⟨#[58]⟩ ++ M)] rfl rfl ?c1 ?c2 ?c3 ?c4 ?c5 ?_)
  case c1 =>
    intro j u hj
    match j, hj with
    | 0, hj => simp at hj; subst hj; simp [Addr.add]
  case c2 => intro u hu; simp at hu; subst hu; rfl
  case c3 => decide
  case c4 => decide
  case c5 => have := HC.out.1.size; simp; omega
  intro v1 w6 hown' hgrow _
  have hg2 := Ps.grown (Ps.hal HC _).out HT.out (HO.out.alloc _) hgrow
  have HO2 : Hid (w6.ownsRow W0.heap.size 9 1 v1 2 (strV [F ++ ⟨#[58]⟩ ++ M ++ ⟨#[58]⟩ ++ Z, F ++ ⟨#[58]⟩ ++ M])) := Lib.hid hown'
  clear hown' hgrow
  replace HC := Lib.hid hg2
  clear hg2
  replace HO := HO2
  clear HO2
  go_wp2_with (at_builtin; refine wpList_append_own _ rfl _ _ 36 rfl W0.heap.size 9 i0 (.string ⟨#[]⟩) 1 16 undS hi0 hy0 hy1 hy2 rfl (by decide) _ _ _ rfl (HO.out.alloc _) ⟨w6.heap.size, 0, none⟩ 1 1 [.string (F)] rfl rfl ?c1 ?c2 ?c3 ?c4 ?c5 ?_)
  case c1 =>
    intro j u hj
    match j, hj with
    | 0, hj => simp at hj; subst hj; simp [Addr.add]
  case c2 => intro u hu; simp at hu; subst hu; rfl
  case c3 => decide
  case c4 => decide
  case c5 => have := HC.out.1.size; simp; omega
  intro v2 w7 hown' hgrow _
  have hg2 := Ps.grown (Ps.hal HC _).out HT.out (HO.out.alloc _) hgrow
  have HO2 : Hid (w7.ownsRow W0.heap.size 9 1 v2 3 (strV [F ++ ⟨#[58]⟩ ++ M ++ ⟨#[58]⟩ ++ Z, F ++ ⟨#[58]⟩ ++ M, F])) := Lib.hid hown'
  clear hown' hgrow
  replace HC := Lib.hid hg2
  clear hg2
  replace HO := HO2
  clear HO2
  obtain ⟨g, cap, hvv, hz, hst⟩ := own_strs (L := [F ++ ⟨#[58]⟩ ++ M ++ ⟨#[58]⟩ ++ Z, F ++ ⟨#[58]⟩ ++ M, F]) HO.out (by simp)
  have hvv2 : v2 = .slice (some ⟨g, 0, none⟩) 3 cap := hvv
  clear hvv
  subst hvv2
  have HV := Lib.hid hst
  clear hst HO hi0 hy0 hy1 hy2
  go_wp2
  generalize w7 = W1 at *
  go_loopw [87] (fun i wr => ∃ k : Nat, k ≤ 3 ∧ i = .int .i64 k ∧ Below W1.heap.size W1 wr) (fun i _ => 3 - (intOf i).toNat)
  case atStart => exact ⟨0, by omega, rfl, Below.refl _ _⟩
  case round =>
    obtain ⟨j, hj, rfl, hb⟩ := hrel
    have HP := Lib.hid (HC.out.bl hb)
    by_cases hj3 : j < 3
    · have c0 : wr.cell? ⟨g, j, none⟩ = some (.string ([F ++ ⟨#[58]⟩ ++ M ++ ⟨#[58]⟩ ++ Z, F ++ ⟨#[58]⟩ ++ M, F].getD j F)) := (hb.cell (p := ⟨g, j, none⟩) hz).trans (HV.out j _ (by
        rw [List.getD_eq_getElem?_getD, List.getElem?_eq_getElem (by simpa using hj3)]; rfl))
      have HR := Lib.hid (HL.out j hj3)
      have HB2 := Lib.hid hb
      clear hb heq
      generalize [F ++ ⟨#[58]⟩ ++ M ++ ⟨#[58]⟩ ++ Z, F ++ ⟨#[58]⟩ ++ M, F].getD j F = v at *
      have hq : ¬ 9223372036854775807 < 1 + v.size := by have := HR.out.2.2.2; omega
      go_wp2_with fail
      refine (parse_at _ (by have := HR.out.2.2.2; simp [ByteArray.size_append, maxLen]; have : (⟨#[45]⟩ : ByteArray).size = 1 := rfl; omega) 0 5 (HR.out.2.1 HX0.out) _ HP.out.2.1).mono ?_
      rintro e w8 ⟨rfl, hb⟩
      have HB3 := Lib.hid ((HB2.out.trans (hb.mono HB2.out.size) : Below W1.heap.size W1 w8))
      clear hb
      go_wp2
      go_roundw
      case rel => first | exact ⟨j + 1, by omega, by go_num, HB3.out⟩ | ((repeat apply Exists.intro); exact ⟨⟨j + 1, by omega, by go_num, HB3.out⟩, rfl⟩)
      case measure => simp [intOf]; omega
    · obtain rfl : j = 3 := by omega
      have c0 : wr.cell? ⟨g, 0, none⟩ = some (.string (F ++ ⟨#[58]⟩ ++ M ++ ⟨#[58]⟩ ++ Z)) := (hb.cell (p := ⟨g, 0, none⟩) hz).trans (HV.out 0 _ rfl)
      have c1 : wr.cell? ⟨g, 1, none⟩ = some (.string (F ++ ⟨#[58]⟩ ++ M)) := (hb.cell (p := ⟨g, 1, none⟩) hz).trans (HV.out 1 _ rfl)
      clear hb HV HL hj hj3
      go_wp2_with fail
      refine (works_s HP).mono ?_; rintro e w9 ⟨rfl, HP⟩
      go_wp2
      go_ret
      exact ⟨rfl, HP.out.1⟩
theorem ofld_walk (a : Int) (ha : (Lit.int .u8 a).wf = true) (b : Int) (hb : (Lit.int .u8 b).wf = true) (c : Int) (hc : (Lit.int .u8 c).wf = true) (mi : Bool) (W0 : World) (hT : CtsW W0 ∧ PowW W0) : Calls Tryd.prog 6 #[.int .u8 a, .int .u8 b, .int .u8 c, .bool mi] W0 fun e w' => e = .returned (.bool true) ∧ Below W0.heap.size W0 w' := by
  have g1 := bounds_u8 ha
  have g2 := bounds_u8 hb
  have g3 := bounds_u8 hc
  obtain ⟨hN, h1⟩ := Int.eq_ofNat_of_zero_le (show 0 ≤ a % 168 by omega)
  obtain ⟨mN, h2⟩ := Int.eq_ofNat_of_zero_le (show 0 ≤ b % 60 by omega)
  obtain ⟨sN, h3⟩ := Int.eq_ofNat_of_zero_le (show 0 ≤ c % 60 by omega)
  have b1 : 0 ≤ a ∧ a < 256 := by omega
  have b2 : 0 ≤ b ∧ b < 256 := by omega
  have b3 : 0 ≤ c ∧ c < 256 := by omega
  by_cases hs : sN = 0
  · by_cases hm : mN = 0
    · cases mi
      · exact ofld_cp a b c _ hN mN sN _ b1 b2 b3 h1 h2 h3 rfl _ _ _ _ rfl rfl rfl rfl rfl hs hm W0 hT
      · by_cases hx : 3600 * (hN : Int) + 60 * (mN : Int) + (sN : Int) = 0
        · exact ofld_cmz a b c _ hN mN sN _ b1 b2 b3 h1 h2 h3 rfl _ _ _ _ rfl rfl rfl rfl rfl hs hm hx W0 hT
        · exact ofld_cm a b c _ hN mN sN _ b1 b2 b3 h1 h2 h3 rfl _ _ _ _ rfl rfl rfl rfl rfl hs hm hx W0 hT
    · cases mi
      · exact ofld_bp a b c _ hN mN sN _ b1 b2 b3 h1 h2 h3 rfl _ _ _ _ rfl rfl rfl rfl rfl hs hm W0 hT
      · exact ofld_bm a b c _ hN mN sN _ b1 b2 b3 h1 h2 h3 rfl _ _ _ _ rfl rfl rfl rfl rfl hs hm (by omega) W0 hT
  · cases mi
    · exact ofld_ap a b c _ hN mN sN _ b1 b2 b3 h1 h2 h3 rfl _ _ _ _ rfl rfl rfl rfl rfl hs W0 hT
    · exact ofld_am a b c _ hN mN sN _ b1 b2 b3 h1 h2 h3 rfl _ _ _ _ rfl rfl rfl rfl rfl hs (by omega) W0 hT
end Go.Proofs.YtgfplgclldghkaaDoor
