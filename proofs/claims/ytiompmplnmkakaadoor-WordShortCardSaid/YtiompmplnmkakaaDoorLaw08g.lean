/- The walk of WordShort. -/
import Derived.Test.YtiompmplnmkakaaDoorLaw08e
import Derived.Test.YtiompmplnmkakaaDoorRef08d
import Derived.BigRegion
namespace Go.Proofs.YtiompmplnmkakaaDoor
open Go.RowKit
/-- a short word -/
def okS (x : ByteArray) : Bool := match x.data.toList with
  | [a, b, c] => Nat.ble 65 a.toNat && Nat.ble a.toNat 90 && Nat.ble 97 b.toNat && Nat.ble b.toNat 122 && Nat.ble 97 c.toNat && Nat.ble c.toNat 122
  | _ => false
theorem byte_of (x : ByteArray) (k : Nat) (c : UInt8) (h : x.data.toList[k]? = some c) : ∃ hk : k < x.size, x[k]'hk = c := by
  rw [Array.getElem?_toList] at h
  obtain ⟨hk, e⟩ := Array.getElem?_eq_some_iff.1 h
  exact ⟨hk, e⟩
theorem okS_at (x : ByteArray) (h : okS x = true) : ∃ (a b c : UInt8) (h0 : 0 < x.size) (h1 : 1 < x.size) (h2 : 2 < x.size), x.size = 3 ∧ x.data.toList = [a, b, c] ∧ x[0] = a ∧ x[1] = b ∧ x[2] = c ∧ 65 ≤ a.toNat ∧ a.toNat ≤ 90 ∧ 97 ≤ b.toNat ∧ b.toNat ≤ 122 ∧ 97 ≤ c.toNat ∧ c.toNat ≤ 122 := by
  unfold okS at h
  match hd : x.data.toList, h with
  | [a, b, c], h =>
    simp only [Bool.and_eq_true, Nat.ble_eq] at h
    obtain ⟨h0, e0⟩ := byte_of x 0 a (by rw [hd]; rfl)
    obtain ⟨h1, e1⟩ := byte_of x 1 b (by rw [hd]; rfl)
    obtain ⟨h2, e2⟩ := byte_of x 2 c (by rw [hd]; rfl)
    have hsz : x.size = [a, b, c].length := by rw [← hd, Array.length_toList]; rfl
    exact ⟨a, b, c, h0, h1, h2, hsz, rfl, e0, e1, e2, h.1.1.1.1.1, h.1.1.1.1.2, h.1.1.1.2, h.1.1.2, h.1.2, h.2⟩
set_option maxRecDepth 100000 in
set_option maxHeartbeats 2000000 in
theorem low_any (x : ByteArray) (hx : okS x = true) (w : World) :
    Calls Tryd.prog 25 #[.string x] w fun e w' => ∃ X : ByteArray, e = .returned (.string X) ∧ Hid (Wd.low X.data.toList = Wd.low x.data.toList) ∧ Hid (X.size = 3) ∧ Below w.heap.size w w' := by
  obtain ⟨a, b, c, h0, h1, h2, hsz, hd, e0, e1, e2, a1, a2, _, _, _, _⟩ := okS_at x hx
  have hv : (((x[0]).toNat : Int) + 97 - 65) = ((sm8 a).toNat : Int) := by rw [e0, sm8_nat, Wd.sm_yes _ ⟨a1, a2⟩]; omega
  have q0 : (0 : Int) < (x.size : Int) := by omega
  have q1 : (1 : Int) ≤ (x.size : Int) := by omega
  have r1 : (65 : Int) ≤ ((x[0]).toNat : Int) := by rw [e0]; omega
  have r2 : ((x[0]).toNat : Int) ≤ 90 := by rw [e0]; omega
  have hcv : ∀ wx : World, wx.cell? ⟨w.heap.size, 0, none⟩ = some (.int .u8 (((x[0]).toNat : Int) + 97 - 65)) → (convert 36 9 (.slice (some ⟨w.heap.size, 0, none⟩) 1 1)).run Tryd.prog wx = .ok (.string ⟨#[sm8 a]⟩) wx := fun wx h => byte_one8 _ _ wx (by rw [← hv]; exact h)
  obtain ⟨U, hU⟩ : ∃ U : ByteArray, (⟨#[sm8 a]⟩ : ByteArray) = U := ⟨_, rfl⟩
  have hUs : U.size = 1 := by rw [← hU]; rfl
  have hUd : U.data.toList = [sm8 a] := by rw [← hU]
  rw [hU] at hcv
  have hz2 := ext_size x 1 3 (by omega)
  have hXs : Hid ((U ++ x.extract 1 3).size = 3) := Lib.hid (by rw [ByteArray.size_append, hz2]; omega)
  have hXl : Hid (Wd.low (U ++ x.extract 1 3).data.toList = Wd.low x.data.toList) := Lib.hid (by
    rw [Joins.data_append, hUd, Lib.extract_data, hd]
    show Wd.sm (sm8 a).toNat :: _ = Wd.sm a.toNat :: _
    rw [sm8_nat, Wd.sm_yes _ ⟨a1, a2⟩, Wd.sm_no _ (by omega)]
    rfl)
  have hsum2 : ¬ 9223372036854775807 < U.size + (x.extract 1 3).size := by omega
  have hsum3 : ¬ 9223372036854775807 < U.size + (min 3 x.size - 1) := by omega
  clear hz2 hU hUd hv hd e0 e1 e2 a1 a2 hx
  go_enter Tryd.func25, Tryd.ntmps25
  go_wp2_with fail
  go_region
  go_wp2
  go_ret
  exact ⟨_, rfl, hXl, hXs, ((Below.refl _ w).alloc (Nat.le_refl _) _).drew⟩
theorem okS_months : ∀ k : Nat, k < 12 → okS (txt monthsL (1 + (k : Int))) = true ∧ Wd.fnd (wl monthsL) (Wd.low (txt monthsL (1 + (k : Int))).data.toList) = (1 + (k : Int), 0) := by decide +kernel
theorem okS_weeks : ∀ k : Nat, k < 7 → okS (txt weeksL (k : Int)) = true ∧ Wd.fnd (wl weeksL) (Wd.low (txt weeksL (k : Int)).data.toList) = ((k : Int), 0) := by decide +kernel
set_option maxRecDepth 100000 in
set_option maxHeartbeats 4000000 in
theorem short_core (a B : Int) (k r : Nat) (hB : 0 ≤ B ∧ B ≤ 65535) (h0 : 0 ≤ a) (h1 : a ≤ 255) (hk : a % 12 = (k : Int)) (hr : a % 7 = (r : Int)) (W0 : World) (hT : TabW W0) :
    Calls Tryd.prog 6 #[.int .u8 a, .int .u16 B] W0 fun e w' => e = .returned (.bool true) ∧ Below W0.heap.size W0 w' := by
  have HC := Lib.hid (Wo.mk0 hT)
  have hk12 : k < 12 := by omega
  have hr7 : r < 7 := by omega
  obtain ⟨s1, s2⟩ := okS_months k hk12
  obtain ⟨t1, t2⟩ := okS_weeks r hr7
  obtain ⟨S, hS⟩ : ∃ S, txt monthsL (1 + (k : Int)) = S := ⟨_, rfl⟩
  obtain ⟨T, hT2⟩ : ∃ T, txt weeksL (r : Int) = T := ⟨_, rfl⟩
  rw [hS] at s1 s2
  rw [hT2] at t1 t2
  have HS := Lib.hid hS
  have HT := Lib.hid hT2
  have HB := Lib.hid hB
  have S1 := Lib.hid s1
  have S2 := Lib.hid s2
  have T1 := Lib.hid t1
  have T2 := Lib.hid t2
  clear hT hS hT2 s1 s2 t1 t2 hB
  go_enter Tryd.func6, Tryd.ntmps6
  go_wp2_with fail
  refine (wMonthText_s _ S HS HC).mono ?_; rintro e w1 ⟨rfl, _, HC⟩
  go_wp2_with fail
  refine (wWeekText_s _ T HT HC).mono ?_; rintro e w2 ⟨rfl, _, HC⟩
  have d0 := new_cell w2 #[.string S, .string T] 9 0 _ rfl
  have d1 := new_cell w2 #[.string S, .string T] 9 1 _ rfl
  have hall : ∀ j : Nat, j < 2 → ∃ x : ByteArray, (w2.alloc (.cells #[.string S, .string T] 9)).cell? ⟨w2.heap.size, j, none⟩ = some (.string x) ∧ okS x = true := by
    intro j hj
    have : j = 0 ∨ j = 1 := by omega
    rcases this with rfl | rfl
    · exact ⟨S, d0, S1.out⟩
    · exact ⟨T, d1, T1.out⟩
  have HA := Lib.hid hall
  have HC2 := Wo.hal HC (.cells #[.string S, .string T] 9)
  clear d0 d1 hall
  go_wp2
  generalize w2.alloc (.cells #[.string S, .string T] 9) = w3 at *
  go_loopw [31] (fun i wr => ∃ j : Nat, j ≤ 2 ∧ i = .int .i64 j ∧ w3 = wr) (fun i _ => 2 - (intOf i).toNat)
  case atStart => exact ⟨0, by omega, rfl, rfl⟩
  case round =>
    obtain ⟨j, hj, rfl, rfl⟩ := hrel
    by_cases hj2 : j < 2
    · obtain ⟨x, hx, ho⟩ := HA.out j hj2
      obtain ⟨b0, b1, b2, l0, l1, l2, hsz, _, e0, e1, e2, q1, q2, q3, q4, q5, q6⟩ := okS_at x ho
      have hj0 : (0 : Int) ≤ (j : Int) := by omega
      have hj1 : (j : Int) < 2 := by omega
      have g0 : ((x.size : Int) != 3) = false := by rw [hsz]; rfl
      have z0 : (0 : Int) < (x.size : Int) := by omega
      have z1 : (1 : Int) < (x.size : Int) := by omega
      have z2 : (2 : Int) < (x.size : Int) := by omega
      have g1 : ¬ ((x[0]).toNat : Int) < 65 := by rw [e0]; omega
      have g2 : ¬ (90 : Int) < ((x[0]).toNat : Int) := by rw [e0]; omega
      have g3 : ¬ ((x[1]).toNat : Int) < 97 := by rw [e1]; omega
      have g4 : ¬ (122 : Int) < ((x[1]).toNat : Int) := by rw [e1]; omega
      have g5 : ¬ ((x[2]).toNat : Int) < 97 := by rw [e2]; omega
      have g6 : ¬ (122 : Int) < ((x[2]).toNat : Int) := by rw [e2]; omega
      clear ho hsz e0 e1 e2 q1 q2 q3 q4 q5 q6
      go_wp2
      go_roundw
      case rel => exact ⟨j + 1, by omega, by go_num, by first | rfl | trivial⟩
      case measure => simp [intOf] <;> omega
    · obtain rfl : j = 2 := by omega
      clear HA
      have hb0 := HB.out
      have e1 : (1 + (k : Int) == 1 + (k : Int)) = true := by simp
      have e2 : ((r : Int) == (r : Int)) = true := by simp
      go_wp2_with fail
      refine (low_any S S1.out _).mono ?_; rintro e w4 ⟨X, rfl, HX, HXs, hb⟩
      replace HC2 := Wo.hbl HC2 hb
      clear hb
      go_wp2_with fail
      refine (cased_any X (by rw [HXs.out]; decide) B HB.out _).mono ?_; rintro e w5 ⟨Y, rfl, HY, hb⟩
      replace HC2 := Wo.hbl HC2 hb
      clear hb
      have HF1 : Hid (Wd.fnd (wl monthsL) (Wd.low Y.data.toList) = (1 + (k : Int), 0)) := Lib.hid (by rw [HY.out, HX.out, S2.out])
      go_wp2_with fail
      refine (wMonth_s Y _ _ HF1 HC2).mono ?_; rintro e w6 ⟨rfl, _, HC3⟩
      go_wp2_with fail
      refine (low_any T T1.out _).mono ?_; rintro e w7 ⟨V, rfl, HV, HVs, hb⟩
      replace HC3 := Wo.hbl HC3 hb
      clear hb
      go_wp2_with fail
      refine (cased_any V (by rw [HVs.out]; decide) B HB.out _).mono ?_; rintro e w8 ⟨Z, rfl, HZ, hb⟩
      replace HC3 := Wo.hbl HC3 hb
      clear hb
      have HF2 : Hid (Wd.fnd (wl weeksL) (Wd.low Z.data.toList) = ((r : Int), 0)) := Lib.hid (by rw [HZ.out, HV.out, T2.out])
      go_wp2_with fail
      refine (wWeek_s Z _ _ HF2 HC3).mono ?_; rintro e w9 ⟨rfl, _, HC4⟩
      go_wp2_with fail
      refine (works8_s HC4).mono ?_; rintro e w10 ⟨rfl, HC5⟩
      go_wp2
      go_ret
      exact ⟨rfl, HC5.out.1⟩
/-- short words mean what they stand for, in any case -/
theorem short_walk (a : Int) (wa : (Lit.int .u8 a).wf = true) (B : Int) (wb : (Lit.int .u16 B).wf = true) (W0 : World) (hT : TabW W0) :
    Calls Tryd.prog 6 #[.int .u8 a, .int .u16 B] W0 fun e w' => e = .returned (.bool true) ∧ Below W0.heap.size W0 w' := by
  have b0 := bounds_u8 wa
  have b1 := bounds_u16 wb
  exact short_core a B (a % 12).toNat (a % 7).toNat b1 b0.1 b0.2 (by omega) (by omega) W0 hT
end Go.Proofs.YtiompmplnmkakaaDoor
