/- The contract of dayspec.Print. -/
import Derived.Test.YtedcfnaphfgfjaaDoorDyf
import Derived.Test.YtedcfnaphfgfjaaDoorDfon
namespace Go.Proofs.YtedcfnaphfgfjaaDoor
open Go.RowKit Go.Shelf
/-- a number of at most two digits -/
def dcl (n : Nat) : List UInt8 := if n < 10 then [UInt8.ofNat (48 + n)] else [UInt8.ofNat (48 + n / 10), UInt8.ofNat (48 + n % 10)]
theorem dec_eq (n : Nat) (h : n < 100) : Lib.decDigits n = dcl n := by
  unfold dcl
  rw [Lib.decDigits]
  by_cases h1 : n < 10
  · rw [dif_pos h1, if_pos h1]
  · rw [dif_neg h1, if_neg h1, Lib.decDigits, dif_pos (by omega)]; rfl
def decB (d : Int) : ByteArray := ⟨(dcl d.toNat).toArray⟩
/-- the canonical string of a form, or none -/
def prnt (k wk d : Int) : ByteArray × Int :=
  if Dfm.okD k wk d then ((if k = 1 then decB d else if k = 2 then (⟨#[108, 97, 115, 116]⟩ : ByteArray) ++ txt weeksL wk else if k = 3 then (txt weeksL wk ++ (⟨#[62, 61]⟩ : ByteArray)) ++ decB d else (txt weeksL wk ++ (⟨#[60, 61]⟩ : ByteArray)) ++ decB d), 0) else (⟨#[]⟩, 2)
theorem decB_size (d : Int) : (decB d).size ≤ 2 := by
  unfold decB dcl
  split
  · show 1 ≤ 2; omega
  · show 2 ≤ 2; omega
theorem txt_size : ∀ k : Nat, k < 7 → (txt weeksL (k : Int)).size ≤ 3 := by decide +kernel
theorem two_app (a b : ByteArray) : (a ++ b).size = a.size + b.size := by simp
theorem str_refl (S : ByteArray) : (S.toList == S.toList) = true := by simp
theorem lit2 (S : ByteArray) (a b : UInt8) (h : S.size ≤ 100) : ¬ 9223372036854775807 < S.size + (⟨#[a, b]⟩ : ByteArray).size := by show ¬ _ < S.size + 2; omega
set_option maxRecDepth 100000 in
set_option maxHeartbeats 4000000 in
theorem yPrint_no {w : World} (k wk d : Int) (h : Dfm.okD k wk d = false) : Calls Tryd.prog 10 #[.agg #[.int .i64 k, .int .i64 wk, .int .i64 d]] w fun e w' => e = .returned (.tuple #[.string ⟨#[]⟩, .int .i64 2]) ∧ Below w.heap.size w w' := by
  have HC := Bs.hal (Lib.hid (Bs.mk0 w)) (.cells #[.int .i64 k, .int .i64 wk, .int .i64 d] 23)
  have HX := Lib.hid (show (if Dfm.okD k wk d = true then (0 : Int) else 2) = 2 by rw [h]; rfl)
  clear h
  go_enter Tryd.func10, Tryd.ntmps10
  go_wp2_with fail
  refine (check_at k wk d 2 HX.out _).mono ?_; rintro e w1 ⟨rfl, hb⟩; replace HC := Bs.hbl HC hb; clear hb
  go_wp2
  go_ret2
  exact ⟨rfl, HC.out⟩
theorem itoa_y (n : Nat) (h : n < 100) (d : Int) (hd : d = (n : Int)) (w : World) : Calls Tryd.prog 25 #[.int .i64 d] w fun e w' => e = .returned (.string (decB d)) ∧ w = w' := by
  subst hd
  refine (Tryd.strconv_Itoa_small n h w).mono fun e w' ⟨h1, h2⟩ => ⟨?_, h2.symm⟩
  rw [h1, dec_eq n h]; rfl
set_option maxRecDepth 100000 in
set_option maxHeartbeats 8000000 in
theorem yPrint_yes {W0 w : World} (k wk d : Int) (h : Dfm.okD k wk d = true) (S : ByteArray) (hS : Hid (prnt k wk d = (S, 0))) (HC0 : Hid (Ys W0 w)) : Calls Tryd.prog 10 #[.agg #[.int .i64 k, .int .i64 wk, .int .i64 d]] w fun e w' => e = .returned (.tuple #[.string S, .int .i64 0]) ∧ Below w.heap.size w w' := by
  have HC := Ys.hal (Lib.hid (show Ys w w from ⟨Below.refl _ w, HC0.out.2⟩)) (.cells #[.int .i64 k, .int .i64 wk, .int .i64 d] 23)
  have hs := Cs.new w [.int .i64 k, .int .i64 wk, .int .i64 d] 23
  have HX := Lib.hid (show (if Dfm.okD k wk d = true then (0 : Int) else 2) = 0 by rw [h]; rfl)
  obtain ⟨b1, b2, b3, b4, b5, b6⟩ := Dfm.ok_bd _ _ _ h
  have hP := hS.out
  unfold prnt at hP
  rw [if_pos h] at hP
  have hP2 := congrArg Prod.fst hP
  dsimp only at hP2
  have hT := txt_size wk.toNat (by omega)
  rw [Int.toNat_of_nonneg b3] at hT
  have hD := decB_size d
  obtain ⟨T, eT⟩ : ∃ T, txt weeksL wk = T := ⟨_, rfl⟩
  have hit := fun w => itoa_y d.toNat (by omega) d (by omega) w
  obtain ⟨D, eD⟩ : ∃ D, decB d = D := ⟨_, rfl⟩
  rw [eT] at hP2 hT
  rw [eD] at hP2 hD
  simp only [eD] at hit
  have HI := Lib.hid hit
  have HT := Lib.hid eT
  have HP := Lib.hid hP2
  have s1 : ¬ 9223372036854775807 < (⟨#[108, 97, 115, 116]⟩ : ByteArray).size + T.size := by show ¬ _ < 4 + T.size; omega
  have s1' : ¬ 9223372036854775807 < 4 + T.size := by omega
  have s2 : ¬ 9223372036854775807 < T.size + 2 := by omega
  have s3 : ¬ 9223372036854775807 < T.size + 2 + D.size := by omega
  have hkk := kk k (by omega)
  clear hP hP2 eT eD hit h hS HC0 b1 b2 b3 b4 b5 b6
  rcases hkk with rfl | rfl | rfl | rfl
  · have hs2 := Lib.hid hs
    have hP3 := HP.out
    have hP4 : D = S := by rw [← hP3]; rfl
    have HS := Lib.hid hP4
    clear hP3 hP4
    go_enter Tryd.func10, Tryd.ntmps10
    go_wp2_with fail
    refine (check_at 1 wk d 0 HX.out _).mono ?_; rintro e w1 ⟨rfl, hb⟩
    replace HC := Ys.hbl HC hb
    replace hs2 := Cs.hbl hs2 hb
    clear hb hs
    have p0 := hs2.out.at 0 rfl
    have p1 := hs2.out.at 1 rfl
    have p2 := hs2.out.at 2 rfl
    clear hs2
    go_wp2_with fail
    replace HC := Ys.hdr HC
    go_region_held3 (fun w' => w'.cell? ⟨w.heap.size, 0, none⟩ = some (.int .i64 1) ∧ w'.cell? ⟨w.heap.size, 1, none⟩ = some (.int .i64 wk) ∧ w'.cell? ⟨w.heap.size, 2, none⟩ = some (.int .i64 d) ∧ Ys w w') (first | exact ⟨p0, p1, p2, HC.out⟩)
      (first
        | (go_at_call 24; refine (yWeekText_s wk T HT HC).mono ?_; rintro e w3 ⟨rfl, hb, HC2⟩; replace p0 := cell_bl hb p0; replace p1 := cell_bl hb p1; replace p2 := cell_bl hb p2; replace HC := HC2; clear hb HC2)
        | (go_at_call 25; refine (HI.out _).mono ?_; rintro e w3 ⟨rfl, rfl⟩))
    go_wp2
    rw [HS.out]
    go_ret2
    exact ⟨rfl, HC.out.1⟩
  · have hs2 := Lib.hid hs
    have hP3 := HP.out
    have hP4 : (⟨#[108, 97, 115, 116]⟩ : ByteArray) ++ T = S := by rw [← hP3]; rfl
    have HS := Lib.hid hP4
    clear hP3 hP4
    go_enter Tryd.func10, Tryd.ntmps10
    go_wp2_with fail
    refine (check_at 2 wk d 0 HX.out _).mono ?_; rintro e w1 ⟨rfl, hb⟩
    replace HC := Ys.hbl HC hb
    replace hs2 := Cs.hbl hs2 hb
    clear hb hs
    have p0 := hs2.out.at 0 rfl
    have p1 := hs2.out.at 1 rfl
    have p2 := hs2.out.at 2 rfl
    clear hs2
    go_wp2_with fail
    replace HC := Ys.hdr HC
    go_region_held3 (fun w' => w'.cell? ⟨w.heap.size, 0, none⟩ = some (.int .i64 2) ∧ w'.cell? ⟨w.heap.size, 1, none⟩ = some (.int .i64 wk) ∧ w'.cell? ⟨w.heap.size, 2, none⟩ = some (.int .i64 d) ∧ Ys w w') (first | exact ⟨p0, p1, p2, HC.out⟩)
      (first
        | (go_at_call 24; refine (yWeekText_s wk T HT HC).mono ?_; rintro e w3 ⟨rfl, hb, HC2⟩; replace p0 := cell_bl hb p0; replace p1 := cell_bl hb p1; replace p2 := cell_bl hb p2; replace HC := HC2; clear hb HC2)
        | (go_at_call 25; refine (HI.out _).mono ?_; rintro e w3 ⟨rfl, rfl⟩))
    go_wp2
    rw [HS.out]
    go_ret2
    exact ⟨rfl, HC.out.1⟩
  · have hs2 := Lib.hid hs
    have hP3 := HP.out
    have hP4 : (T ++ (⟨#[62, 61]⟩ : ByteArray)) ++ D = S := by rw [← hP3]; rfl
    have HS := Lib.hid hP4
    clear hP3 hP4
    go_enter Tryd.func10, Tryd.ntmps10
    go_wp2_with fail
    refine (check_at 3 wk d 0 HX.out _).mono ?_; rintro e w1 ⟨rfl, hb⟩
    replace HC := Ys.hbl HC hb
    replace hs2 := Cs.hbl hs2 hb
    clear hb hs
    have p0 := hs2.out.at 0 rfl
    have p1 := hs2.out.at 1 rfl
    have p2 := hs2.out.at 2 rfl
    clear hs2
    go_wp2_with fail
    replace HC := Ys.hdr HC
    go_region_held3 (fun w' => w'.cell? ⟨w.heap.size, 0, none⟩ = some (.int .i64 3) ∧ w'.cell? ⟨w.heap.size, 1, none⟩ = some (.int .i64 wk) ∧ w'.cell? ⟨w.heap.size, 2, none⟩ = some (.int .i64 d) ∧ Ys w w') (first | exact ⟨p0, p1, p2, HC.out⟩)
      (first
        | (go_at_call 24; refine (yWeekText_s wk T HT HC).mono ?_; rintro e w3 ⟨rfl, hb, HC2⟩; replace p0 := cell_bl hb p0; replace p1 := cell_bl hb p1; replace p2 := cell_bl hb p2; replace HC := HC2; clear hb HC2)
        | (go_at_call 25; refine (HI.out _).mono ?_; rintro e w3 ⟨rfl, rfl⟩))
    have q6 := HC.out.2.ops.at 6 rfl
    have q7 := HC.out.2.ops.at 7 rfl
    go_wp2_with fail
    refine (otext_any 62 61 ⟨#[62, 61]⟩ rfl _).mono ?_; rintro e w4 ⟨rfl, hb⟩; replace HC := Ys.hbl HC hb; clear hb q6 q7
    go_wp2
    rw [HS.out]
    go_ret2
    exact ⟨rfl, HC.out.1⟩
  · have hs2 := Lib.hid hs
    have hP3 := HP.out
    have hP4 : (T ++ (⟨#[60, 61]⟩ : ByteArray)) ++ D = S := by rw [← hP3]; rfl
    have HS := Lib.hid hP4
    clear hP3 hP4
    go_enter Tryd.func10, Tryd.ntmps10
    go_wp2_with fail
    refine (check_at 4 wk d 0 HX.out _).mono ?_; rintro e w1 ⟨rfl, hb⟩
    replace HC := Ys.hbl HC hb
    replace hs2 := Cs.hbl hs2 hb
    clear hb hs
    have p0 := hs2.out.at 0 rfl
    have p1 := hs2.out.at 1 rfl
    have p2 := hs2.out.at 2 rfl
    clear hs2
    go_wp2_with fail
    replace HC := Ys.hdr HC
    go_region_held3 (fun w' => w'.cell? ⟨w.heap.size, 0, none⟩ = some (.int .i64 4) ∧ w'.cell? ⟨w.heap.size, 1, none⟩ = some (.int .i64 wk) ∧ w'.cell? ⟨w.heap.size, 2, none⟩ = some (.int .i64 d) ∧ Ys w w') (first | exact ⟨p0, p1, p2, HC.out⟩)
      (first
        | (go_at_call 24; refine (yWeekText_s wk T HT HC).mono ?_; rintro e w3 ⟨rfl, hb, HC2⟩; replace p0 := cell_bl hb p0; replace p1 := cell_bl hb p1; replace p2 := cell_bl hb p2; replace HC := HC2; clear hb HC2)
        | (go_at_call 25; refine (HI.out _).mono ?_; rintro e w3 ⟨rfl, rfl⟩))
    have q6 := HC.out.2.ops.at 8 rfl
    have q7 := HC.out.2.ops.at 9 rfl
    go_wp2_with fail
    refine (otext_any 60 61 ⟨#[60, 61]⟩ rfl _).mono ?_; rintro e w4 ⟨rfl, hb⟩; replace HC := Ys.hbl HC hb; clear hb q6 q7
    go_wp2
    rw [HS.out]
    go_ret2
    exact ⟨rfl, HC.out.1⟩
/-- dayspec.Print -/
theorem yPrint_s {W0 w : World} (k wk d : Int) (S : ByteArray) (e : Int) (hS : Hid (prnt k wk d = (S, e))) (HC : Hid (Ys W0 w)) : Calls Tryd.prog 10 #[.agg #[.int .i64 k, .int .i64 wk, .int .i64 d]] w fun x w' => x = .returned (.tuple #[.string S, .int .i64 e]) ∧ Below w.heap.size w w' ∧ Hid (Ys W0 w') := by
  cases h : Dfm.okD k wk d with
  | true =>
    have he : e = 0 := by
      have := hS.out
      unfold prnt at this
      rw [if_pos h] at this
      exact (congrArg Prod.snd this).symm
    subst he
    exact (yPrint_yes k wk d h S hS HC).mono fun x w' ⟨h1, h2⟩ => ⟨h1, h2, Ys.hbl HC h2⟩
  | false =>
    have := hS.out
    unfold prnt at this
    rw [h, if_neg (by decide)] at this
    obtain ⟨rfl, rfl⟩ := Prod.mk.inj this
    exact (yPrint_no k wk d h).mono fun x w' ⟨h1, h2⟩ => ⟨h1, h2, Ys.hbl HC h2⟩
end Go.Proofs.YtedcfnaphfgfjaaDoor
