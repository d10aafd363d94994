/- The document's answers about day forms as strings: digits, Print. -/
import Derived.Test.YtedcfnaphfgfjaaDoorDys
import Derived.Deep.RegionHeld3
namespace Go.Proofs.YtedcfnaphfgfjaaDoor
open Go.RowKit Go.Shelf
def digL : ByteArray := ⟨#[48, 49, 50, 51, 52, 53, 54, 55, 56, 57]⟩
theorem dig_ext : ∀ n : Nat, n < 10 → (⟨#[48, 49, 50, 51, 52, 53, 54, 55, 56, 57]⟩ : ByteArray).extract n (n + 1) = ⟨#[UInt8.ofNat (48 + n)]⟩ := by decide +kernel
theorem rdig_one (n : Nat) (hn : n < 10) (S : ByteArray) (hS : (⟨#[UInt8.ofNat (48 + n)]⟩ : ByteArray) = S) (w : World) : Calls Tryd.prog 29 #[.int .i64 (n : Int)] w fun e w' => e = .returned (.string S) ∧ w = w' := by
  have hx := dig_ext n hn
  rw [hS] at hx
  have q1 : (n : Int) < 10 := by omega
  have q2 : (0 : Int) ≤ (n : Int) := by omega
  have q3 : (n : Int) ≤ (n : Int) + 1 := by omega
  have q4 : (n : Int) + 1 ≤ 10 := by omega
  clear hS
  go_enter Tryd.func29, Tryd.ntmps29
  go_wp2
  go_ret
  exact ⟨rfl, rfl⟩
/- DIGITS: written by tools/rdig09.py -/
set_option maxHeartbeats 2000000 in
set_option maxRecDepth 100000 in
theorem rdig_10 (S : ByteArray) (hS : (⟨#[UInt8.ofNat (48 + 1), UInt8.ofNat (48 + 0)]⟩ : ByteArray) = S) (w : World) : Calls Tryd.prog 29 #[.int .i64 10] w fun e w' => e = .returned (.string S) ∧ Below w.heap.size w w' := by
  have hx : (⟨#[48, 49, 50, 51, 52, 53, 54, 55, 56, 57]⟩ : ByteArray).extract 0 1 = ⟨#[UInt8.ofNat (48 + 0)]⟩ := dig_ext 0 (by omega)
  have hS2 : (⟨#[UInt8.ofNat (48 + 1)]⟩ : ByteArray) ++ (⟨#[UInt8.ofNat (48 + 0)]⟩ : ByteArray) = S := by rw [← hS]; rfl
  have hd := rdig_one 1 (by omega) _ rfl
  generalize (⟨#[UInt8.ofNat (48 + 0)]⟩ : ByteArray) = B at *
  have hw : IntKind.i64.wrap 1 = 1 := wrap_small _ (by omega) (by omega)
  have HD := Lib.hid hd
  have HS := Lib.hid hS2
  have HB := Lib.hid (Bs.mk0 w)
  replace HB := Bs.hdr HB
  have hz : B.size = 1 := by rw [← hx]; rfl
  have hsum : ¬ 9223372036854775807 < 1 + B.size := by omega
  clear hd hS hS2
  go_enter Tryd.func29, Tryd.ntmps29
  go_wp2_with fail
  go_region_held3 (fun w' => Bs w w') (first | exact HB.out)
    (first | (go_at_call 29; refine (HD.out _).mono ?_; rintro e w1 ⟨rfl, rfl⟩))
  go_wp2
  go_ret
  exact ⟨by rw [← HS.out]; rfl, HB.out⟩
set_option maxHeartbeats 2000000 in
set_option maxRecDepth 100000 in
theorem rdig_11 (S : ByteArray) (hS : (⟨#[UInt8.ofNat (48 + 1), UInt8.ofNat (48 + 1)]⟩ : ByteArray) = S) (w : World) : Calls Tryd.prog 29 #[.int .i64 11] w fun e w' => e = .returned (.string S) ∧ Below w.heap.size w w' := by
  have hx : (⟨#[48, 49, 50, 51, 52, 53, 54, 55, 56, 57]⟩ : ByteArray).extract 1 2 = ⟨#[UInt8.ofNat (48 + 1)]⟩ := dig_ext 1 (by omega)
  have hS2 : (⟨#[UInt8.ofNat (48 + 1)]⟩ : ByteArray) ++ (⟨#[UInt8.ofNat (48 + 1)]⟩ : ByteArray) = S := by rw [← hS]; rfl
  have hd := rdig_one 1 (by omega) _ rfl
  generalize (⟨#[UInt8.ofNat (48 + 1)]⟩ : ByteArray) = B at *
  have hw : IntKind.i64.wrap 2 = 2 := wrap_small _ (by omega) (by omega)
  have HD := Lib.hid hd
  have HS := Lib.hid hS2
  have HB := Lib.hid (Bs.mk0 w)
  replace HB := Bs.hdr HB
  have hz : B.size = 1 := by rw [← hx]; rfl
  have hsum : ¬ 9223372036854775807 < 1 + B.size := by omega
  clear hd hS hS2
  go_enter Tryd.func29, Tryd.ntmps29
  go_wp2_with fail
  go_region_held3 (fun w' => Bs w w') (first | exact HB.out)
    (first | (go_at_call 29; refine (HD.out _).mono ?_; rintro e w1 ⟨rfl, rfl⟩))
  go_wp2
  go_ret
  exact ⟨by rw [← HS.out]; rfl, HB.out⟩
set_option maxHeartbeats 2000000 in
set_option maxRecDepth 100000 in
theorem rdig_12 (S : ByteArray) (hS : (⟨#[UInt8.ofNat (48 + 1), UInt8.ofNat (48 + 2)]⟩ : ByteArray) = S) (w : World) : Calls Tryd.prog 29 #[.int .i64 12] w fun e w' => e = .returned (.string S) ∧ Below w.heap.size w w' := by
  have hx : (⟨#[48, 49, 50, 51, 52, 53, 54, 55, 56, 57]⟩ : ByteArray).extract 2 3 = ⟨#[UInt8.ofNat (48 + 2)]⟩ := dig_ext 2 (by omega)
  have hS2 : (⟨#[UInt8.ofNat (48 + 1)]⟩ : ByteArray) ++ (⟨#[UInt8.ofNat (48 + 2)]⟩ : ByteArray) = S := by rw [← hS]; rfl
  have hd := rdig_one 1 (by omega) _ rfl
  generalize (⟨#[UInt8.ofNat (48 + 2)]⟩ : ByteArray) = B at *
  have hw : IntKind.i64.wrap 3 = 3 := wrap_small _ (by omega) (by omega)
  have HD := Lib.hid hd
  have HS := Lib.hid hS2
  have HB := Lib.hid (Bs.mk0 w)
  replace HB := Bs.hdr HB
  have hz : B.size = 1 := by rw [← hx]; rfl
  have hsum : ¬ 9223372036854775807 < 1 + B.size := by omega
  clear hd hS hS2
  go_enter Tryd.func29, Tryd.ntmps29
  go_wp2_with fail
  go_region_held3 (fun w' => Bs w w') (first | exact HB.out)
    (first | (go_at_call 29; refine (HD.out _).mono ?_; rintro e w1 ⟨rfl, rfl⟩))
  go_wp2
  go_ret
  exact ⟨by rw [← HS.out]; rfl, HB.out⟩
set_option maxHeartbeats 2000000 in
set_option maxRecDepth 100000 in
theorem rdig_13 (S : ByteArray) (hS : (⟨#[UInt8.ofNat (48 + 1), UInt8.ofNat (48 + 3)]⟩ : ByteArray) = S) (w : World) : Calls Tryd.prog 29 #[.int .i64 13] w fun e w' => e = .returned (.string S) ∧ Below w.heap.size w w' := by
  have hx : (⟨#[48, 49, 50, 51, 52, 53, 54, 55, 56, 57]⟩ : ByteArray).extract 3 4 = ⟨#[UInt8.ofNat (48 + 3)]⟩ := dig_ext 3 (by omega)
  have hS2 : (⟨#[UInt8.ofNat (48 + 1)]⟩ : ByteArray) ++ (⟨#[UInt8.ofNat (48 + 3)]⟩ : ByteArray) = S := by rw [← hS]; rfl
  have hd := rdig_one 1 (by omega) _ rfl
  generalize (⟨#[UInt8.ofNat (48 + 3)]⟩ : ByteArray) = B at *
  have hw : IntKind.i64.wrap 4 = 4 := wrap_small _ (by omega) (by omega)
  have HD := Lib.hid hd
  have HS := Lib.hid hS2
  have HB := Lib.hid (Bs.mk0 w)
  replace HB := Bs.hdr HB
  have hz : B.size = 1 := by rw [← hx]; rfl
  have hsum : ¬ 9223372036854775807 < 1 + B.size := by omega
  clear hd hS hS2
  go_enter Tryd.func29, Tryd.ntmps29
  go_wp2_with fail
  go_region_held3 (fun w' => Bs w w') (first | exact HB.out)
    (first | (go_at_call 29; refine (HD.out _).mono ?_; rintro e w1 ⟨rfl, rfl⟩))
  go_wp2
  go_ret
  exact ⟨by rw [← HS.out]; rfl, HB.out⟩
set_option maxHeartbeats 2000000 in
set_option maxRecDepth 100000 in
theorem rdig_14 (S : ByteArray) (hS : (⟨#[UInt8.ofNat (48 + 1), UInt8.ofNat (48 + 4)]⟩ : ByteArray) = S) (w : World) : Calls Tryd.prog 29 #[.int .i64 14] w fun e w' => e = .returned (.string S) ∧ Below w.heap.size w w' := by
  have hx : (⟨#[48, 49, 50, 51, 52, 53, 54, 55, 56, 57]⟩ : ByteArray).extract 4 5 = ⟨#[UInt8.ofNat (48 + 4)]⟩ := dig_ext 4 (by omega)
  have hS2 : (⟨#[UInt8.ofNat (48 + 1)]⟩ : ByteArray) ++ (⟨#[UInt8.ofNat (48 + 4)]⟩ : ByteArray) = S := by rw [← hS]; rfl
  have hd := rdig_one 1 (by omega) _ rfl
  generalize (⟨#[UInt8.ofNat (48 + 4)]⟩ : ByteArray) = B at *
  have hw : IntKind.i64.wrap 5 = 5 := wrap_small _ (by omega) (by omega)
  have HD := Lib.hid hd
  have HS := Lib.hid hS2
  have HB := Lib.hid (Bs.mk0 w)
  replace HB := Bs.hdr HB
  have hz : B.size = 1 := by rw [← hx]; rfl
  have hsum : ¬ 9223372036854775807 < 1 + B.size := by omega
  clear hd hS hS2
  go_enter Tryd.func29, Tryd.ntmps29
  go_wp2_with fail
  go_region_held3 (fun w' => Bs w w') (first | exact HB.out)
    (first | (go_at_call 29; refine (HD.out _).mono ?_; rintro e w1 ⟨rfl, rfl⟩))
  go_wp2
  go_ret
  exact ⟨by rw [← HS.out]; rfl, HB.out⟩
set_option maxHeartbeats 2000000 in
set_option maxRecDepth 100000 in
theorem rdig_15 (S : ByteArray) (hS : (⟨#[UInt8.ofNat (48 + 1), UInt8.ofNat (48 + 5)]⟩ : ByteArray) = S) (w : World) : Calls Tryd.prog 29 #[.int .i64 15] w fun e w' => e = .returned (.string S) ∧ Below w.heap.size w w' := by
  have hx : (⟨#[48, 49, 50, 51, 52, 53, 54, 55, 56, 57]⟩ : ByteArray).extract 5 6 = ⟨#[UInt8.ofNat (48 + 5)]⟩ := dig_ext 5 (by omega)
  have hS2 : (⟨#[UInt8.ofNat (48 + 1)]⟩ : ByteArray) ++ (⟨#[UInt8.ofNat (48 + 5)]⟩ : ByteArray) = S := by rw [← hS]; rfl
  have hd := rdig_one 1 (by omega) _ rfl
  generalize (⟨#[UInt8.ofNat (48 + 5)]⟩ : ByteArray) = B at *
  have hw : IntKind.i64.wrap 6 = 6 := wrap_small _ (by omega) (by omega)
  have HD := Lib.hid hd
  have HS := Lib.hid hS2
  have HB := Lib.hid (Bs.mk0 w)
  replace HB := Bs.hdr HB
  have hz : B.size = 1 := by rw [← hx]; rfl
  have hsum : ¬ 9223372036854775807 < 1 + B.size := by omega
  clear hd hS hS2
  go_enter Tryd.func29, Tryd.ntmps29
  go_wp2_with fail
  go_region_held3 (fun w' => Bs w w') (first | exact HB.out)
    (first | (go_at_call 29; refine (HD.out _).mono ?_; rintro e w1 ⟨rfl, rfl⟩))
  go_wp2
  go_ret
  exact ⟨by rw [← HS.out]; rfl, HB.out⟩
set_option maxHeartbeats 2000000 in
set_option maxRecDepth 100000 in
theorem rdig_16 (S : ByteArray) (hS : (⟨#[UInt8.ofNat (48 + 1), UInt8.ofNat (48 + 6)]⟩ : ByteArray) = S) (w : World) : Calls Tryd.prog 29 #[.int .i64 16] w fun e w' => e = .returned (.string S) ∧ Below w.heap.size w w' := by
  have hx : (⟨#[48, 49, 50, 51, 52, 53, 54, 55, 56, 57]⟩ : ByteArray).extract 6 7 = ⟨#[UInt8.ofNat (48 + 6)]⟩ := dig_ext 6 (by omega)
  have hS2 : (⟨#[UInt8.ofNat (48 + 1)]⟩ : ByteArray) ++ (⟨#[UInt8.ofNat (48 + 6)]⟩ : ByteArray) = S := by rw [← hS]; rfl
  have hd := rdig_one 1 (by omega) _ rfl
  generalize (⟨#[UInt8.ofNat (48 + 6)]⟩ : ByteArray) = B at *
  have hw : IntKind.i64.wrap 7 = 7 := wrap_small _ (by omega) (by omega)
  have HD := Lib.hid hd
  have HS := Lib.hid hS2
  have HB := Lib.hid (Bs.mk0 w)
  replace HB := Bs.hdr HB
  have hz : B.size = 1 := by rw [← hx]; rfl
  have hsum : ¬ 9223372036854775807 < 1 + B.size := by omega
  clear hd hS hS2
  go_enter Tryd.func29, Tryd.ntmps29
  go_wp2_with fail
  go_region_held3 (fun w' => Bs w w') (first | exact HB.out)
    (first | (go_at_call 29; refine (HD.out _).mono ?_; rintro e w1 ⟨rfl, rfl⟩))
  go_wp2
  go_ret
  exact ⟨by rw [← HS.out]; rfl, HB.out⟩
set_option maxHeartbeats 2000000 in
set_option maxRecDepth 100000 in
theorem rdig_17 (S : ByteArray) (hS : (⟨#[UInt8.ofNat (48 + 1), UInt8.ofNat (48 + 7)]⟩ : ByteArray) = S) (w : World) : Calls Tryd.prog 29 #[.int .i64 17] w fun e w' => e = .returned (.string S) ∧ Below w.heap.size w w' := by
  have hx : (⟨#[48, 49, 50, 51, 52, 53, 54, 55, 56, 57]⟩ : ByteArray).extract 7 8 = ⟨#[UInt8.ofNat (48 + 7)]⟩ := dig_ext 7 (by omega)
  have hS2 : (⟨#[UInt8.ofNat (48 + 1)]⟩ : ByteArray) ++ (⟨#[UInt8.ofNat (48 + 7)]⟩ : ByteArray) = S := by rw [← hS]; rfl
  have hd := rdig_one 1 (by omega) _ rfl
  generalize (⟨#[UInt8.ofNat (48 + 7)]⟩ : ByteArray) = B at *
  have hw : IntKind.i64.wrap 8 = 8 := wrap_small _ (by omega) (by omega)
  have HD := Lib.hid hd
  have HS := Lib.hid hS2
  have HB := Lib.hid (Bs.mk0 w)
  replace HB := Bs.hdr HB
  have hz : B.size = 1 := by rw [← hx]; rfl
  have hsum : ¬ 9223372036854775807 < 1 + B.size := by omega
  clear hd hS hS2
  go_enter Tryd.func29, Tryd.ntmps29
  go_wp2_with fail
  go_region_held3 (fun w' => Bs w w') (first | exact HB.out)
    (first | (go_at_call 29; refine (HD.out _).mono ?_; rintro e w1 ⟨rfl, rfl⟩))
  go_wp2
  go_ret
  exact ⟨by rw [← HS.out]; rfl, HB.out⟩
set_option maxHeartbeats 2000000 in
set_option maxRecDepth 100000 in
theorem rdig_18 (S : ByteArray) (hS : (⟨#[UInt8.ofNat (48 + 1), UInt8.ofNat (48 + 8)]⟩ : ByteArray) = S) (w : World) : Calls Tryd.prog 29 #[.int .i64 18] w fun e w' => e = .returned (.string S) ∧ Below w.heap.size w w' := by
  have hx : (⟨#[48, 49, 50, 51, 52, 53, 54, 55, 56, 57]⟩ : ByteArray).extract 8 9 = ⟨#[UInt8.ofNat (48 + 8)]⟩ := dig_ext 8 (by omega)
  have hS2 : (⟨#[UInt8.ofNat (48 + 1)]⟩ : ByteArray) ++ (⟨#[UInt8.ofNat (48 + 8)]⟩ : ByteArray) = S := by rw [← hS]; rfl
  have hd := rdig_one 1 (by omega) _ rfl
  generalize (⟨#[UInt8.ofNat (48 + 8)]⟩ : ByteArray) = B at *
  have hw : IntKind.i64.wrap 9 = 9 := wrap_small _ (by omega) (by omega)
  have HD := Lib.hid hd
  have HS := Lib.hid hS2
  have HB := Lib.hid (Bs.mk0 w)
  replace HB := Bs.hdr HB
  have hz : B.size = 1 := by rw [← hx]; rfl
  have hsum : ¬ 9223372036854775807 < 1 + B.size := by omega
  clear hd hS hS2
  go_enter Tryd.func29, Tryd.ntmps29
  go_wp2_with fail
  go_region_held3 (fun w' => Bs w w') (first | exact HB.out)
    (first | (go_at_call 29; refine (HD.out _).mono ?_; rintro e w1 ⟨rfl, rfl⟩))
  go_wp2
  go_ret
  exact ⟨by rw [← HS.out]; rfl, HB.out⟩
set_option maxHeartbeats 2000000 in
set_option maxRecDepth 100000 in
theorem rdig_19 (S : ByteArray) (hS : (⟨#[UInt8.ofNat (48 + 1), UInt8.ofNat (48 + 9)]⟩ : ByteArray) = S) (w : World) : Calls Tryd.prog 29 #[.int .i64 19] w fun e w' => e = .returned (.string S) ∧ Below w.heap.size w w' := by
  have hx : (⟨#[48, 49, 50, 51, 52, 53, 54, 55, 56, 57]⟩ : ByteArray).extract 9 10 = ⟨#[UInt8.ofNat (48 + 9)]⟩ := dig_ext 9 (by omega)
  have hS2 : (⟨#[UInt8.ofNat (48 + 1)]⟩ : ByteArray) ++ (⟨#[UInt8.ofNat (48 + 9)]⟩ : ByteArray) = S := by rw [← hS]; rfl
  have hd := rdig_one 1 (by omega) _ rfl
  generalize (⟨#[UInt8.ofNat (48 + 9)]⟩ : ByteArray) = B at *
  have hw : IntKind.i64.wrap 10 = 10 := wrap_small _ (by omega) (by omega)
  have HD := Lib.hid hd
  have HS := Lib.hid hS2
  have HB := Lib.hid (Bs.mk0 w)
  replace HB := Bs.hdr HB
  have hz : B.size = 1 := by rw [← hx]; rfl
  have hsum : ¬ 9223372036854775807 < 1 + B.size := by omega
  clear hd hS hS2
  go_enter Tryd.func29, Tryd.ntmps29
  go_wp2_with fail
  go_region_held3 (fun w' => Bs w w') (first | exact HB.out)
    (first | (go_at_call 29; refine (HD.out _).mono ?_; rintro e w1 ⟨rfl, rfl⟩))
  go_wp2
  go_ret
  exact ⟨by rw [← HS.out]; rfl, HB.out⟩
set_option maxHeartbeats 2000000 in
set_option maxRecDepth 100000 in
theorem rdig_20 (S : ByteArray) (hS : (⟨#[UInt8.ofNat (48 + 2), UInt8.ofNat (48 + 0)]⟩ : ByteArray) = S) (w : World) : Calls Tryd.prog 29 #[.int .i64 20] w fun e w' => e = .returned (.string S) ∧ Below w.heap.size w w' := by
  have hx : (⟨#[48, 49, 50, 51, 52, 53, 54, 55, 56, 57]⟩ : ByteArray).extract 0 1 = ⟨#[UInt8.ofNat (48 + 0)]⟩ := dig_ext 0 (by omega)
  have hS2 : (⟨#[UInt8.ofNat (48 + 2)]⟩ : ByteArray) ++ (⟨#[UInt8.ofNat (48 + 0)]⟩ : ByteArray) = S := by rw [← hS]; rfl
  have hd := rdig_one 2 (by omega) _ rfl
  generalize (⟨#[UInt8.ofNat (48 + 0)]⟩ : ByteArray) = B at *
  have hw : IntKind.i64.wrap 1 = 1 := wrap_small _ (by omega) (by omega)
  have HD := Lib.hid hd
  have HS := Lib.hid hS2
  have HB := Lib.hid (Bs.mk0 w)
  replace HB := Bs.hdr HB
  have hz : B.size = 1 := by rw [← hx]; rfl
  have hsum : ¬ 9223372036854775807 < 1 + B.size := by omega
  clear hd hS hS2
  go_enter Tryd.func29, Tryd.ntmps29
  go_wp2_with fail
  go_region_held3 (fun w' => Bs w w') (first | exact HB.out)
    (first | (go_at_call 29; refine (HD.out _).mono ?_; rintro e w1 ⟨rfl, rfl⟩))
  go_wp2
  go_ret
  exact ⟨by rw [← HS.out]; rfl, HB.out⟩
set_option maxHeartbeats 2000000 in
set_option maxRecDepth 100000 in
theorem rdig_21 (S : ByteArray) (hS : (⟨#[UInt8.ofNat (48 + 2), UInt8.ofNat (48 + 1)]⟩ : ByteArray) = S) (w : World) : Calls Tryd.prog 29 #[.int .i64 21] w fun e w' => e = .returned (.string S) ∧ Below w.heap.size w w' := by
  have hx : (⟨#[48, 49, 50, 51, 52, 53, 54, 55, 56, 57]⟩ : ByteArray).extract 1 2 = ⟨#[UInt8.ofNat (48 + 1)]⟩ := dig_ext 1 (by omega)
  have hS2 : (⟨#[UInt8.ofNat (48 + 2)]⟩ : ByteArray) ++ (⟨#[UInt8.ofNat (48 + 1)]⟩ : ByteArray) = S := by rw [← hS]; rfl
  have hd := rdig_one 2 (by omega) _ rfl
  generalize (⟨#[UInt8.ofNat (48 + 1)]⟩ : ByteArray) = B at *
  have hw : IntKind.i64.wrap 2 = 2 := wrap_small _ (by omega) (by omega)
  have HD := Lib.hid hd
  have HS := Lib.hid hS2
  have HB := Lib.hid (Bs.mk0 w)
  replace HB := Bs.hdr HB
  have hz : B.size = 1 := by rw [← hx]; rfl
  have hsum : ¬ 9223372036854775807 < 1 + B.size := by omega
  clear hd hS hS2
  go_enter Tryd.func29, Tryd.ntmps29
  go_wp2_with fail
  go_region_held3 (fun w' => Bs w w') (first | exact HB.out)
    (first | (go_at_call 29; refine (HD.out _).mono ?_; rintro e w1 ⟨rfl, rfl⟩))
  go_wp2
  go_ret
  exact ⟨by rw [← HS.out]; rfl, HB.out⟩
set_option maxHeartbeats 2000000 in
set_option maxRecDepth 100000 in
theorem rdig_22 (S : ByteArray) (hS : (⟨#[UInt8.ofNat (48 + 2), UInt8.ofNat (48 + 2)]⟩ : ByteArray) = S) (w : World) : Calls Tryd.prog 29 #[.int .i64 22] w fun e w' => e = .returned (.string S) ∧ Below w.heap.size w w' := by
  have hx : (⟨#[48, 49, 50, 51, 52, 53, 54, 55, 56, 57]⟩ : ByteArray).extract 2 3 = ⟨#[UInt8.ofNat (48 + 2)]⟩ := dig_ext 2 (by omega)
  have hS2 : (⟨#[UInt8.ofNat (48 + 2)]⟩ : ByteArray) ++ (⟨#[UInt8.ofNat (48 + 2)]⟩ : ByteArray) = S := by rw [← hS]; rfl
  have hd := rdig_one 2 (by omega) _ rfl
  generalize (⟨#[UInt8.ofNat (48 + 2)]⟩ : ByteArray) = B at *
  have hw : IntKind.i64.wrap 3 = 3 := wrap_small _ (by omega) (by omega)
  have HD := Lib.hid hd
  have HS := Lib.hid hS2
  have HB := Lib.hid (Bs.mk0 w)
  replace HB := Bs.hdr HB
  have hz : B.size = 1 := by rw [← hx]; rfl
  have hsum : ¬ 9223372036854775807 < 1 + B.size := by omega
  clear hd hS hS2
  go_enter Tryd.func29, Tryd.ntmps29
  go_wp2_with fail
  go_region_held3 (fun w' => Bs w w') (first | exact HB.out)
    (first | (go_at_call 29; refine (HD.out _).mono ?_; rintro e w1 ⟨rfl, rfl⟩))
  go_wp2
  go_ret
  exact ⟨by rw [← HS.out]; rfl, HB.out⟩
set_option maxHeartbeats 2000000 in
set_option maxRecDepth 100000 in
theorem rdig_23 (S : ByteArray) (hS : (⟨#[UInt8.ofNat (48 + 2), UInt8.ofNat (48 + 3)]⟩ : ByteArray) = S) (w : World) : Calls Tryd.prog 29 #[.int .i64 23] w fun e w' => e = .returned (.string S) ∧ Below w.heap.size w w' := by
  have hx : (⟨#[48, 49, 50, 51, 52, 53, 54, 55, 56, 57]⟩ : ByteArray).extract 3 4 = ⟨#[UInt8.ofNat (48 + 3)]⟩ := dig_ext 3 (by omega)
  have hS2 : (⟨#[UInt8.ofNat (48 + 2)]⟩ : ByteArray) ++ (⟨#[UInt8.ofNat (48 + 3)]⟩ : ByteArray) = S := by rw [← hS]; rfl
  have hd := rdig_one 2 (by omega) _ rfl
  generalize (⟨#[UInt8.ofNat (48 + 3)]⟩ : ByteArray) = B at *
  have hw : IntKind.i64.wrap 4 = 4 := wrap_small _ (by omega) (by omega)
  have HD := Lib.hid hd
  have HS := Lib.hid hS2
  have HB := Lib.hid (Bs.mk0 w)
  replace HB := Bs.hdr HB
  have hz : B.size = 1 := by rw [← hx]; rfl
  have hsum : ¬ 9223372036854775807 < 1 + B.size := by omega
  clear hd hS hS2
  go_enter Tryd.func29, Tryd.ntmps29
  go_wp2_with fail
  go_region_held3 (fun w' => Bs w w') (first | exact HB.out)
    (first | (go_at_call 29; refine (HD.out _).mono ?_; rintro e w1 ⟨rfl, rfl⟩))
  go_wp2
  go_ret
  exact ⟨by rw [← HS.out]; rfl, HB.out⟩
set_option maxHeartbeats 2000000 in
set_option maxRecDepth 100000 in
theorem rdig_24 (S : ByteArray) (hS : (⟨#[UInt8.ofNat (48 + 2), UInt8.ofNat (48 + 4)]⟩ : ByteArray) = S) (w : World) : Calls Tryd.prog 29 #[.int .i64 24] w fun e w' => e = .returned (.string S) ∧ Below w.heap.size w w' := by
  have hx : (⟨#[48, 49, 50, 51, 52, 53, 54, 55, 56, 57]⟩ : ByteArray).extract 4 5 = ⟨#[UInt8.ofNat (48 + 4)]⟩ := dig_ext 4 (by omega)
  have hS2 : (⟨#[UInt8.ofNat (48 + 2)]⟩ : ByteArray) ++ (⟨#[UInt8.ofNat (48 + 4)]⟩ : ByteArray) = S := by rw [← hS]; rfl
  have hd := rdig_one 2 (by omega) _ rfl
  generalize (⟨#[UInt8.ofNat (48 + 4)]⟩ : ByteArray) = B at *
  have hw : IntKind.i64.wrap 5 = 5 := wrap_small _ (by omega) (by omega)
  have HD := Lib.hid hd
  have HS := Lib.hid hS2
  have HB := Lib.hid (Bs.mk0 w)
  replace HB := Bs.hdr HB
  have hz : B.size = 1 := by rw [← hx]; rfl
  have hsum : ¬ 9223372036854775807 < 1 + B.size := by omega
  clear hd hS hS2
  go_enter Tryd.func29, Tryd.ntmps29
  go_wp2_with fail
  go_region_held3 (fun w' => Bs w w') (first | exact HB.out)
    (first | (go_at_call 29; refine (HD.out _).mono ?_; rintro e w1 ⟨rfl, rfl⟩))
  go_wp2
  go_ret
  exact ⟨by rw [← HS.out]; rfl, HB.out⟩
set_option maxHeartbeats 2000000 in
set_option maxRecDepth 100000 in
theorem rdig_25 (S : ByteArray) (hS : (⟨#[UInt8.ofNat (48 + 2), UInt8.ofNat (48 + 5)]⟩ : ByteArray) = S) (w : World) : Calls Tryd.prog 29 #[.int .i64 25] w fun e w' => e = .returned (.string S) ∧ Below w.heap.size w w' := by
  have hx : (⟨#[48, 49, 50, 51, 52, 53, 54, 55, 56, 57]⟩ : ByteArray).extract 5 6 = ⟨#[UInt8.ofNat (48 + 5)]⟩ := dig_ext 5 (by omega)
  have hS2 : (⟨#[UInt8.ofNat (48 + 2)]⟩ : ByteArray) ++ (⟨#[UInt8.ofNat (48 + 5)]⟩ : ByteArray) = S := by rw [← hS]; rfl
  have hd := rdig_one 2 (by omega) _ rfl
  generalize (⟨#[UInt8.ofNat (48 + 5)]⟩ : ByteArray) = B at *
  have hw : IntKind.i64.wrap 6 = 6 := wrap_small _ (by omega) (by omega)
  have HD := Lib.hid hd
  have HS := Lib.hid hS2
  have HB := Lib.hid (Bs.mk0 w)
  replace HB := Bs.hdr HB
  have hz : B.size = 1 := by rw [← hx]; rfl
  have hsum : ¬ 9223372036854775807 < 1 + B.size := by omega
  clear hd hS hS2
  go_enter Tryd.func29, Tryd.ntmps29
  go_wp2_with fail
  go_region_held3 (fun w' => Bs w w') (first | exact HB.out)
    (first | (go_at_call 29; refine (HD.out _).mono ?_; rintro e w1 ⟨rfl, rfl⟩))
  go_wp2
  go_ret
  exact ⟨by rw [← HS.out]; rfl, HB.out⟩
set_option maxHeartbeats 2000000 in
set_option maxRecDepth 100000 in
theorem rdig_26 (S : ByteArray) (hS : (⟨#[UInt8.ofNat (48 + 2), UInt8.ofNat (48 + 6)]⟩ : ByteArray) = S) (w : World) : Calls Tryd.prog 29 #[.int .i64 26] w fun e w' => e = .returned (.string S) ∧ Below w.heap.size w w' := by
  have hx : (⟨#[48, 49, 50, 51, 52, 53, 54, 55, 56, 57]⟩ : ByteArray).extract 6 7 = ⟨#[UInt8.ofNat (48 + 6)]⟩ := dig_ext 6 (by omega)
  have hS2 : (⟨#[UInt8.ofNat (48 + 2)]⟩ : ByteArray) ++ (⟨#[UInt8.ofNat (48 + 6)]⟩ : ByteArray) = S := by rw [← hS]; rfl
  have hd := rdig_one 2 (by omega) _ rfl
  generalize (⟨#[UInt8.ofNat (48 + 6)]⟩ : ByteArray) = B at *
  have hw : IntKind.i64.wrap 7 = 7 := wrap_small _ (by omega) (by omega)
  have HD := Lib.hid hd
  have HS := Lib.hid hS2
  have HB := Lib.hid (Bs.mk0 w)
  replace HB := Bs.hdr HB
  have hz : B.size = 1 := by rw [← hx]; rfl
  have hsum : ¬ 9223372036854775807 < 1 + B.size := by omega
  clear hd hS hS2
  go_enter Tryd.func29, Tryd.ntmps29
  go_wp2_with fail
  go_region_held3 (fun w' => Bs w w') (first | exact HB.out)
    (first | (go_at_call 29; refine (HD.out _).mono ?_; rintro e w1 ⟨rfl, rfl⟩))
  go_wp2
  go_ret
  exact ⟨by rw [← HS.out]; rfl, HB.out⟩
set_option maxHeartbeats 2000000 in
set_option maxRecDepth 100000 in
theorem rdig_27 (S : ByteArray) (hS : (⟨#[UInt8.ofNat (48 + 2), UInt8.ofNat (48 + 7)]⟩ : ByteArray) = S) (w : World) : Calls Tryd.prog 29 #[.int .i64 27] w fun e w' => e = .returned (.string S) ∧ Below w.heap.size w w' := by
  have hx : (⟨#[48, 49, 50, 51, 52, 53, 54, 55, 56, 57]⟩ : ByteArray).extract 7 8 = ⟨#[UInt8.ofNat (48 + 7)]⟩ := dig_ext 7 (by omega)
  have hS2 : (⟨#[UInt8.ofNat (48 + 2)]⟩ : ByteArray) ++ (⟨#[UInt8.ofNat (48 + 7)]⟩ : ByteArray) = S := by rw [← hS]; rfl
  have hd := rdig_one 2 (by omega) _ rfl
  generalize (⟨#[UInt8.ofNat (48 + 7)]⟩ : ByteArray) = B at *
  have hw : IntKind.i64.wrap 8 = 8 := wrap_small _ (by omega) (by omega)
  have HD := Lib.hid hd
  have HS := Lib.hid hS2
  have HB := Lib.hid (Bs.mk0 w)
  replace HB := Bs.hdr HB
  have hz : B.size = 1 := by rw [← hx]; rfl
  have hsum : ¬ 9223372036854775807 < 1 + B.size := by omega
  clear hd hS hS2
  go_enter Tryd.func29, Tryd.ntmps29
  go_wp2_with fail
  go_region_held3 (fun w' => Bs w w') (first | exact HB.out)
    (first | (go_at_call 29; refine (HD.out _).mono ?_; rintro e w1 ⟨rfl, rfl⟩))
  go_wp2
  go_ret
  exact ⟨by rw [← HS.out]; rfl, HB.out⟩
set_option maxHeartbeats 2000000 in
set_option maxRecDepth 100000 in
theorem rdig_28 (S : ByteArray) (hS : (⟨#[UInt8.ofNat (48 + 2), UInt8.ofNat (48 + 8)]⟩ : ByteArray) = S) (w : World) : Calls Tryd.prog 29 #[.int .i64 28] w fun e w' => e = .returned (.string S) ∧ Below w.heap.size w w' := by
  have hx : (⟨#[48, 49, 50, 51, 52, 53, 54, 55, 56, 57]⟩ : ByteArray).extract 8 9 = ⟨#[UInt8.ofNat (48 + 8)]⟩ := dig_ext 8 (by omega)
  have hS2 : (⟨#[UInt8.ofNat (48 + 2)]⟩ : ByteArray) ++ (⟨#[UInt8.ofNat (48 + 8)]⟩ : ByteArray) = S := by rw [← hS]; rfl
  have hd := rdig_one 2 (by omega) _ rfl
  generalize (⟨#[UInt8.ofNat (48 + 8)]⟩ : ByteArray) = B at *
  have hw : IntKind.i64.wrap 9 = 9 := wrap_small _ (by omega) (by omega)
  have HD := Lib.hid hd
  have HS := Lib.hid hS2
  have HB := Lib.hid (Bs.mk0 w)
  replace HB := Bs.hdr HB
  have hz : B.size = 1 := by rw [← hx]; rfl
  have hsum : ¬ 9223372036854775807 < 1 + B.size := by omega
  clear hd hS hS2
  go_enter Tryd.func29, Tryd.ntmps29
  go_wp2_with fail
  go_region_held3 (fun w' => Bs w w') (first | exact HB.out)
    (first | (go_at_call 29; refine (HD.out _).mono ?_; rintro e w1 ⟨rfl, rfl⟩))
  go_wp2
  go_ret
  exact ⟨by rw [← HS.out]; rfl, HB.out⟩
set_option maxHeartbeats 2000000 in
set_option maxRecDepth 100000 in
theorem rdig_29 (S : ByteArray) (hS : (⟨#[UInt8.ofNat (48 + 2), UInt8.ofNat (48 + 9)]⟩ : ByteArray) = S) (w : World) : Calls Tryd.prog 29 #[.int .i64 29] w fun e w' => e = .returned (.string S) ∧ Below w.heap.size w w' := by
  have hx : (⟨#[48, 49, 50, 51, 52, 53, 54, 55, 56, 57]⟩ : ByteArray).extract 9 10 = ⟨#[UInt8.ofNat (48 + 9)]⟩ := dig_ext 9 (by omega)
  have hS2 : (⟨#[UInt8.ofNat (48 + 2)]⟩ : ByteArray) ++ (⟨#[UInt8.ofNat (48 + 9)]⟩ : ByteArray) = S := by rw [← hS]; rfl
  have hd := rdig_one 2 (by omega) _ rfl
  generalize (⟨#[UInt8.ofNat (48 + 9)]⟩ : ByteArray) = B at *
  have hw : IntKind.i64.wrap 10 = 10 := wrap_small _ (by omega) (by omega)
  have HD := Lib.hid hd
  have HS := Lib.hid hS2
  have HB := Lib.hid (Bs.mk0 w)
  replace HB := Bs.hdr HB
  have hz : B.size = 1 := by rw [← hx]; rfl
  have hsum : ¬ 9223372036854775807 < 1 + B.size := by omega
  clear hd hS hS2
  go_enter Tryd.func29, Tryd.ntmps29
  go_wp2_with fail
  go_region_held3 (fun w' => Bs w w') (first | exact HB.out)
    (first | (go_at_call 29; refine (HD.out _).mono ?_; rintro e w1 ⟨rfl, rfl⟩))
  go_wp2
  go_ret
  exact ⟨by rw [← HS.out]; rfl, HB.out⟩
set_option maxHeartbeats 2000000 in
set_option maxRecDepth 100000 in
theorem rdig_30 (S : ByteArray) (hS : (⟨#[UInt8.ofNat (48 + 3), UInt8.ofNat (48 + 0)]⟩ : ByteArray) = S) (w : World) : Calls Tryd.prog 29 #[.int .i64 30] w fun e w' => e = .returned (.string S) ∧ Below w.heap.size w w' := by
  have hx : (⟨#[48, 49, 50, 51, 52, 53, 54, 55, 56, 57]⟩ : ByteArray).extract 0 1 = ⟨#[UInt8.ofNat (48 + 0)]⟩ := dig_ext 0 (by omega)
  have hS2 : (⟨#[UInt8.ofNat (48 + 3)]⟩ : ByteArray) ++ (⟨#[UInt8.ofNat (48 + 0)]⟩ : ByteArray) = S := by rw [← hS]; rfl
  have hd := rdig_one 3 (by omega) _ rfl
  generalize (⟨#[UInt8.ofNat (48 + 0)]⟩ : ByteArray) = B at *
  have hw : IntKind.i64.wrap 1 = 1 := wrap_small _ (by omega) (by omega)
  have HD := Lib.hid hd
  have HS := Lib.hid hS2
  have HB := Lib.hid (Bs.mk0 w)
  replace HB := Bs.hdr HB
  have hz : B.size = 1 := by rw [← hx]; rfl
  have hsum : ¬ 9223372036854775807 < 1 + B.size := by omega
  clear hd hS hS2
  go_enter Tryd.func29, Tryd.ntmps29
  go_wp2_with fail
  go_region_held3 (fun w' => Bs w w') (first | exact HB.out)
    (first | (go_at_call 29; refine (HD.out _).mono ?_; rintro e w1 ⟨rfl, rfl⟩))
  go_wp2
  go_ret
  exact ⟨by rw [← HS.out]; rfl, HB.out⟩
set_option maxHeartbeats 2000000 in
set_option maxRecDepth 100000 in
theorem rdig_31 (S : ByteArray) (hS : (⟨#[UInt8.ofNat (48 + 3), UInt8.ofNat (48 + 1)]⟩ : ByteArray) = S) (w : World) : Calls Tryd.prog 29 #[.int .i64 31] w fun e w' => e = .returned (.string S) ∧ Below w.heap.size w w' := by
  have hx : (⟨#[48, 49, 50, 51, 52, 53, 54, 55, 56, 57]⟩ : ByteArray).extract 1 2 = ⟨#[UInt8.ofNat (48 + 1)]⟩ := dig_ext 1 (by omega)
  have hS2 : (⟨#[UInt8.ofNat (48 + 3)]⟩ : ByteArray) ++ (⟨#[UInt8.ofNat (48 + 1)]⟩ : ByteArray) = S := by rw [← hS]; rfl
  have hd := rdig_one 3 (by omega) _ rfl
  generalize (⟨#[UInt8.ofNat (48 + 1)]⟩ : ByteArray) = B at *
  have hw : IntKind.i64.wrap 2 = 2 := wrap_small _ (by omega) (by omega)
  have HD := Lib.hid hd
  have HS := Lib.hid hS2
  have HB := Lib.hid (Bs.mk0 w)
  replace HB := Bs.hdr HB
  have hz : B.size = 1 := by rw [← hx]; rfl
  have hsum : ¬ 9223372036854775807 < 1 + B.size := by omega
  clear hd hS hS2
  go_enter Tryd.func29, Tryd.ntmps29
  go_wp2_with fail
  go_region_held3 (fun w' => Bs w w') (first | exact HB.out)
    (first | (go_at_call 29; refine (HD.out _).mono ?_; rintro e w1 ⟨rfl, rfl⟩))
  go_wp2
  go_ret
  exact ⟨by rw [← HS.out]; rfl, HB.out⟩
theorem rdig_any (d : Int) (h : 0 ≤ d ∧ d < 32) (S : ByteArray) (hS : Hid (decB d = S)) (w : World) : Calls Tryd.prog 29 #[.int .i64 d] w fun e w' => e = .returned (.string S) ∧ Below w.heap.size w w' := by
  obtain ⟨n, rfl⟩ : ∃ n : Nat, d = (n : Int) := ⟨d.toNat, by omega⟩
  have hs := hS.out
  unfold decB dcl at hs
  rw [Int.toNat_natCast] at hs
  by_cases h1 : n < 10
  · rw [if_pos h1] at hs
    exact (rdig_one n h1 S hs w).mono fun e w' ⟨h2, h3⟩ => ⟨h2, h3 ▸ Below.refl _ _⟩
  · rw [if_neg h1] at hs
    have hc : n = 10 ∨ n = 11 ∨ n = 12 ∨ n = 13 ∨ n = 14 ∨ n = 15 ∨ n = 16 ∨ n = 17 ∨ n = 18 ∨ n = 19 ∨ n = 20 ∨ n = 21 ∨ n = 22 ∨ n = 23 ∨ n = 24 ∨ n = 25 ∨ n = 26 ∨ n = 27 ∨ n = 28 ∨ n = 29 ∨ n = 30 ∨ n = 31 := by omega
    rcases hc with rfl | rfl | rfl | rfl | rfl | rfl | rfl | rfl | rfl | rfl | rfl | rfl | rfl | rfl | rfl | rfl | rfl | rfl | rfl | rfl | rfl | rfl
    · exact rdig_10 S hs w
    · exact rdig_11 S hs w
    · exact rdig_12 S hs w
    · exact rdig_13 S hs w
    · exact rdig_14 S hs w
    · exact rdig_15 S hs w
    · exact rdig_16 S hs w
    · exact rdig_17 S hs w
    · exact rdig_18 S hs w
    · exact rdig_19 S hs w
    · exact rdig_20 S hs w
    · exact rdig_21 S hs w
    · exact rdig_22 S hs w
    · exact rdig_23 S hs w
    · exact rdig_24 S hs w
    · exact rdig_25 S hs w
    · exact rdig_26 S hs w
    · exact rdig_27 S hs w
    · exact rdig_28 S hs w
    · exact rdig_29 S hs w
    · exact rdig_30 S hs w
    · exact rdig_31 S hs w
set_option maxRecDepth 100000 in
set_option maxHeartbeats 4000000 in
theorem rPrint_no {w : World} (k wk d : Int) (h : Dfm.okD k wk d = false) : Calls Tryd.prog 11 #[.agg #[.int .i64 k, .int .i64 wk, .int .i64 d]] w fun e w' => e = .returned (.tuple #[.string ⟨#[]⟩, .int .i64 2]) ∧ Below w.heap.size w w' := by
  have HC := Bs.hal (Lib.hid (Bs.mk0 w)) (.cells #[.int .i64 k, .int .i64 wk, .int .i64 d] 23)
  have HX := Lib.hid (show (if Dfm.okD k wk d = true then (0 : Int) else 2) = 2 by rw [h]; rfl)
  clear h
  go_enter Tryd.func11, Tryd.ntmps11
  go_wp2_with fail
  refine (rcheck_at k wk d 2 HX.out _).mono ?_; rintro e w1 ⟨rfl, hb⟩; replace HC := Bs.hbl HC hb; clear hb
  go_wp2
  go_ret2
  exact ⟨rfl, HC.out⟩
set_option maxRecDepth 100000 in
set_option maxHeartbeats 8000000 in
theorem rPrint_yes {w : World} (k wk d : Int) (h : Dfm.okD k wk d = true) (S : ByteArray) (hS : Hid (prnt k wk d = (S, 0))) : Calls Tryd.prog 11 #[.agg #[.int .i64 k, .int .i64 wk, .int .i64 d]] w fun e w' => e = .returned (.tuple #[.string S, .int .i64 0]) ∧ Below w.heap.size w w' := by
  have HC := Bs.hal (Lib.hid (Bs.mk0 w)) (.cells #[.int .i64 k, .int .i64 wk, .int .i64 d] 23)
  have hs := Cs.new w [.int .i64 k, .int .i64 wk, .int .i64 d] 23
  have HX := Lib.hid (show (if Dfm.okD k wk d = true then (0 : Int) else 2) = 0 by rw [h]; rfl)
  obtain ⟨b1, b2, b3, b4, b5, b6⟩ := Dfm.ok_bd _ _ _ h
  have hP := hS.out
  unfold prnt at hP
  rw [if_pos h] at hP
  have hP2 := congrArg Prod.fst hP
  dsimp only at hP2
  have hT := txt_size wk.toNat (by omega)
  rw [Int.toNat_of_nonneg b3] at hT
  have hD := decB_size d
  obtain ⟨T, eT⟩ : ∃ T, txt weeksL wk = T := ⟨_, rfl⟩
  obtain ⟨D, eD⟩ : ∃ D, decB d = D := ⟨_, rfl⟩
  have hit := rdig_any d (by omega) D (Lib.hid eD)
  rw [eT] at hP2 hT
  rw [eD] at hP2 hD
  have HI := Lib.hid hit
  have HT := Lib.hid eT
  have HP := Lib.hid hP2
  have s1' : ¬ 9223372036854775807 < 4 + T.size := by omega
  have s2 : ¬ 9223372036854775807 < T.size + 2 := by omega
  have s3 : ¬ 9223372036854775807 < T.size + 2 + D.size := by omega
  have hkk := kk k (by omega)
  clear hP hP2 eT eD hit h hS b1 b2 b3 b4 b5 b6
  rcases hkk with rfl | rfl | rfl | rfl
  · have hs2 := Lib.hid hs
    have hP3 := HP.out
    have hP4 : D = S := by rw [← hP3]; rfl
    have HS := Lib.hid hP4
    clear hP3 hP4
    go_enter Tryd.func11, Tryd.ntmps11
    go_wp2_with fail
    refine (rcheck_at 1 wk d 0 HX.out _).mono ?_; rintro e w1 ⟨rfl, hb⟩
    replace HC := Bs.hbl HC hb
    replace hs2 := Cs.hbl hs2 hb
    clear hb hs
    have p0 := hs2.out.at 0 rfl
    have p1 := hs2.out.at 1 rfl
    have p2 := hs2.out.at 2 rfl
    go_wp2_with fail
    refine (rWeekText_any wk T HT _).mono ?_; rintro e w2 ⟨rfl, hb⟩
    replace HC := Bs.hbl HC hb
    replace hs2 := Cs.hbl hs2 hb
    clear hb p0 p1 p2
    have p0 := hs2.out.at 0 rfl
    have p1 := hs2.out.at 1 rfl
    have p2 := hs2.out.at 2 rfl
    go_wp2_with fail
    refine (HI.out _).mono ?_; rintro e w3 ⟨rfl, hb⟩
    replace HC := Bs.hbl HC hb
    go_wp2
    rw [HS.out]
    go_ret2
    exact ⟨rfl, HC.out⟩
  · have hs2 := Lib.hid hs
    have hP3 := HP.out
    have hP4 : (⟨#[108, 97, 115, 116]⟩ : ByteArray) ++ T = S := by rw [← hP3]; rfl
    have HS := Lib.hid hP4
    clear hP3 hP4
    go_enter Tryd.func11, Tryd.ntmps11
    go_wp2_with fail
    refine (rcheck_at 2 wk d 0 HX.out _).mono ?_; rintro e w1 ⟨rfl, hb⟩
    replace HC := Bs.hbl HC hb
    replace hs2 := Cs.hbl hs2 hb
    clear hb hs
    have p0 := hs2.out.at 0 rfl
    have p1 := hs2.out.at 1 rfl
    have p2 := hs2.out.at 2 rfl
    go_wp2_with fail
    refine (rWeekText_any wk T HT _).mono ?_; rintro e w2 ⟨rfl, hb⟩
    replace HC := Bs.hbl HC hb
    replace hs2 := Cs.hbl hs2 hb
    clear hb p0 p1 p2
    have p0 := hs2.out.at 0 rfl
    have p1 := hs2.out.at 1 rfl
    have p2 := hs2.out.at 2 rfl
    go_wp2
    rw [HS.out]
    go_ret2
    exact ⟨rfl, HC.out⟩
  · have hs2 := Lib.hid hs
    have hP3 := HP.out
    have hP4 : (T ++ (⟨#[62, 61]⟩ : ByteArray)) ++ D = S := by rw [← hP3]; rfl
    have HS := Lib.hid hP4
    clear hP3 hP4
    go_enter Tryd.func11, Tryd.ntmps11
    go_wp2_with fail
    refine (rcheck_at 3 wk d 0 HX.out _).mono ?_; rintro e w1 ⟨rfl, hb⟩
    replace HC := Bs.hbl HC hb
    replace hs2 := Cs.hbl hs2 hb
    clear hb hs
    have p0 := hs2.out.at 0 rfl
    have p1 := hs2.out.at 1 rfl
    have p2 := hs2.out.at 2 rfl
    go_wp2_with fail
    refine (rWeekText_any wk T HT _).mono ?_; rintro e w2 ⟨rfl, hb⟩
    replace HC := Bs.hbl HC hb
    replace hs2 := Cs.hbl hs2 hb
    clear hb p0 p1 p2
    have p0 := hs2.out.at 0 rfl
    have p1 := hs2.out.at 1 rfl
    have p2 := hs2.out.at 2 rfl
    go_wp2_with fail
    refine (HI.out _).mono ?_; rintro e w3 ⟨rfl, hb⟩
    replace HC := Bs.hbl HC hb
    go_wp2
    rw [HS.out]
    go_ret2
    exact ⟨rfl, HC.out⟩
  · have hs2 := Lib.hid hs
    have hP3 := HP.out
    have hP4 : (T ++ (⟨#[60, 61]⟩ : ByteArray)) ++ D = S := by rw [← hP3]; rfl
    have HS := Lib.hid hP4
    clear hP3 hP4
    go_enter Tryd.func11, Tryd.ntmps11
    go_wp2_with fail
    refine (rcheck_at 4 wk d 0 HX.out _).mono ?_; rintro e w1 ⟨rfl, hb⟩
    replace HC := Bs.hbl HC hb
    replace hs2 := Cs.hbl hs2 hb
    clear hb hs
    have p0 := hs2.out.at 0 rfl
    have p1 := hs2.out.at 1 rfl
    have p2 := hs2.out.at 2 rfl
    go_wp2_with fail
    refine (rWeekText_any wk T HT _).mono ?_; rintro e w2 ⟨rfl, hb⟩
    replace HC := Bs.hbl HC hb
    replace hs2 := Cs.hbl hs2 hb
    clear hb p0 p1 p2
    have p0 := hs2.out.at 0 rfl
    have p1 := hs2.out.at 1 rfl
    have p2 := hs2.out.at 2 rfl
    go_wp2_with fail
    refine (HI.out _).mono ?_; rintro e w3 ⟨rfl, hb⟩
    replace HC := Bs.hbl HC hb
    go_wp2
    rw [HS.out]
    go_ret2
    exact ⟨rfl, HC.out⟩
/-- the document's Print -/
theorem rPrint_any (k wk d : Int) (S : ByteArray) (e : Int) (hS : Hid (prnt k wk d = (S, e))) (w : World) : Calls Tryd.prog 11 #[.agg #[.int .i64 k, .int .i64 wk, .int .i64 d]] w fun x w' => x = .returned (.tuple #[.string S, .int .i64 e]) ∧ Below w.heap.size w w' := by
  cases h : Dfm.okD k wk d with
  | true =>
    have he : e = 0 := by
      have := hS.out
      unfold prnt at this
      rw [if_pos h] at this
      exact (congrArg Prod.snd this).symm
    subst he
    exact rPrint_yes k wk d h S hS
  | false =>
    have := hS.out
    unfold prnt at this
    rw [h, if_neg (by decide)] at this
    obtain ⟨rfl, rfl⟩ := Prod.mk.inj this
    exact rPrint_no k wk d h
end Go.Proofs.YtedcfnaphfgfjaaDoor
