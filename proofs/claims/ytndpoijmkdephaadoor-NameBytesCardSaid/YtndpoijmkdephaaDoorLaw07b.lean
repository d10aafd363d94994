/- The walk of NameParts. -/
import Derived.Test.YtndpoijmkdephaaDoorLaw07a
import Derived.Test.YtndpoijmkdephaaDoorLxl
namespace Go.Proofs.YtndpoijmkdephaaDoor
open Go.RowKit
theorem split_slash7 (s : ByteArray) (P : List ByteArray) (hP : (Lx.split 47 s.data.toList).map Lx.bs = P) (hs : s.size ≤ 100000000) (w : World) (hM : MaxW w) : Calls Tryd.prog 17 #[.string s, .string ⟨#[47]⟩] w fun e w' => e = .returned (.slice (some ⟨w.heap.size, 0, none⟩) P.length P.length) ∧ w.alloc (.cells (P.map Value.string).toArray 9) = w' := by
  obtain ⟨m, hm⟩ := hM
  subst hP
  refine (Tryd.strings_Split s ⟨#[47]⟩ m w (by omega) hm (Nat.le_refl 1)).mono ?_
  rintro e w' ⟨rfl, rfl⟩
  rw [Lx.countB_split, Lx.splitB_split, List.length_map]
  exact ⟨rfl, rfl⟩
theorem rep7_s {W0 w : World} (s : ByteArray) (x : Int) (n : Nat) (hx : x = (n : Int)) (hn : s.size * n ≤ 100000000) (hn2 : n ≤ 100000000) (S : ByteArray) (hS : Hid (Lx.bs (Lib.repeatL s.data.toList n) = S)) (HC : Hid (Ns W0 w)) : Calls Tryd.prog 18 #[.string s, .int .i64 x] w fun e w' => e = .returned (.string S) ∧ Below w.heap.size w w' ∧ Hid (Ns W0 w') := by
  subst hx
  refine (Tryd.strings_Repeat s n w (by omega) (by omega)).mono ?_
  rintro e w' ⟨rfl, hb⟩
  exact ⟨by rw [← hS.out]; rfl, hb, Ns.hbl HC hb⟩
theorem zone7_s {W0 w : World} (v : Value) (D : List (List UInt8)) (hD : Hid (∀ l ∈ D, l.length ≤ maxLen)) (hz : Hid (D.length ≤ maxLen)) (S : ByteArray) (hS : Hid (Lx.bs (Nm.zoneS D) = S)) (hI : Drf w v D) (HC : Hid (Ns W0 w)) :
    Calls Tryd.prog 16 #[v] w fun e w' => e = .returned (.string S) ∧ Below w.heap.size w w' ∧ Hid (Ns W0 w') := by
  refine (zone7_any v D hD.out hz.out S hS.out w hI).mono ?_
  rintro e w' ⟨rfl, hd⟩
  exact ⟨rfl, hd.below, Ns.hbl HC hd.below⟩
namespace Nm
theorem zr_rep4 (j : Nat) : zr 0 (Lib.repeatL [97, 98, 99, 47] j ++ [97, 98, 99, 100]) = true := by
  induction j with
  | zero => decide +kernel
  | succ j ih =>
    have e : Lib.repeatL [97, 98, 99, 47] (j + 1) ++ [97, 98, 99, 100] = [97, 98, 99] ++ 47 :: (Lib.repeatL [97, 98, 99, 47] j ++ [97, 98, 99, 100]) := rfl
    rw [e, zr_app, ih]; decide +kernel
theorem rep_x (k : Nat) : Lib.repeatL [120] k = List.replicate k 120 := by
  induction k with
  | zero => rfl
  | succ k ih => rw [List.replicate_succ, ← ih]; rfl
theorem rep_letters (k : Nat) : (Lib.repeatL [120] k).all isL = true := by
  rw [rep_x, List.all_eq_true]
  intro c hc
  rw [List.eq_of_mem_replicate hc]; decide +kernel
theorem rep_len (k : Nat) : (Lib.repeatL [120] k).length = k := by rw [rep_x, List.length_replicate]
theorem zone_of_zr {l : List UInt8} (h : l.length ≤ 60) : zone l = zr 0 l := by unfold zone; rw [decide_eq_true h, Bool.true_and]
theorem zone_app {a b : List UInt8} (ha : zr 0 a = true) (hb : zr 0 b = true) : zone (a ++ 47 :: b) = decide (a.length + b.length ≤ 59) := by
  unfold zone
  rw [zr_app, ha, hb, Bool.true_and, Bool.and_true]
  apply decide_eq_decide.2
  simp; omega
theorem zone_slashed (a b : List UInt8) : zone (a ++ 47 :: 47 :: b) = false := by
  unfold zone; rw [zr_app, zr_slash]; simp
theorem zone_end (a : List UInt8) : zone (a ++ [47]) = false := by
  unfold zone; rw [zr_app, zr_nil]; simp
theorem zone_begin (a : List UInt8) : zone (47 :: a) = false := by
  unfold zone; rw [zr_slash]; simp
theorem zone_a (l : List UInt8) (h : l.length ≤ 58) : zone (65 :: 47 :: l) = zone l := by
  unfold zone
  rw [show (65 :: 47 :: l : List UInt8) = [65] ++ 47 :: l from rfl, zr_app, decide_eq_true (by simp; omega), decide_eq_true (by omega)]
  rfl
end Nm
/-- what the walk of NameParts knows of its strings -/
structure Ps7 (A B : ByteArray) (P : List ByteArray) (k j : Nat) (X R : ByteArray) : Prop where
  za : Nm.zone A.data.toList = true
  zb : Nm.zone B.data.toList = true
  zp : ∀ p, p ∈ P → Nm.zone p.data.toList = true
  zx2 : Nm.zone (⟨#[65, 47]⟩ ++ X : ByteArray).data.toList = Nm.zone X.data.toList
  ze : Nm.zone (A ++ ⟨#[47]⟩ : ByteArray).data.toList = false
  zg : Nm.zone (⟨#[47]⟩ ++ A : ByteArray).data.toList = false
  zs : Nm.zone (A ++ ⟨#[47, 47]⟩ ++ B : ByteArray).data.toList = false
  hP : (Lx.split 47 A.data.toList).map Lx.bs = P
  hX : Lx.bs (Lib.repeatL (ByteArray.data ⟨#[120]⟩).toList k) = X
  hR : Lx.bs (Lib.repeatL (ByteArray.data ⟨#[97, 98, 99, 47]⟩).toList j) = R
set_option maxRecDepth 100000 in
set_option maxHeartbeats 4000000 in
theorem parts_a (W0 : World) (v1 v2 : Value) (D1 D2 : List (List UInt8)) (HI1 : Hid (Drf W0 v1 D1)) (HI2 : Hid (Drf W0 v2 D2)) (HL1 : Hid (∀ l ∈ D1, l.length ≤ maxLen)) (HZ1 : Hid (D1.length ≤ maxLen)) (HL2 : Hid (∀ l ∈ D2, l.length ≤ maxLen)) (HZ2 : Hid (D2.length ≤ maxLen))
    (n : Int) (n0 : 0 ≤ n) (n1 : n ≤ 255) (k j : Nat) (hk : n % 20 = (k : Int)) (hj : n % 17 = (j : Int)) (hw : k = 0) (A B : ByteArray) (HA : Hid (Lx.bs (Nm.zoneS D1) = A)) (HB : Hid (Lx.bs (Nm.zoneS D2) = B)) (P : List ByteArray) (X R : ByteArray)
    (hsz : (A.size ≤ 59 ∧ B.size ≤ 59) ∧ X.size ≤ 19 ∧ R.size ≤ 64 ∧ P.length ≤ 100) (HP : Hid (Ps7 A B P k j X R)) (r1 rm : Bool) (HR1 : Hid (Nm.zone (A ++ ⟨#[47]⟩ ++ B : ByteArray).data.toList = r1)) (hr1 : (r1 == decide ((A.size : Int) + (B.size : Int) ≤ 59)) = true)
    (rx : Bool) (HRX : Hid (Nm.zone X.data.toList = rx)) (hrx : (rx == false) = true) (HRM : Hid (Nm.zone (R ++ ⟨#[97, 98, 99, 100]⟩ : ByteArray).data.toList = rm)) (hrm : (rm == decide ((R.size : Int) + 4 ≤ 60)) = true) (HM : Hid (MaxW W0)) (HC : Hid (Ns W0 W0)) :
    Calls Tryd.prog 4 #[v1, v2, .int .u8 n] W0 fun e w' => e = .returned (.bool true) ∧ Below W0.heap.size W0 w' := by
  have hk0 : (0 : Int) ≤ (k : Int) := by omega
  have hk3 : (k : Int) < 20 := by omega
  have hk1 : ¬ (1 : Int) ≤ (k : Int) := by omega
  have hj0 : (0 : Int) ≤ (j : Int) := by omega
  have hj3 : (j : Int) < 17 := by omega
  have z1 : ¬ 9223372036854775807 < A.size + 1 := by omega
  have z2 : ¬ 9223372036854775807 < A.size + 1 + B.size := by omega
  have z3 : ¬ 9223372036854775807 < A.size + 2 := by omega
  have z4 : ¬ 9223372036854775807 < A.size + 2 + B.size := by omega
  have z5 : ¬ 9223372036854775807 < 1 + A.size := by omega
  have z6 : ¬ 9223372036854775807 < 2 + X.size := by omega
  have z7 : ¬ 9223372036854775807 < R.size + 4 := by omega
  have zA := Lib.hid (show A.size ≤ 100000000 by omega)
  have HPL := Lib.hid (show P.length ≤ 100 by omega)
  have HK1 := Lib.hid (show (⟨#[120]⟩ : ByteArray).size * k ≤ 100000000 by rw [show (⟨#[120]⟩ : ByteArray).size = 1 from rfl]; omega)
  have HK2 := Lib.hid (show k ≤ 100000000 by omega)
  have HJ1 := Lib.hid (show (⟨#[97, 98, 99, 47]⟩ : ByteArray).size * j ≤ 100000000 by rw [show (⟨#[97, 98, 99, 47]⟩ : ByteArray).size = 4 from rfl]; omega)
  have HJ2 := Lib.hid (show j ≤ 100000000 by omega)
  clear hsz hw
  go_enter Tryd.func4, Tryd.ntmps4
  go_wp2_with fail
  refine (zone7_s v1 D1 HL1 HZ1 A HA HI1.out HC).mono ?_; rintro e w1 ⟨rfl, hb, HC⟩
  replace HI2 := Lib.hid (HI2.out.bl hb)
  clear hb
  go_wp2_with fail
  refine (zone7_s v2 D2 HL2 HZ2 B HB HI2.out HC).mono ?_; rintro e w1 ⟨rfl, hb, HC⟩
  clear hb
  go_wp2_with fail
  refine (nzone_s A true (Lib.hid HP.out.za) HC).mono ?_; rintro e w1 ⟨rfl, _, HC⟩
  go_wp2_with fail
  refine (nzone_s B true (Lib.hid HP.out.zb) HC).mono ?_; rintro e w1 ⟨rfl, _, HC⟩
  go_wp2_with fail
  refine (nzone_s _ r1 HR1 HC).mono ?_; rintro e w1 ⟨rfl, _, HC⟩
  go_wp2_with fail
  refine (split_slash7 A P HP.out.hP zA.out _ (HM.out.bl HC.out.1)).mono ?_; rintro e w2 ⟨rfl, rfl⟩
  have HX : Hid (∀ j s, P[j]? = some s → (w1.alloc (.cells (P.map Value.string).toArray 9)).cell? ⟨w1.heap.size, j, none⟩ = some (.string s)) := Lib.hid fun j s hj => row_cell (row_new rfl) (by simpa using hj)
  replace HC := Ns.hal HC (.cells (P.map Value.string).toArray 9)
  generalize w1.heap.size = bP at *
  generalize w1.alloc (.cells (P.map Value.string).toArray 9) = w2 at *
  go_wp2
  go_loopw [42] (fun i wr => ∃ q : Nat, q ≤ P.length ∧ i = .int .i64 q ∧ Below w2.heap.size w2 wr ∧ Hid (Ns W0 wr)) (fun i _ => P.length - (intOf i).toNat)
  case atStart => exact ⟨0, by omega, rfl, Below.refl _ _, HC⟩
  case round =>
    obtain ⟨q, hq, rfl, hb, HC⟩ := hrel
    have HB2 := Lib.hid hb
    clear hb
    by_cases hql : q < P.length
    · have hpl := HPL.out
      have c0 := cell_bl HB2.out (HX.out q P[q] (List.getElem?_eq_getElem hql))
      have hq0 : (0 : Int) ≤ (q : Int) := by omega
      have hq1 : (q : Int) < (P.length : Int) := by omega
      have HZ := Lib.hid (HP.out.zp P[q] (List.getElem_mem hql))
      generalize P[q] = p at *
      go_wp2_with fail
      refine (nzone_s p true HZ HC).mono ?_; rintro e w3 ⟨rfl, hb, HC⟩
      have HB3 := Lib.hid (HB2.out.trans (hb.mono HB2.out.size))
      clear hb
      go_wp2
      go_roundw
      case rel => exact ⟨q + 1, by omega, by go_num, HB3.out, HC⟩
      case measure => simp [intOf] <;> omega
    · obtain rfl : q = P.length := by omega
      clear hql hq
      go_wp2_with fail
      refine (rep7_s _ _ k rfl HK1.out HK2.out X (Lib.hid HP.out.hX) HC).mono ?_; rintro e w3 ⟨rfl, _, HC⟩
      go_wp2_with fail
      refine (nzone_s X rx HRX HC).mono ?_; rintro e w4 ⟨rfl, _, HC⟩
      go_wp2_with fail
      refine (nzone_s _ rx (Lib.hid (HP.out.zx2.trans HRX.out)) HC).mono ?_; rintro e w5 ⟨rfl, _, HC⟩
      go_wp2_with fail
      refine (nzone_s X rx HRX HC).mono ?_; rintro e w4 ⟨rfl, _, HC⟩
      go_wp2_with fail
      refine (rep7_s _ _ j rfl HJ1.out HJ2.out R (Lib.hid HP.out.hR) HC).mono ?_; rintro e w3 ⟨rfl, _, HC⟩
      go_wp2_with fail
      refine (nzone_s _ rm HRM HC).mono ?_; rintro e w4 ⟨rfl, _, HC⟩
      go_wp2_with fail
      refine (nzone_s _ false (Lib.hid HP.out.ze) HC).mono ?_; rintro e w4 ⟨rfl, _, HC⟩
      go_wp2_with fail
      refine (nzone_s _ false (Lib.hid HP.out.zg) HC).mono ?_; rintro e w4 ⟨rfl, _, HC⟩
      go_wp2_with fail
      refine (nzone_s _ false (Lib.hid HP.out.zs) HC).mono ?_; rintro e w4 ⟨rfl, _, HC⟩
      go_wp2_with fail
      refine (works7_s HC).mono ?_; rintro e w4 ⟨rfl, HC⟩
      go_wp2
      go_ret
      exact ⟨rfl, HC.out.1⟩
set_option maxRecDepth 100000 in
set_option maxHeartbeats 4000000 in
theorem parts_b (W0 : World) (v1 v2 : Value) (D1 D2 : List (List UInt8)) (HI1 : Hid (Drf W0 v1 D1)) (HI2 : Hid (Drf W0 v2 D2)) (HL1 : Hid (∀ l ∈ D1, l.length ≤ maxLen)) (HZ1 : Hid (D1.length ≤ maxLen)) (HL2 : Hid (∀ l ∈ D2, l.length ≤ maxLen)) (HZ2 : Hid (D2.length ≤ maxLen))
    (n : Int) (n0 : 0 ≤ n) (n1 : n ≤ 255) (k j : Nat) (hk : n % 20 = (k : Int)) (hj : n % 17 = (j : Int)) (hw : 1 ≤ k) (A B : ByteArray) (HA : Hid (Lx.bs (Nm.zoneS D1) = A)) (HB : Hid (Lx.bs (Nm.zoneS D2) = B)) (P : List ByteArray) (X R : ByteArray)
    (hsz : (A.size ≤ 59 ∧ B.size ≤ 59) ∧ X.size ≤ 19 ∧ R.size ≤ 64 ∧ P.length ≤ 100) (HP : Hid (Ps7 A B P k j X R)) (r1 rm : Bool) (HR1 : Hid (Nm.zone (A ++ ⟨#[47]⟩ ++ B : ByteArray).data.toList = r1)) (hr1 : (r1 == decide ((A.size : Int) + (B.size : Int) ≤ 59)) = true)
    (rx : Bool) (HRX : Hid (Nm.zone X.data.toList = rx)) (hrx : (rx == decide ((k : Int) ≤ 14)) = true) (HRM : Hid (Nm.zone (R ++ ⟨#[97, 98, 99, 100]⟩ : ByteArray).data.toList = rm)) (hrm : (rm == decide ((R.size : Int) + 4 ≤ 60)) = true) (HM : Hid (MaxW W0)) (HC : Hid (Ns W0 W0)) :
    Calls Tryd.prog 4 #[v1, v2, .int .u8 n] W0 fun e w' => e = .returned (.bool true) ∧ Below W0.heap.size W0 w' := by
  have hk0 : (0 : Int) ≤ (k : Int) := by omega
  have hk3 : (k : Int) < 20 := by omega
  have hk1 : (1 : Int) ≤ (k : Int) := by omega
  have hj0 : (0 : Int) ≤ (j : Int) := by omega
  have hj3 : (j : Int) < 17 := by omega
  have z1 : ¬ 9223372036854775807 < A.size + 1 := by omega
  have z2 : ¬ 9223372036854775807 < A.size + 1 + B.size := by omega
  have z3 : ¬ 9223372036854775807 < A.size + 2 := by omega
  have z4 : ¬ 9223372036854775807 < A.size + 2 + B.size := by omega
  have z5 : ¬ 9223372036854775807 < 1 + A.size := by omega
  have z6 : ¬ 9223372036854775807 < 2 + X.size := by omega
  have z7 : ¬ 9223372036854775807 < R.size + 4 := by omega
  have zA := Lib.hid (show A.size ≤ 100000000 by omega)
  have HPL := Lib.hid (show P.length ≤ 100 by omega)
  have HK1 := Lib.hid (show (⟨#[120]⟩ : ByteArray).size * k ≤ 100000000 by rw [show (⟨#[120]⟩ : ByteArray).size = 1 from rfl]; omega)
  have HK2 := Lib.hid (show k ≤ 100000000 by omega)
  have HJ1 := Lib.hid (show (⟨#[97, 98, 99, 47]⟩ : ByteArray).size * j ≤ 100000000 by rw [show (⟨#[97, 98, 99, 47]⟩ : ByteArray).size = 4 from rfl]; omega)
  have HJ2 := Lib.hid (show j ≤ 100000000 by omega)
  clear hsz hw
  go_enter Tryd.func4, Tryd.ntmps4
  go_wp2_with fail
  refine (zone7_s v1 D1 HL1 HZ1 A HA HI1.out HC).mono ?_; rintro e w1 ⟨rfl, hb, HC⟩
  replace HI2 := Lib.hid (HI2.out.bl hb)
  clear hb
  go_wp2_with fail
  refine (zone7_s v2 D2 HL2 HZ2 B HB HI2.out HC).mono ?_; rintro e w1 ⟨rfl, hb, HC⟩
  clear hb
  go_wp2_with fail
  refine (nzone_s A true (Lib.hid HP.out.za) HC).mono ?_; rintro e w1 ⟨rfl, _, HC⟩
  go_wp2_with fail
  refine (nzone_s B true (Lib.hid HP.out.zb) HC).mono ?_; rintro e w1 ⟨rfl, _, HC⟩
  go_wp2_with fail
  refine (nzone_s _ r1 HR1 HC).mono ?_; rintro e w1 ⟨rfl, _, HC⟩
  go_wp2_with fail
  refine (split_slash7 A P HP.out.hP zA.out _ (HM.out.bl HC.out.1)).mono ?_; rintro e w2 ⟨rfl, rfl⟩
  have HX : Hid (∀ j s, P[j]? = some s → (w1.alloc (.cells (P.map Value.string).toArray 9)).cell? ⟨w1.heap.size, j, none⟩ = some (.string s)) := Lib.hid fun j s hj => row_cell (row_new rfl) (by simpa using hj)
  replace HC := Ns.hal HC (.cells (P.map Value.string).toArray 9)
  generalize w1.heap.size = bP at *
  generalize w1.alloc (.cells (P.map Value.string).toArray 9) = w2 at *
  go_wp2
  go_loopw [42] (fun i wr => ∃ q : Nat, q ≤ P.length ∧ i = .int .i64 q ∧ Below w2.heap.size w2 wr ∧ Hid (Ns W0 wr)) (fun i _ => P.length - (intOf i).toNat)
  case atStart => exact ⟨0, by omega, rfl, Below.refl _ _, HC⟩
  case round =>
    obtain ⟨q, hq, rfl, hb, HC⟩ := hrel
    have HB2 := Lib.hid hb
    clear hb
    by_cases hql : q < P.length
    · have hpl := HPL.out
      have c0 := cell_bl HB2.out (HX.out q P[q] (List.getElem?_eq_getElem hql))
      have hq0 : (0 : Int) ≤ (q : Int) := by omega
      have hq1 : (q : Int) < (P.length : Int) := by omega
      have HZ := Lib.hid (HP.out.zp P[q] (List.getElem_mem hql))
      generalize P[q] = p at *
      go_wp2_with fail
      refine (nzone_s p true HZ HC).mono ?_; rintro e w3 ⟨rfl, hb, HC⟩
      have HB3 := Lib.hid (HB2.out.trans (hb.mono HB2.out.size))
      clear hb
      go_wp2
      go_roundw
      case rel => exact ⟨q + 1, by omega, by go_num, HB3.out, HC⟩
      case measure => simp [intOf] <;> omega
    · obtain rfl : q = P.length := by omega
      clear hql hq
      go_wp2_with fail
      refine (rep7_s _ _ k rfl HK1.out HK2.out X (Lib.hid HP.out.hX) HC).mono ?_; rintro e w3 ⟨rfl, _, HC⟩
      go_wp2_with fail
      refine (nzone_s X rx HRX HC).mono ?_; rintro e w4 ⟨rfl, _, HC⟩
      go_wp2_with fail
      refine (nzone_s _ rx (Lib.hid (HP.out.zx2.trans HRX.out)) HC).mono ?_; rintro e w5 ⟨rfl, _, HC⟩
      go_wp2_with fail
      refine (nzone_s X rx HRX HC).mono ?_; rintro e w4 ⟨rfl, _, HC⟩
      go_wp2_with fail
      refine (rep7_s _ _ j rfl HJ1.out HJ2.out R (Lib.hid HP.out.hR) HC).mono ?_; rintro e w3 ⟨rfl, _, HC⟩
      go_wp2_with fail
      refine (nzone_s _ rm HRM HC).mono ?_; rintro e w4 ⟨rfl, _, HC⟩
      go_wp2_with fail
      refine (nzone_s _ false (Lib.hid HP.out.ze) HC).mono ?_; rintro e w4 ⟨rfl, _, HC⟩
      go_wp2_with fail
      refine (nzone_s _ false (Lib.hid HP.out.zg) HC).mono ?_; rintro e w4 ⟨rfl, _, HC⟩
      go_wp2_with fail
      refine (nzone_s _ false (Lib.hid HP.out.zs) HC).mono ?_; rintro e w4 ⟨rfl, _, HC⟩
      go_wp2_with fail
      refine (works7_s HC).mono ?_; rintro e w4 ⟨rfl, HC⟩
      go_wp2
      go_ret
      exact ⟨rfl, HC.out.1⟩
theorem data_app (a b : ByteArray) : (a ++ b).data.toList = a.data.toList ++ b.data.toList := by
  have := Nm.app_bs a.data.toList b.data.toList
  rw [Lx.bs_data, Lx.bs_data] at this
  rw [this, Lx.data_bs]
theorem ps7 (D1 D2 : List (List UInt8)) (k j : Nat) (hk : k ≤ 19) : Ps7 (Lx.bs (Nm.zoneS D1)) (Lx.bs (Nm.zoneS D2)) ((Lx.split 47 (Lx.bs (Nm.zoneS D1)).data.toList).map Lx.bs) k j (Lx.bs (Lib.repeatL (ByteArray.data ⟨#[120]⟩).toList k)) (Lx.bs (Lib.repeatL (ByteArray.data ⟨#[97, 98, 99, 47]⟩).toList j)) where
  za := by rw [Lx.data_bs]; exact Nm.zoneS_zone D1
  zb := by rw [Lx.data_bs]; exact Nm.zoneS_zone D2
  zp := by
    intro p hp
    obtain ⟨x, hx, rfl⟩ := List.mem_map.1 hp
    rw [Lx.data_bs] at hx ⊢
    have := Nm.split_names (Nm.zoneS_zr D1).1 x hx
    rw [Nm.zone_of_zr (by omega), this.1]
  zx2 := by
    rw [data_app, Lx.data_bs]
    exact Nm.zone_a _ (by have h := Nm.rep_len k; show (Lib.repeatL [120] k).length ≤ 58; omega)
  ze := by rw [data_app]; exact Nm.zone_end _
  zg := by rw [data_app]; exact Nm.zone_begin _
  zs := by
    rw [data_app, data_app, List.append_assoc]
    exact Nm.zone_slashed _ _
  hP := rfl
  hX := rfl
  hR := rfl
theorem parts_walk (W0 : World) (v1 : Value) (D1 : List (List UInt8)) (hI1 : Drf W0 v1 D1) (hl1 : ∀ l ∈ D1, l.length ≤ maxLen) (hz1 : D1.length ≤ maxLen) (v2 : Value) (D2 : List (List UInt8)) (hI2 : Drf W0 v2 D2) (hl2 : ∀ l ∈ D2, l.length ≤ maxLen) (hz2 : D2.length ≤ maxLen) (n : Int) (hn : (Lit.int .u8 n).wf = true) (hT : KdW W0 ∧ MaxW W0) :
    Calls Tryd.prog 4 #[v1, v2, .int .u8 n] W0 fun e w' => e = .returned (.bool true) ∧ Below W0.heap.size W0 w' := by
  have hb := bounds_u8 hn
  have HC := Lib.hid (Ns.mk0 hT.1)
  obtain ⟨k, hk⟩ : ∃ k : Nat, n % 20 = (k : Int) := ⟨(n % 20).toNat, by omega⟩
  obtain ⟨j, hj⟩ : ∃ k : Nat, n % 17 = (k : Int) := ⟨(n % 17).toNat, by omega⟩
  have hk2 : k ≤ 19 := by omega
  have hj2 : j ≤ 16 := by omega
  have HP := Lib.hid (ps7 D1 D2 k j hk2)
  have hA := (Nm.zoneS_zr D1).2
  have hB := (Nm.zoneS_zr D2).2
  have hsp := Lx.split_len 47 (Lx.bs (Nm.zoneS D1)).data.toList
  rw [Lx.data_bs] at hsp
  have hxl : (Lib.repeatL (ByteArray.data ⟨#[120]⟩).toList k).length = k := Nm.rep_len k
  have hrl : (Lib.repeatL (ByteArray.data ⟨#[97, 98, 99, 47]⟩).toList j).length = 4 * j := by rw [Lib.repeatL_length, Nat.mul_comm]; rfl
  have hsz : ((Lx.bs (Nm.zoneS D1)).size ≤ 59 ∧ (Lx.bs (Nm.zoneS D2)).size ≤ 59) ∧ (Lx.bs (Lib.repeatL (ByteArray.data ⟨#[120]⟩).toList k)).size ≤ 19 ∧ (Lx.bs (Lib.repeatL (ByteArray.data ⟨#[97, 98, 99, 47]⟩).toList j)).size ≤ 64 ∧ ((Lx.split 47 (Lx.bs (Nm.zoneS D1)).data.toList).map Lx.bs).length ≤ 100 := by
    simp only [Lx.size_bs, List.length_map, Lx.data_bs]
    rw [hxl, hrl]
    omega
  have hr1 : Nm.zone (Lx.bs (Nm.zoneS D1) ++ ⟨#[47]⟩ ++ Lx.bs (Nm.zoneS D2) : ByteArray).data.toList = decide (((Lx.bs (Nm.zoneS D1)).size : Int) + ((Lx.bs (Nm.zoneS D2)).size : Int) ≤ 59) := by
    rw [data_app, data_app, List.append_assoc, Lx.data_bs, Lx.data_bs]
    refine (Nm.zone_app (Nm.zoneS_zr D1).1 (Nm.zoneS_zr D2).1).trans ?_
    apply decide_eq_decide.2
    rw [Lx.size_bs, Lx.size_bs]
    omega
  have hrm : Nm.zone (Lx.bs (Lib.repeatL (ByteArray.data ⟨#[97, 98, 99, 47]⟩).toList j) ++ ⟨#[97, 98, 99, 100]⟩ : ByteArray).data.toList = decide (((Lx.bs (Lib.repeatL (ByteArray.data ⟨#[97, 98, 99, 47]⟩).toList j)).size : Int) + 4 ≤ 60) := by
    rw [data_app, Lx.data_bs]
    unfold Nm.zone
    have := Nm.zr_rep4 j
    rw [show (ByteArray.data ⟨#[97, 98, 99, 47]⟩).toList = [97, 98, 99, 47] from rfl, show (ByteArray.data ⟨#[97, 98, 99, 100]⟩).toList = [97, 98, 99, 100] from rfl, this, Bool.and_true]
    apply decide_eq_decide.2
    rw [List.length_append, Lx.size_bs]
    simp only [List.length_cons, List.length_nil]
    omega
  have hrx : Nm.zone (Lx.bs (Lib.repeatL (ByteArray.data ⟨#[120]⟩).toList k)).data.toList = (decide (1 ≤ k) && decide (k ≤ 14)) := by
    rw [Lx.data_bs]
    have := Nm.zone_letters (Nm.rep_letters k)
    rw [Nm.rep_len] at this
    exact this
  by_cases h1 : 1 ≤ k
  · exact parts_b W0 v1 v2 D1 D2 (Lib.hid hI1) (Lib.hid hI2) (Lib.hid hl1) (Lib.hid hz1) (Lib.hid hl2) (Lib.hid hz2) n hb.1 (by omega) k j hk hj h1 _ _ (Lib.hid rfl) (Lib.hid rfl) _ _ _ hsz HP _ _ (Lib.hid hr1) (beq_self_eq_true _) _ (Lib.hid hrx) (by rw [decide_eq_true h1, Bool.true_and, beq_iff_eq]; apply decide_eq_decide.2; omega) (Lib.hid hrm) (beq_self_eq_true _) (Lib.hid hT.2) HC
  · exact parts_a W0 v1 v2 D1 D2 (Lib.hid hI1) (Lib.hid hI2) (Lib.hid hl1) (Lib.hid hz1) (Lib.hid hl2) (Lib.hid hz2) n hb.1 (by omega) k j hk hj (by omega) _ _ (Lib.hid rfl) (Lib.hid rfl) _ _ _ hsz HP _ _ (Lib.hid hr1) (beq_self_eq_true _) _ (Lib.hid hrx) (by rw [decide_eq_false h1]; rfl) (Lib.hid hrm) (beq_self_eq_true _) (Lib.hid hT.2) HC
end Go.Proofs.YtndpoijmkdephaaDoor
