/- The contracts of package dayspec: split, Parse. -/
import Derived.Test.YtedcfnaphfgfjaaDoorDyd
namespace Go.Proofs.YtedcfnaphfgfjaaDoor
open Go.RowKit Go.Shelf
theorem isL_four (s : ByteArray) : Dy.isL (s.extract 0 4).data.toList = Dy.isL s.data.toList := by
  rw [ext_to]
  match s.data.toList with
  | [] => rfl
  | [_] => rfl
  | [_, _] => rfl
  | [_, _, _] => rfl
  | _ :: _ :: _ :: _ :: _ => rfl
theorem isL_short (s : ByteArray) (h : s.size < 4) : Dy.isL s.data.toList = false := by
  have hl : s.data.toList.length = s.size := by rw [Array.length_toList]; rfl
  match hd : s.data.toList with
  | [] => rfl
  | [_] => rfl
  | [_, _] => rfl
  | [_, _, _] => rfl
  | _ :: _ :: _ :: _ :: _ => rw [hd] at hl; simp at hl; omega
set_option maxRecDepth 100000 in
set_option maxHeartbeats 4000000 in
theorem ysplit_op (s : ByteArray) (hs : s.size < 4294967281) (k kd : Nat) (h : Dy.opr s.data.toList = some (k, kd)) {W0 w : World} (HC : Hid (Ys W0 w)) :
    Calls Tryd.prog 17 #[.string s] w fun e w' => e = .returned (.tuple #[.int .i64 (kd : Int), .string (s.extract 0 k), .string (s.extract (k + 2) s.size)]) ∧ Below w.heap.size w w' := by
  obtain ⟨h1, c, d, hc, hd, hd2, hk⟩ := opr_some _ _ _ h
  obtain ⟨k1, k2, k3⟩ := cut_op s k c h1 hc ⟨d, hd, hd2⟩
  have HB := Bs.mk0 w
  have HB0 := Lib.hid HB
  rcases hk with ⟨hk, rfl⟩ | ⟨hk, rfl⟩
  · obtain rfl : c = 62 := UInt8.toNat_inj.1 hk
    have hcut : ∀ (m : Int) (wx : World), wx.cell? ⟨5, 0, none⟩ = some (.int .i64 m) → Calls Tryd.prog 40 #[.string s, .string ⟨#[62, 61]⟩] wx fun e w' => e = .returned (.tuple #[.string (s.extract 0 k), .string (s.extract (k + 2) s.size), .bool true]) ∧ Below wx.heap.size wx w' := fun m wx hm => (Tryd.strings_Cut s ⟨#[62, 61]⟩ m wx hs hm).mono fun e w' ⟨a1, n, a2⟩ => ⟨by rw [a1]; show Ending.returned (.tuple #[.string ⟨(Lib.cut s.data.toList [62, 61]).1.toArray⟩, .string ⟨(Lib.cut s.data.toList [62, 61]).2.1.toArray⟩, .bool (Lib.cut s.data.toList [62, 61]).2.2]) = _; rw [k1, k2, k3], by rw [a2]; exact Dw.below ⟨n, rfl⟩⟩
    have HU := Lib.hid hcut
    have HR : Hid ((match Dy.opr s.data.toList with | some (_, kd) => ((kd : Int), true) | none => (0, false)) = ((3 : Int), true)) := Lib.hid (by rw [h]; rfl)
    clear hcut k1 k2 k3 hc hd hd2 h1 h hk HB
    go_enter Tryd.func17, Tryd.ntmps17
    go_wp2_with fail
    refine (yopd_s s hs 3 true HR HC).mono ?_; rintro e w1 ⟨rfl, hb⟩; replace HC := Ys.hbl HC hb; replace HB0 := Bs.hbl HB0 hb; clear hb
    have p6 := HC.out.2.ops.at 6 rfl
    have p7 := HC.out.2.ops.at 7 rfl
    go_wp2_with fail
    refine (otext_any 62 61 ⟨#[62, 61]⟩ rfl _).mono ?_; rintro e w2 ⟨rfl, hb⟩; replace HC := Ys.hbl HC hb; replace HB0 := Bs.hbl HB0 hb; clear hb p6 p7
    obtain ⟨m, hm⟩ := HC.out.2.max
    have HM := Lib.hid hm
    clear hm
    go_wp2_with fail
    refine (HU.out m _ HM.out).mono ?_; rintro e w3 ⟨rfl, hb⟩; replace HC := Ys.hbl HC hb; replace HB0 := Bs.hbl HB0 hb; clear hb
    go_wp2
    go_ret3
    exact ⟨rfl, HB0.out⟩
  · obtain rfl : c = 60 := UInt8.toNat_inj.1 hk
    have hcut : ∀ (m : Int) (wx : World), wx.cell? ⟨5, 0, none⟩ = some (.int .i64 m) → Calls Tryd.prog 40 #[.string s, .string ⟨#[60, 61]⟩] wx fun e w' => e = .returned (.tuple #[.string (s.extract 0 k), .string (s.extract (k + 2) s.size), .bool true]) ∧ Below wx.heap.size wx w' := fun m wx hm => (Tryd.strings_Cut s ⟨#[60, 61]⟩ m wx hs hm).mono fun e w' ⟨a1, n, a2⟩ => ⟨by rw [a1]; show Ending.returned (.tuple #[.string ⟨(Lib.cut s.data.toList [60, 61]).1.toArray⟩, .string ⟨(Lib.cut s.data.toList [60, 61]).2.1.toArray⟩, .bool (Lib.cut s.data.toList [60, 61]).2.2]) = _; rw [k1, k2, k3], by rw [a2]; exact Dw.below ⟨n, rfl⟩⟩
    have HU := Lib.hid hcut
    have HR : Hid ((match Dy.opr s.data.toList with | some (_, kd) => ((kd : Int), true) | none => (0, false)) = ((4 : Int), true)) := Lib.hid (by rw [h]; rfl)
    clear hcut k1 k2 k3 hc hd hd2 h1 h hk HB
    go_enter Tryd.func17, Tryd.ntmps17
    go_wp2_with fail
    refine (yopd_s s hs 4 true HR HC).mono ?_; rintro e w1 ⟨rfl, hb⟩; replace HC := Ys.hbl HC hb; replace HB0 := Bs.hbl HB0 hb; clear hb
    have p6 := HC.out.2.ops.at 8 rfl
    have p7 := HC.out.2.ops.at 9 rfl
    go_wp2_with fail
    refine (otext_any 60 61 ⟨#[60, 61]⟩ rfl _).mono ?_; rintro e w2 ⟨rfl, hb⟩; replace HC := Ys.hbl HC hb; replace HB0 := Bs.hbl HB0 hb; clear hb p6 p7
    obtain ⟨m, hm⟩ := HC.out.2.max
    have HM := Lib.hid hm
    clear hm
    go_wp2_with fail
    refine (HU.out m _ HM.out).mono ?_; rintro e w3 ⟨rfl, hb⟩; replace HC := Ys.hbl HC hb; replace HB0 := Bs.hbl HB0 hb; clear hb
    go_wp2
    go_ret3
    exact ⟨rfl, HB0.out⟩
set_option maxRecDepth 100000 in
set_option maxHeartbeats 4000000 in
theorem ysplit_no (s : ByteArray) (hs : s.size < 4294967281) (h : Dy.opr s.data.toList = none) (hL : Dy.isL s.data.toList = false) {W0 w : World} (HC : Hid (Ys W0 w)) :
    Calls Tryd.prog 17 #[.string s] w fun e w' => e = .returned (.tuple #[.int .i64 1, .string ⟨#[]⟩, .string s]) ∧ Below w.heap.size w w' := by
  have HB := Bs.mk0 w
  have HB0 := Lib.hid HB
  have HR : Hid ((match Dy.opr s.data.toList with | some (_, kd) => ((kd : Int), true) | none => (0, false)) = ((0 : Int), false)) := Lib.hid (by rw [h])
  clear HB h
  by_cases h4 : s.size < 4
  · have q1 : ¬ (4 : Int) ≤ (s.size : Int) := by omega
    clear h4
    go_enter Tryd.func17, Tryd.ntmps17
    go_wp2_with fail
    refine (yopd_s s hs 0 false HR HC).mono ?_; rintro e w1 ⟨rfl, hb⟩; replace HC := Ys.hbl HC hb; replace HB0 := Bs.hbl HB0 hb; clear hb
    go_wp2
    go_ret3
    exact ⟨rfl, HB0.out⟩
  · have q1 : (4 : Int) ≤ (s.size : Int) := by omega
    have hz : (s.extract 0 4).size = 4 := by rw [ByteArray.size_extract]; omega
    have hf := fold_any (s.extract 0 4) hz
    rw [isL_four, hL] at hf
    have HF := Lib.hid hf
    clear h4 hf hz hL
    go_enter Tryd.func17, Tryd.ntmps17
    go_wp2_with fail
    refine (yopd_s s hs 0 false HR HC).mono ?_; rintro e w1 ⟨rfl, hb⟩; replace HC := Ys.hbl HC hb; replace HB0 := Bs.hbl HB0 hb; clear hb
    go_wp2_with fail
    refine (HF.out _ HC.out.2.fold).mono ?_; rintro e w2 ⟨rfl, hb⟩; replace HC := Ys.hbl HC hb; replace HB0 := Bs.hbl HB0 hb; clear hb
    go_wp2
    go_ret3
    exact ⟨rfl, HB0.out⟩
set_option maxRecDepth 100000 in
set_option maxHeartbeats 4000000 in
theorem ysplit_last (s : ByteArray) (hs : s.size < 4294967281) (h : Dy.opr s.data.toList = none) (hL : Dy.isL s.data.toList = true) {W0 w : World} (HC : Hid (Ys W0 w)) :
    Calls Tryd.prog 17 #[.string s] w fun e w' => e = .returned (.tuple #[.int .i64 2, .string (s.extract 4 s.size), .string ⟨#[]⟩]) ∧ Below w.heap.size w w' := by
  have HB := Bs.mk0 w
  have HB0 := Lib.hid HB
  have HR : Hid ((match Dy.opr s.data.toList with | some (_, kd) => ((kd : Int), true) | none => (0, false)) = ((0 : Int), false)) := Lib.hid (by rw [h])
  clear HB h
  by_cases h4 : s.size < 4
  · rw [isL_short s h4] at hL; cases hL
  · have q1 : (4 : Int) ≤ (s.size : Int) := by omega
    have hz : (s.extract 0 4).size = 4 := by rw [ByteArray.size_extract]; omega
    have hf := fold_any (s.extract 0 4) hz
    rw [isL_four, hL] at hf
    have HF := Lib.hid hf
    clear h4 hf hz hL
    go_enter Tryd.func17, Tryd.ntmps17
    go_wp2_with fail
    refine (yopd_s s hs 0 false HR HC).mono ?_; rintro e w1 ⟨rfl, hb⟩; replace HC := Ys.hbl HC hb; replace HB0 := Bs.hbl HB0 hb; clear hb
    go_wp2_with fail
    refine (HF.out _ HC.out.2.fold).mono ?_; rintro e w2 ⟨rfl, hb⟩; replace HC := Ys.hbl HC hb; replace HB0 := Bs.hbl HB0 hb; clear hb
    go_wp2
    go_region
    go_wp2
    go_ret3
    exact ⟨rfl, HB0.out.dr⟩
/-- dayspec.split -/
theorem ysplit_s (s : ByteArray) (hs : s.size < 4294967281) (K : Nat) (A B : ByteArray) (h : Hid (splB s = (K, A, B))) {W0 w : World} (HC : Hid (Ys W0 w)) :
    Calls Tryd.prog 17 #[.string s] w fun e w' => e = .returned (.tuple #[.int .i64 (K : Int), .string A, .string B]) ∧ Below w.heap.size w w' := by
  have h := h.out
  unfold splB at h
  cases ho : Dy.opr s.data.toList with
  | some x =>
    obtain ⟨k, kd⟩ := x
    rw [ho] at h
    simp only [Prod.mk.injEq] at h
    obtain ⟨rfl, rfl, rfl⟩ := h
    exact ysplit_op s hs k kd ho HC
  | none =>
    rw [ho] at h
    simp only at h
    cases hL : Dy.isL s.data.toList with
    | true =>
      rw [hL, if_pos rfl] at h
      simp only [Prod.mk.injEq] at h
      obtain ⟨rfl, rfl, rfl⟩ := h
      exact ysplit_last s hs ho hL HC
    | false =>
      rw [hL, if_neg (by decide)] at h
      simp only [Prod.mk.injEq] at h
      obtain ⟨rfl, rfl, rfl⟩ := h
      exact ysplit_no s hs ho hL HC
/- SPLIT END -/
end Go.Proofs.YtedcfnaphfgfjaaDoor
