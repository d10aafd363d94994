/- Package offset: the contracts of Print and of what it calls. -/
import Derived.Test.YteahckmpjihcaaaDoorKit
import Derived.Test.YteahckmpjihcaaaDoorOt
import Derived.Test.YteahckmpjihcaaaDoorShelf
import Derived.WalkLawsBesides
import Derived.Lib.AppendIntMem
import Derived.LoopN
import Derived.StillTailTactics
import Derived.Deep.RegionHeld3
namespace Go.Proofs.YteahckmpjihcaaaDoor
open Go.RowKit
/-- the table of powers of ten lies in its block -/
def PowW (w : World) : Prop := Lib.TabIs Tryd.prog w "internal/strconv.uint64pow10" .u64 Lib.pow10Tab
theorem PowW.bl {w w1 : World} (h : PowW w) (k : Below w.heap.size w w1) : PowW w1 := Lib.tabBelow_of_tabIs h w1 k
/-- the table of what the parts count lies in its block -/
def CtsW (w : World) : Prop := ∀ j, j < 3 → w.cell? ⟨2, j, none⟩ = some (.int .i64 ([3600, 60, 1].getD j 0))
theorem CtsW.bl {w w1 : World} (h : CtsW w) (k : Below w.heap.size w w1) : CtsW w1 := fun j hj => cell_bl k (h j hj)
/-- the state of a walk: what was there is as it was, the tables lie in their blocks -/
def Ps (w0 w : World) : Prop := Below w0.heap.size w0 w ∧ CtsW w ∧ PowW w
theorem Ps.mk0 {w : World} (h : CtsW w) (k : PowW w) : Ps w w := ⟨Below.refl _ w, h, k⟩
theorem Ps.bl {w0 w w1 : World} (h : Ps w0 w) (k : Below w.heap.size w w1) : Ps w0 w1 := ⟨Below.trans h.1 (k.mono h.1.size), h.2.1.bl k, h.2.2.bl k⟩
theorem Ps.hbl {w0 w w1 : World} (h : Hid (Ps w0 w)) (k : Below w.heap.size w w1) : Hid (Ps w0 w1) := Lib.hid (h.out.bl k)
theorem Ps.hal {w0 w : World} (h : Hid (Ps w0 w)) (A : Obj) : Hid (Ps w0 (w.alloc A)) := Lib.hid (h.out.bl (Below.alloc (Below.refl _ w) (Nat.le_refl _) A))
theorem Ps.hdr {w0 w : World} (h : Hid (Ps w0 w)) : Hid (Ps w0 w.drew) := Lib.hid (h.out.bl (Below.drew (Below.refl _ w)))
theorem ret_str {a b : ByteArray} (h : a = b) : Ending.returned (.string a) = .returned (.string b) := by rw [h]
theorem ret_si {k : IntKind} {a b : ByteArray} {c d : Int} (h : a = b) (g : c = d) : Ending.returned (.tuple #[.string a, .int k c]) = .returned (.tuple #[.string b, .int k d]) := by rw [h, g]
theorem app_bs (a b : List UInt8) : (⟨a.toArray⟩ ++ ⟨b.toArray⟩ : ByteArray) = ⟨(a ++ b).toArray⟩ := by
  show ByteArray.append _ _ = _
  simp [ByteArray.append]
theorem fmt_any (x : Int) (n : Nat) (hx : x = (n : Int)) (hn : n < 1000) (w : World) (hT : PowW w) : Calls Tryd.prog 33 #[.int .i64 x, .int .i64 10] w fun e w' => e = .returned (.string ⟨(Of.dec n).toArray⟩) ∧ Below w.heap.size w w' := by
  subst hx
  refine (Tryd.strconv_FormatInt_10 (n : Int) (by omega) (by omega) w hT).mono ?_
  rintro e w' ⟨rfl, k, os, rfl⟩
  exact ⟨by rw [Of.dec_itoa hn], Lib.below_grow _ w (Nat.le_refl _) k os⟩
theorem fmt_small (x : Int) (n : Nat) (hx : x = (n : Int)) (hn : n < 100) (w : World) : Calls Tryd.prog 33 #[.int .i64 x, .int .i64 10] w fun e w' => e = .returned (.string ⟨(Of.dec n).toArray⟩) ∧ w = w' := by
  subst hx
  refine (Tryd.strconv_FormatInt_10_small n hn w).mono ?_
  rintro e w' ⟨rfl, rfl⟩
  exact ⟨by rw [Of.dec_digits (by omega)], rfl⟩
theorem two_any (x : Int) (n : Nat) (hx : x = (n : Int)) (hn : n < 100) (w : World) : Calls Tryd.prog 34 #[.int .i64 x] w fun e w' => e = .returned (.string ⟨(Of.two n).toArray⟩) ∧ w = w' := by
  have hl := Of.dec_len n
  have HX := Lib.hid hx
  clear hx
  have hf := fun w => fmt_small x n HX.out hn w
  by_cases h : n < 10
  · rw [if_pos h] at hl
    have ht := Lib.hid (Of.two_short h)
    have hs : (⟨(Of.dec n).toArray⟩ : ByteArray).size = 1 := by rw [← hl]; rfl
    have hap : (⟨#[48]⟩ ++ ⟨(Of.dec n).toArray⟩ : ByteArray) = ⟨(Of.two n).toArray⟩ := by rw [← ht.out]; rfl
    generalize (⟨(Of.dec n).toArray⟩ : ByteArray) = D at *
    generalize (⟨(Of.two n).toArray⟩ : ByteArray) = T at *
    go_enter Tryd.func34, Tryd.ntmps34
    go_wp2_with fail
    refine (hf _).mono ?_
    rintro e w' ⟨rfl, rfl⟩
    go_wp2
    go_ret
    exact ⟨rfl, rfl⟩
  · rw [if_neg h, if_pos hn] at hl
    rw [← Of.two_long (by omega) hn]
    have hs : (⟨(Of.dec n).toArray⟩ : ByteArray).size = 2 := by rw [← hl]; rfl
    generalize (⟨(Of.dec n).toArray⟩ : ByteArray) = D at *
    go_enter Tryd.func34, Tryd.ntmps34
    go_wp2_with fail
    refine (hf _).mono ?_
    rintro e w' ⟨rfl, rfl⟩
    go_wp2
    go_ret
    exact ⟨rfl, rfl⟩
set_option maxHeartbeats 1000000 in
theorem split_any (x : Int) (y : Nat) (hx : x = (y : Int)) (hy : y ≤ 604799) (w : World) (hT : CtsW w) : Calls Tryd.prog 27 #[.int .i64 x] w fun e w' => e = .returned (.agg #[.int .i64 (y / 3600 : Nat), .int .i64 (y / 60 % 60 : Nat), .int .i64 (y % 60 : Nat)]) ∧ Below w.heap.size w w' := by
  subst hx
  have c0 : w.cell? ⟨2, 0, none⟩ = some (.int .i64 3600) := hT _ (by omega)
  have c1 : w.cell? ⟨2, 1, none⟩ = some (.int .i64 60) := hT _ (by omega)
  have c2 : w.cell? ⟨2, 2, none⟩ = some (.int .i64 1) := hT _ (by omega)
  have i0 : ∀ w, (Instr.index 54 (.agg #[.int .i64 3600, .int .i64 60, .int .i64 1]) (.int .i64 0)).run Tryd.prog w = .ok (.int .i64 3600) w := fun _ => by kernel_rfl
  have i1 : ∀ w, (Instr.index 54 (.agg #[.int .i64 3600, .int .i64 60, .int .i64 1]) (.int .i64 1)).run Tryd.prog w = .ok (.int .i64 60) w := fun _ => by kernel_rfl
  have i2 : ∀ w, (Instr.index 54 (.agg #[.int .i64 3600, .int .i64 60, .int .i64 1]) (.int .i64 2)).run Tryd.prog w = .ok (.int .i64 1) w := fun _ => by kernel_rfl
  have hz := cell_lt c0
  clear hT
  go_enter Tryd.func27, Tryd.ntmps27
  go_wp2
  refine wp_loop_rounds 4 ?_
  rw [rounds_succ]
  go_wp2
  rw [rounds_succ]
  go_wp2
  rw [rounds_succ]
  go_wp2
  rw [rounds_succ]
  go_wp2
  exact bodyPost_ret (v := .agg #[.int .i64 (y / 3600 : Nat), .int .i64 (y / 60 % 60 : Nat), .int .i64 (y % 60 : Nat)]) (by simp [results, Tryd.results27, go_sem]; omega) rfl ⟨rfl, by repeat (first | exact Below.refl _ _ | refine Below.drew ?_ | refine Below.setCell ?_ (by simp) _ | refine Below.alloc ?_ (by simp <;> omega) _)⟩
set_option maxHeartbeats 1000000 in
theorem write_core (h m c : Int) (hN mN cN : Nat) (hh : h = (hN : Int)) (hm : m = (mN : Int)) (hc : c = (cN : Int)) (h1 : hN < 1000) (m1 : mN < 100) (c1 : cN < 100) (z : Bool) (hz : (c != 0) = z) (D T2 T3 R : ByteArray) (hD : ⟨(Of.dec hN).toArray⟩ = D) (h2 : ⟨(Of.two mN).toArray⟩ = T2) (h3 : ⟨(Of.two cN).toArray⟩ = T3) (hR : (if z then D ++ ⟨#[58]⟩ ++ T2 ++ (⟨#[58]⟩ ++ T3) else D ++ ⟨#[58]⟩ ++ T2) = R) (W0 : World) (hT : CtsW W0) (hP : PowW W0) :
    Calls Tryd.prog 26 #[.agg #[.int .i64 h, .int .i64 m, .int .i64 c]] W0 fun e w' => e = .returned (.string R) ∧ Below W0.heap.size W0 w' := by
  have HC := Ps.hal (Lib.hid (Ps.mk0 hT hP)) (.cells #[.int .i64 h, .int .i64 m, .int .i64 c] 54)
  have HH := Lib.hid hh
  have HM := Lib.hid hm
  have HS := Lib.hid hc
  have hR' := hR
  have HR := Lib.hid hR'
  have HD := Lib.hid hD
  have H2 := Lib.hid h2
  have H3 := Lib.hid h3
  have sD : D.size ≤ 3 := by rw [← hD]; exact (Of.dec_le hN).2
  have s2 : T2.size ≤ 2 := by rw [← h2]; exact Nat.le_refl 2
  have s3 : T3.size ≤ 2 := by rw [← h3]; exact Nat.le_refl 2
  have q1 : ¬ 9223372036854775807 < D.size + 1 := by omega
  have q2 : ¬ 9223372036854775807 < D.size + 1 + T2.size := by omega
  have hs := Lib.hid (Cs.new W0 [.int .i64 h, .int .i64 m, .int .i64 c] 54)
  clear hh hm hc hT hP hD h2 h3 hR hR'
  go_enter Tryd.func26, Tryd.ntmps26
  go_wp2_with fail
  have p0 := hs.out.at 0 rfl
  have p1 := hs.out.at 1 rfl
  have p2 := hs.out.at 2 rfl
  clear hs
  generalize W0.alloc (.cells #[.int .i64 h, .int .i64 m, .int .i64 c] 54) = w1 at *
  generalize W0.heap.size = bs at *
  replace HC := Ps.hdr HC
  go_region_held3 (fun w' => w'.cell? ⟨bs, 0, none⟩ = some (.int .i64 h) ∧ w'.cell? ⟨bs, 1, none⟩ = some (.int .i64 m) ∧ w'.cell? ⟨bs, 2, none⟩ = some (.int .i64 c) ∧ Ps W0 w') (first | exact ⟨p0, p1, p2, HC.out⟩)
    (first
      | (go_at_call 33; refine (fmt_any _ _ HH.out h1 _ HC.out.2.2).mono ?_; rw [HD.out]; rintro e w3 ⟨rfl, hb⟩; replace p0 := cell_bl hb p0; replace p1 := cell_bl hb p1; replace p2 := cell_bl hb p2; replace HC := Ps.hbl HC hb; clear hb)
      | (go_at_call 34; refine (two_any _ _ HM.out m1 _).mono ?_; rw [H2.out]; rintro e w3 ⟨rfl, rfl⟩))
  cases z
  · go_wp2
    go_ret
    exact ⟨ret_str HR.out, HC.out.1⟩
  · have q3 : ¬ 9223372036854775807 < 1 + T3.size := by omega
    go_wp2_with (go_at_call 34; refine (two_any _ _ HS.out c1 _).mono ?_; rw [H3.out]; rintro e w3 ⟨rfl, rfl⟩)
    go_ret
    exact ⟨ret_str HR.out, HC.out.1⟩
theorem write_any (y : Nat) (hy : y ≤ 604799) (W0 : World) (hT : CtsW W0) (hP : PowW W0) :
    Calls Tryd.prog 26 #[.agg #[.int .i64 (y / 3600 : Nat), .int .i64 (y / 60 % 60 : Nat), .int .i64 (y % 60 : Nat)]] W0 fun e w' => e = .returned (.string ⟨(Of.body y).toArray⟩) ∧ Below W0.heap.size W0 w' := by
  refine write_core _ _ _ (y / 3600) (y / 60 % 60) (y % 60) rfl rfl rfl (by omega) (by omega) (by omega) (decide (y % 60 ≠ 0)) ?_ _ _ _ _ rfl rfl rfl ?_ W0 hT hP
  · by_cases h : y % 60 = 0
    · rw [h]; rfl
    · simp only [ne_eq, h, not_false_eq_true, decide_true]; simp; omega
  · have hc : ∀ l : List UInt8, (⟨#[58]⟩ ++ ⟨l.toArray⟩ : ByteArray) = ⟨(58 :: l).toArray⟩ := fun l => app_bs [58] l
    have hd : ∀ l : List UInt8, (⟨l.toArray⟩ ++ ⟨#[58]⟩ : ByteArray) = ⟨(l ++ [58]).toArray⟩ := fun l => app_bs l [58]
    unfold Of.body
    by_cases h : y % 60 = 0
    · simp only [h, ne_eq, not_true, decide_false, if_false, if_true, Bool.false_eq_true]
      rw [hd, app_bs]; simp
    · simp only [h, ne_eq, not_false_eq_true, decide_true, if_true, if_false]
      rw [hd, app_bs, hc, app_bs]; simp
/-- what Print returns -/
def prs (x : Int) : ByteArray × Int := if -604799 ≤ x ∧ x ≤ 604799 then (⟨(Of.prt x).toArray⟩, 0) else (⟨#[]⟩, 3)
theorem bs_size (l : List UInt8) : (⟨l.toArray⟩ : ByteArray).size = l.length := by show l.toArray.size = _; simp
set_option maxHeartbeats 1000000 in
theorem print_at (x : Int) (hx : -9223372036854775808 ≤ x ∧ x ≤ 9223372036854775807) (S : ByteArray) (c : Int) (hS : prs x = (S, c)) (W0 : World) (hT : CtsW W0) (hP : PowW W0) :
    Calls Tryd.prog 17 #[.int .i64 x] W0 fun e w' => e = .returned (.tuple #[.string S, .int .i64 c]) ∧ Below W0.heap.size W0 w' := by
  have HT := Lib.hid hT
  have HP := Lib.hid hP
  clear hT hP
  unfold prs at hS
  by_cases h : -604799 ≤ x ∧ x ≤ 604799
  · rw [if_pos h] at hS
    obtain ⟨rfl, rfl⟩ := Prod.mk.inj hS
    clear hS
    obtain ⟨h1, h2⟩ := h
    by_cases h0 : x < 0
    · have hl := (Of.body_len x.natAbs).2
      have hq : ¬ 9223372036854775807 < 1 + (⟨(Of.body x.natAbs).toArray⟩ : ByteArray).size := by rw [bs_size]; omega
      have hr : (⟨#[45]⟩ ++ ⟨(Of.body x.natAbs).toArray⟩ : ByteArray) = ⟨(Of.prt x).toArray⟩ := by
        have := app_bs [45] (Of.body x.natAbs)
        unfold Of.prt; rw [if_pos h0]; exact this
      have HR := Lib.hid hr
      have hn : -x = (x.natAbs : Int) := by omega
      have hn2 : x.natAbs ≤ 604799 := by omega
      have H1 := fun w hT => split_any (-x) x.natAbs hn hn2 w hT
      have H2 := fun w hT hP => write_any x.natAbs hn2 w hT hP
      clear hn hr hl
      generalize (⟨(Of.body x.natAbs).toArray⟩ : ByteArray) = B at *
      generalize ((x.natAbs / 3600 : Nat) : Int) = p0 at *
      generalize ((x.natAbs / 60 % 60 : Nat) : Int) = p1 at *
      generalize ((x.natAbs % 60 : Nat) : Int) = p2 at *
      clear hn2
      go_enter Tryd.func17, Tryd.ntmps17
      go_wp2_with fail
      refine (H1 _ HT.out).mono ?_
      rintro e w1 ⟨rfl, hb⟩
      have HB := Lib.hid hb
      clear hb
      go_wp2_with fail
      refine (H2 _ (HT.out.bl HB.out) (HP.out.bl HB.out)).mono ?_
      rintro e w2 ⟨rfl, hb⟩
      have HB2 := Lib.hid hb
      clear hb
      go_wp2
      go_ret2
      exact ⟨ret_si HR.out rfl, HB.out.trans (HB2.out.mono HB.out.size)⟩
    · have hr : (⟨(Of.body x.natAbs).toArray⟩ : ByteArray) = ⟨(Of.prt x).toArray⟩ := by
        unfold Of.prt; rw [if_neg h0]
      have HR := Lib.hid hr
      have hn : x = (x.natAbs : Int) := by omega
      have hn2 : x.natAbs ≤ 604799 := by omega
      have H1 := fun w hT => split_any x x.natAbs hn hn2 w hT
      have H2 := fun w hT hP => write_any x.natAbs hn2 w hT hP
      clear hn hr
      generalize (⟨(Of.body x.natAbs).toArray⟩ : ByteArray) = B at *
      generalize ((x.natAbs / 3600 : Nat) : Int) = p0 at *
      generalize ((x.natAbs / 60 % 60 : Nat) : Int) = p1 at *
      generalize ((x.natAbs % 60 : Nat) : Int) = p2 at *
      clear hn2
      go_enter Tryd.func17, Tryd.ntmps17
      go_wp2_with fail
      refine (H1 _ HT.out).mono ?_
      rintro e w1 ⟨rfl, hb⟩
      have HB := Lib.hid hb
      clear hb
      go_wp2_with fail
      refine (H2 _ (HT.out.bl HB.out) (HP.out.bl HB.out)).mono ?_
      rintro e w2 ⟨rfl, hb⟩
      have HB2 := Lib.hid hb
      clear hb
      go_wp2
      go_ret2
      exact ⟨ret_si HR.out rfl, HB.out.trans (HB2.out.mono HB.out.size)⟩
  · rw [if_neg h] at hS
    obtain ⟨rfl, rfl⟩ := Prod.mk.inj hS
    clear hS
    obtain ⟨hx1, hx2⟩ := hx
    by_cases h1 : x < -604799
    · clear h
      go_enter Tryd.func17, Tryd.ntmps17
      go_wp2
      go_ret2
      exact ⟨rfl, Below.refl _ _⟩
    · have h2 : 604799 < x := by omega
      clear h
      go_enter Tryd.func17, Tryd.ntmps17
      go_wp2
      go_ret2
      exact ⟨rfl, Below.refl _ _⟩
end Go.Proofs.YteahckmpjihcaaaDoor
