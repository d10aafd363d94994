/- The walk of WordFinds. -/
import Derived.Test.YtiompmplnmkakaaDoorLaw08
import Derived.Test.YtiompmplnmkakaaDoorRef08c
namespace Go.Proofs.YtiompmplnmkakaaDoor
open Go.RowKit
theorem fnd_two (W : List (List Nat)) (t : List Nat) : ∃ r1 r2 : Int, Wd.fnd W t = (r1, r2) := ⟨_, _, rfl⟩
theorem beq_selfI (a : Int) : (a == a) = true := by simp
set_option maxRecDepth 100000 in
set_option maxHeartbeats 4000000 in
/-- which words a string means is as the document says -/
theorem finds_walk (s : ByteArray) (_hs : s.size ≤ maxLen) (W0 : World) (hT : TabW W0) : Calls Tryd.prog 3 #[.string s] W0 fun e w' => e = .returned (.bool true) ∧ Below W0.heap.size W0 w' := by
  have HC := Lib.hid (Wo.mk0 hT)
  clear hT
  by_cases h : s.size ≤ 1000
  · have h1 : ¬ (1000 : Int) < (s.size : Int) := by omega
    have hz : s.size ≤ 100000 := by omega
    obtain ⟨a1, a2, ha⟩ := fnd_two (wl linesL) (Wd.low s.data.toList)
    obtain ⟨b1, b2, hb⟩ := fnd_two (wl monthsL) (Wd.low s.data.toList)
    obtain ⟨c1, c2, hc⟩ := fnd_two (wl weeksL) (Wd.low s.data.toList)
    obtain ⟨d1, d2, hd⟩ := fnd_two (wl yearsL) (Wd.low s.data.toList)
    have HA := Lib.hid ha
    have HB := Lib.hid hb
    have HW := Lib.hid hc
    have HD := Lib.hid hd
    have e1 := neq_self a1
    have e2 := neq_self a2
    have e3 := neq_self b1
    have e4 := neq_self b2
    have e5 := beq_selfI c1
    have e6 := beq_selfI c2
    have e7 := beq_selfI d1
    have e8 := beq_selfI d2
    clear ha hb hc hd h
    go_enter Tryd.func3, Tryd.ntmps3
    go_wp2_with fail
    refine (wLine_s s a1 a2 HA HC).mono ?_; rintro e w1 ⟨rfl, _, HC⟩
    go_wp2_with fail
    refine (rLine_any s hz a1 a2 HA _).mono ?_; rintro e w2 ⟨rfl, hb⟩
    replace HC := Wo.hbl HC hb
    clear hb
    go_wp2_with fail
    refine (wMonth_s s b1 b2 HB HC).mono ?_; rintro e w3 ⟨rfl, _, HC⟩
    go_wp2_with fail
    refine (rMonth_any s hz b1 b2 HB _).mono ?_; rintro e w4 ⟨rfl, hb⟩
    replace HC := Wo.hbl HC hb
    clear hb
    go_wp2_with fail
    refine (wWeek_s s c1 c2 HW HC).mono ?_; rintro e w5 ⟨rfl, _, HC⟩
    go_wp2_with fail
    refine (rWeek_any s hz c1 c2 HW _).mono ?_; rintro e w6 ⟨rfl, hb⟩
    replace HC := Wo.hbl HC hb
    clear hb
    go_wp2_with fail
    refine (wTo_s s d1 d2 HD HC).mono ?_; rintro e w7 ⟨rfl, _, HC⟩
    go_wp2_with fail
    refine (rTo_any s hz d1 d2 HD _).mono ?_; rintro e w8 ⟨rfl, hb⟩
    replace HC := Wo.hbl HC hb
    clear hb
    go_wp2_with fail
    refine (works8_s HC).mono ?_; rintro e w9 ⟨rfl, HC⟩
    go_wp2
    go_ret
    exact ⟨rfl, HC.out.1⟩
  · have h1 : (1000 : Int) < (s.size : Int) := by omega
    go_enter Tryd.func3, Tryd.ntmps3
    go_wp2_with fail
    refine (works8_s HC).mono ?_; rintro e w1 ⟨rfl, HC⟩
    go_wp2
    go_ret
    exact ⟨rfl, HC.out.1⟩
end Go.Proofs.YtiompmplnmkakaaDoor
