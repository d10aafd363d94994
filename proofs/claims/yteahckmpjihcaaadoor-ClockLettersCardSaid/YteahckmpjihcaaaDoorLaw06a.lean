/- The walks of ClockStrings and ClockTimes. -/
import Derived.Test.YteahckmpjihcaaaDoorLaw06
import Derived.Test.YteahckmpjihcaaaDoorRef06
import Derived.Deep.RegionHeld3
namespace Go.Proofs.YteahckmpjihcaaaDoor
open Go.RowKit
/-- what the listed variables give -/
def Tabs (w : World) : Prop := (CtsW w ∧ PowW w) ∧ LetW w ∧ CanW w
theorem cstrings_walk (s : ByteArray) (hs : s.size ≤ maxLen) (W0 : World) (hT : Tabs W0) : Calls Tryd.prog 3 #[.string s] W0 fun e w' => e = .returned (.bool true) ∧ Below W0.heap.size W0 w' := by
  have HC := Lib.hid (Ks.mk0 hT)
  clear hT
  by_cases h : s.size ≤ 1000
  · obtain ⟨x, b, f, hp⟩ : ∃ x b f, Cl.parse s.data.toList = (x, b, f) := ⟨_, _, _, rfl⟩
    have HP := Lib.hid hp
    have HL := Lib.hid hs
    have HB := fun w => rparse6_any s h x b f hp w
    have h2 : (s.size : Int) ≤ 1000 := by omega
    clear hs hp
    go_enter Tryd.func3, Tryd.ntmps3
    go_wp2_with fail
    refine (kparse_s s x b f HL HP HC).mono ?_; rintro e w1 ⟨rfl, HC⟩
    go_wp2_with fail
    replace HC := Ks.hal HC (.cells #[.int .i64 x, .int .i64 b] 24)
    have p0 := new_cell w1 #[.int .i64 x, .int .i64 b] 24 0 (.int .i64 x) rfl
    have p1 := new_cell w1 #[.int .i64 x, .int .i64 b] 24 1 (.int .i64 b) rfl
    generalize w1.alloc (.cells #[.int .i64 x, .int .i64 b] 24) = W1 at *
    generalize w1.heap.size = g1 at *
    refine (HB _).mono ?_; rintro e w2 ⟨rfl, hb⟩; replace HC := Ks.hbl HC hb; replace p0 := cell_bl hb p0; replace p1 := cell_bl hb p1; clear hb
    have q0 := cell_al (A := .cells #[.int .i64 x, .int .i64 b] 24) p0
    have q1 := cell_al (A := .cells #[.int .i64 x, .int .i64 b] 24) p1
    go_wp2_with fail
    refine (works6_s (Ks.hal HC _)).mono ?_; rintro e w1 ⟨rfl, HC⟩
    go_wp2
    go_ret
    exact ⟨rfl, HC.out.1⟩
  · have h2 : ¬ (s.size : Int) ≤ 1000 := by omega
    go_enter Tryd.func3, Tryd.ntmps3
    go_wp2_with fail
    refine (works6_s HC).mono ?_; rintro e w1 ⟨rfl, HC⟩
    go_wp2
    go_ret
    exact ⟨rfl, HC.out.1⟩
theorem works6_b {W0 w : World} (h : Ks W0 w) : Calls Tryd.prog 9 #[] w fun e w' => e = .returned (.bool true) ∧ Below w.heap.size w w' :=
  (works6_s (Lib.hid (Ks.mk0 h.2))).mono fun _ _ ⟨he, hb⟩ => ⟨he, hb.out.1⟩
set_option maxHeartbeats 2000000 in
theorem ctimes_walk (x : Int) (hx : (Lit.int .i64 x).wf = true) (b : Int) (hb : (Lit.int .i64 b).wf = true) (W0 : World) (hT : Tabs W0) : Calls Tryd.prog 4 #[.agg #[.int .i64 x, .int .i64 b]] W0 fun e w' => e = .returned (.bool true) ∧ Below W0.heap.size W0 w' := by
  have HC := Lib.hid (Ks.mk0 hT)
  have HX := Lib.hid (bd_i64 hx)
  have HB := Lib.hid (bd_i64 hb)
  obtain ⟨S, f, hp⟩ : ∃ S f, Cl.prs x b = (S, f) := ⟨_, _, rfl⟩
  have HP := Lib.hid hp
  obtain ⟨r, hr⟩ : ∃ r, Cl.chk x b = r := ⟨_, rfl⟩
  have HR := Lib.hid hr
  clear hT hx hb hp hr
  go_enter Tryd.func4, Tryd.ntmps4
  go_wp2_with fail
  replace HC := Ks.hal HC (.cells #[.int .i64 x, .int .i64 b] 24)
  have p0 := new_cell W0 #[.int .i64 x, .int .i64 b] 24 0 (.int .i64 x) rfl
  have p1 := new_cell W0 #[.int .i64 x, .int .i64 b] 24 1 (.int .i64 b) rfl
  generalize W0.alloc (.cells #[.int .i64 x, .int .i64 b] 24) = W1 at *
  generalize W0.heap.size = g1 at *
  refine (cprint_any x b HX.out HB.out S f HP.out _ HC.out.2.1 HC.out.2.2.2).mono ?_; rintro e w2 ⟨rfl, hb⟩; replace HC := Ks.hbl HC hb; replace p0 := cell_bl hb p0; replace p1 := cell_bl hb p1; clear hb
  go_wp2_with fail
  refine (rprint6_any x b HX.out HB.out S f HP.out _).mono ?_; rintro e w2 ⟨rfl, hb⟩; replace HC := Ks.hbl HC hb; replace p0 := cell_bl hb p0; replace p1 := cell_bl hb p1; clear hb
  go_wp2_with fail
  replace HC := Ks.hdr HC
  go_region_held3 (fun w' => w'.cell? ⟨g1, 0, none⟩ = some (.int .i64 x) ∧ w'.cell? ⟨g1, 1, none⟩ = some (.int .i64 b) ∧ Ks W0 w') (first | exact ⟨p0, p1, HC.out⟩)
    (first
      | (go_at_call 14; refine (check_any x b r HX.out HB.out HR.out _).mono ?_; rintro e w3 ⟨rfl, hb⟩; replace p0 := cell_bl hb p0; replace p1 := cell_bl hb p1; replace HC := Ks.hbl HC hb; clear hb)
      | (go_at_call 15; refine (rcheck_any x b r HX.out HB.out HR.out _).mono ?_; rintro e w3 ⟨rfl, hb⟩; replace p0 := cell_bl hb p0; replace p1 := cell_bl hb p1; replace HC := Ks.hbl HC hb; clear hb)
      | (go_at_call 9; refine (works6_b HC.out).mono ?_; rintro e w3 ⟨rfl, hb⟩; replace p0 := cell_bl hb p0; replace p1 := cell_bl hb p1; replace HC := Ks.hbl HC hb; clear hb))
  go_wp2
  go_ret
  exact ⟨rfl, HC.out.1⟩
end Go.Proofs.YteahckmpjihcaaaDoor
