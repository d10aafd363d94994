/- The walk of ClockReads. -/
import Derived.Test.YteahckmpjihcaaaDoorLaw06c
namespace Go.Proofs.YteahckmpjihcaaaDoor
open Go.RowKit
set_option maxHeartbeats 4000000 in
theorem creads_ok (s : ByteArray) (hs : s.size ≤ 200) (x b : Int) (hp : Cl.parse s.data.toList = (x, b, 0)) (S : ByteArray) (Bx : Hid (-9223372036854775808 ≤ x ∧ x ≤ 9223372036854775807)) (Bb : Hid (-9223372036854775808 ≤ b ∧ b ≤ 9223372036854775807))
    (hS : Hid (Cl.prs x b = (S, 0))) (hK : Hid (Cl.chk x b = 0)) (hL : Hid (S.size ≤ maxLen)) (hP : Hid (Cl.parse S.data.toList = (x, b, 0))) (W0 : World) (hT : Tabs W0) : Calls Tryd.prog 6 #[.string s] W0 fun e w' => e = .returned (.bool true) ∧ Below W0.heap.size W0 w' := by
  have HC := Lib.hid (Ks.mk0 hT)
  have HQ := Lib.hid hp
  have HZ : Hid (s.size ≤ maxLen) := Lib.hid (by unfold maxLen; omega)
  have h2 : (s.size : Int) ≤ 200 := by omega
  clear hT hp hs
  go_enter Tryd.func6, Tryd.ntmps6
  go_wp2_with fail
  refine (kparse_s s x b 0 HZ HQ HC).mono ?_; rintro e w1 ⟨rfl, HC⟩
  replace HC := Ks.hal HC (.cells #[.int .i64 x, .int .i64 b] 24)
  have p0 := new_cell w1 #[.int .i64 x, .int .i64 b] 24 0 (.int .i64 x) rfl
  have p1 := new_cell w1 #[.int .i64 x, .int .i64 b] 24 1 (.int .i64 b) rfl
  go_wp2_with fail
  generalize w1.alloc (.cells #[.int .i64 x, .int .i64 b] 24) = W1 at *
  generalize w1.heap.size = g1 at *
  refine (cprint_any x b Bx.out Bb.out S 0 hS.out _ HC.out.2.1 HC.out.2.2.2).mono ?_; rintro e w3 ⟨rfl, hb⟩; replace HC := Ks.hbl HC hb; replace p0 := cell_bl hb p0; replace p1 := cell_bl hb p1; clear hb
  go_wp2_with fail
  refine (cparse_any S hL.out x b 0 hP.out _ HC.out.2.1.1 HC.out.2.2.1).mono ?_; rintro e w5 ⟨rfl, hb⟩; replace HC := Ks.hbl HC hb; replace p0 := cell_bl hb p0; replace p1 := cell_bl hb p1; clear hb
  replace p0 := cell_al (A := .cells #[.int .i64 x, .int .i64 b] 24) p0
  replace p1 := cell_al (A := .cells #[.int .i64 x, .int .i64 b] 24) p1
  replace HC := Ks.hal HC (.cells #[.int .i64 x, .int .i64 b] 24)
  have r0 := new_cell w5 #[.int .i64 x, .int .i64 b] 24 0 (.int .i64 x) rfl
  have r1 := new_cell w5 #[.int .i64 x, .int .i64 b] 24 1 (.int .i64 b) rfl
  go_wp2_with fail
  generalize w5.alloc (.cells #[.int .i64 x, .int .i64 b] 24) = W5 at *
  generalize w5.heap.size = g5 at *
  refine (check_any x b 0 Bx.out Bb.out hK.out _).mono ?_; rintro e w6 ⟨rfl, hb⟩; replace HC := Ks.hbl HC hb; replace p0 := cell_bl hb p0; replace p1 := cell_bl hb p1; replace r0 := cell_bl hb r0; replace r1 := cell_bl hb r1; clear hb
  go_wp2_with fail
  refine (works6_s HC).mono ?_; rintro e w7 ⟨rfl, HC⟩
  go_wp2
  go_ret
  exact ⟨rfl, HC.out.1⟩
set_option maxHeartbeats 4000000 in
theorem creads_no (s : ByteArray) (hs : s.size ≤ 200) (f : Int) (hf : f = 3 ∨ f = 5) (hp : Cl.parse s.data.toList = (0, 0, f)) (W0 : World) (hT : Tabs W0) : Calls Tryd.prog 6 #[.string s] W0 fun e w' => e = .returned (.bool true) ∧ Below W0.heap.size W0 w' := by
  have HC := Lib.hid (Ks.mk0 hT)
  have HQ := Lib.hid hp
  have HZ : Hid (s.size ≤ maxLen) := Lib.hid (by unfold maxLen; omega)
  have h2 : (s.size : Int) ≤ 200 := by omega
  clear hT hp hs
  rcases hf with rfl | rfl
  all_goals
    go_enter Tryd.func6, Tryd.ntmps6
    go_wp2_with fail
    refine (kparse_s s 0 0 _ HZ HQ HC).mono ?_; rintro e w1 ⟨rfl, HC⟩
    replace HC := Ks.hal HC (.cells #[.int .i64 0, .int .i64 0] 24)
    have p0 := new_cell w1 #[.int .i64 0, .int .i64 0] 24 0 (.int .i64 0) rfl
    have p1 := new_cell w1 #[.int .i64 0, .int .i64 0] 24 1 (.int .i64 0) rfl
    go_wp2_with fail
    refine (works6_s HC).mono ?_; rintro e w7 ⟨rfl, HC⟩
    go_wp2
    go_ret
    exact ⟨rfl, HC.out.1⟩
theorem creads_walk (s : ByteArray) (_hs : s.size ≤ maxLen) (W0 : World) (hT : Tabs W0) : Calls Tryd.prog 6 #[.string s] W0 fun e w' => e = .returned (.bool true) ∧ Below W0.heap.size W0 w' := by
  by_cases h : s.size ≤ 200
  · obtain ⟨x, b, f, hp⟩ : ∃ x b f, Cl.parse s.data.toList = (x, b, f) := ⟨_, _, _, rfl⟩
    have bd := Cl.parse_bd s.data.toList
    rw [hp] at bd
    obtain ⟨bx, bb, bf⟩ := bd
    rcases bf with e | ⟨e, e1, e2⟩ | ⟨e, e1, e2⟩
    · have e : f = 0 := e
      subst e
      have e1 : Hid (-9223372036854775808 ≤ x ∧ x ≤ 9223372036854775807) := Lib.hid (by simp only at bx; omega)
      have e2 : Hid (-9223372036854775808 ≤ b ∧ b ≤ 9223372036854775807) := Lib.hid (by simp only at bb; omega)
      exact creads_ok s h x b hp _ e1 e2 (Lib.hid (cprs_yes ⟨bx, bb⟩)) (Lib.hid (chk_yes ⟨bx, bb⟩)) (cprt_max x b) (Lib.hid (Cl.parse_prt bx.1 bx.2 bb.1 bb.2)) W0 hT
    · have e : f = 3 := e
      have e1 : x = 0 := e1
      have e2 : b = 0 := e2
      subst e e1 e2
      exact creads_no s h 3 (.inl rfl) hp W0 hT
    · have e : f = 5 := e
      have e1 : x = 0 := e1
      have e2 : b = 0 := e2
      subst e e1 e2
      exact creads_no s h 5 (.inr rfl) hp W0 hT
  · have HC := Lib.hid (Ks.mk0 hT)
    have h2 : ¬ (s.size : Int) ≤ 200 := by omega
    clear hT
    go_enter Tryd.func6, Tryd.ntmps6
    go_wp2_with fail
    refine (works6_s HC).mono ?_; rintro e w1 ⟨rfl, HC⟩
    go_wp2
    go_ret
    exact ⟨rfl, HC.out.1⟩
end Go.Proofs.YteahckmpjihcaaaDoor
