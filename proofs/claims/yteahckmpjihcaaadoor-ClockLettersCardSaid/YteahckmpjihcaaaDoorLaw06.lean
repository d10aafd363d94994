/- The examples of chapter 6 hold: the function works of the statements about layer 6 returns true. -/
import Derived.Test.YteahckmpjihcaaaDoorClk
namespace Go.Proofs.YteahckmpjihcaaaDoor
open Go.RowKit
/-- Parse, Print, Check at worlds behind this one -/
theorem kparse_s {W0 w : World} (s : ByteArray) (x b f : Int) (hs : Hid (s.size ≤ maxLen)) (h : Hid (Cl.parse s.data.toList = (x, b, f))) (HC : Hid (Ks W0 w)) : Calls Tryd.prog 10 #[.string s] w fun e w' => e = .returned (.tuple #[.agg #[.int .i64 x, .int .i64 b], .int .i64 f]) ∧ Hid (Ks W0 w') :=
  (cparse_any s hs.out x b f h.out w HC.out.2.1.1 HC.out.2.2.1).mono fun _ _ ⟨he, hb⟩ => ⟨he, Ks.hbl HC hb⟩
theorem kprint_s {W0 w : World} (x b : Int) (S : ByteArray) (f : Int) (hx : Hid (-9223372036854775808 ≤ x ∧ x ≤ 9223372036854775807)) (hb : Hid (-9223372036854775808 ≤ b ∧ b ≤ 9223372036854775807)) (hS : Hid (Cl.prs x b = (S, f))) (HC : Hid (Ks W0 w)) : Calls Tryd.prog 12 #[.agg #[.int .i64 x, .int .i64 b]] w fun e w' => e = .returned (.tuple #[.string S, .int .i64 f]) ∧ Hid (Ks W0 w') :=
  (cprint_any x b hx.out hb.out S f hS.out w HC.out.2.1 HC.out.2.2.2).mono fun _ _ ⟨he, hb⟩ => ⟨he, Ks.hbl HC hb⟩
theorem kcheck_s {W0 w : World} (x b r : Int) (hx : Hid (-9223372036854775808 ≤ x ∧ x ≤ 9223372036854775807)) (hb : Hid (-9223372036854775808 ≤ b ∧ b ≤ 9223372036854775807)) (hr : Hid (Cl.chk x b = r)) (HC : Hid (Ks W0 w)) : Calls Tryd.prog 14 #[.agg #[.int .i64 x, .int .i64 b]] w fun e w' => e = .returned (.int .i64 r) ∧ Hid (Ks W0 w') :=
  (check_any x b r hx.out hb.out hr.out w).mono fun _ _ ⟨he, hb⟩ => ⟨he, Ks.hbl HC hb⟩
theorem reads_s {W0 w : World} (s : ByteArray) (x b : Int) (hs : Hid (s.size ≤ maxLen)) (h : Hid (Cl.parse s.data.toList = (x, b, 0))) (HC : Hid (Ks W0 w)) : Calls Tryd.prog 18 #[.string s, .int .i64 x, .int .i64 b] w fun e w' => e = .returned (.bool true) ∧ Hid (Ks W0 w') := by
  go_enter Tryd.func18, Tryd.ntmps18
  go_wp2_with fail
  refine (kparse_s s x b 0 hs h HC).mono ?_
  rintro e w1 ⟨rfl, HC⟩
  go_wp2
  go_ret
  exact ⟨rfl, Ks.hal HC _⟩
theorem fails_s {W0 w : World} (s : ByteArray) (f : Int) (hs : Hid (s.size ≤ maxLen)) (h : Hid (Cl.parse s.data.toList = (0, 0, f))) (HC : Hid (Ks W0 w)) : Calls Tryd.prog 19 #[.string s, .int .i64 f] w fun e w' => e = .returned (.bool true) ∧ Hid (Ks W0 w') := by
  go_enter Tryd.func19, Tryd.ntmps19
  go_wp2_with fail
  refine (kparse_s s 0 0 f hs h HC).mono ?_
  rintro e w1 ⟨rfl, HC⟩
  go_wp2
  go_ret
  exact ⟨rfl, Ks.hal HC _⟩
theorem prints_yes {W0 w : World} (x b : Int) (S : ByteArray) (hx : Hid (-9223372036854775808 ≤ x ∧ x ≤ 9223372036854775807)) (hb : Hid (-9223372036854775808 ≤ b ∧ b ≤ 9223372036854775807)) (hS : Hid (Cl.prs x b = (S, 0))) (hne : S.toList.isEmpty = false) (HC : Hid (Ks W0 w)) : Calls Tryd.prog 20 #[.int .i64 x, .int .i64 b, .string S] w fun e w' => e = .returned (.bool true) ∧ Hid (Ks W0 w') := by
  go_enter Tryd.func20, Tryd.ntmps20
  go_wp2_with fail
  refine (kprint_s x b S 0 hx hb hS HC).mono ?_
  rintro e w1 ⟨rfl, HC⟩
  go_wp2
  go_ret
  exact ⟨rfl, HC⟩
theorem prints_no {W0 w : World} (x b : Int) (hx : Hid (-9223372036854775808 ≤ x ∧ x ≤ 9223372036854775807)) (hb : Hid (-9223372036854775808 ≤ b ∧ b ≤ 9223372036854775807)) (hS : Hid (Cl.prs x b = (⟨#[]⟩, 2))) (HC : Hid (Ks W0 w)) : Calls Tryd.prog 20 #[.int .i64 x, .int .i64 b, .string ⟨#[]⟩] w fun e w' => e = .returned (.bool true) ∧ Hid (Ks W0 w') := by
  go_enter Tryd.func20, Tryd.ntmps20
  go_wp2_with fail
  refine (kprint_s x b ⟨#[]⟩ 2 hx hb hS HC).mono ?_
  rintro e w1 ⟨rfl, HC⟩
  go_wp2
  go_ret
  exact ⟨rfl, HC⟩
/-- small numbers -/
theorem ne_of_size {s : ByteArray} (h : 0 < s.size) : s.toList.isEmpty = false := by
  rw [ByteArray.toList_eq]
  have : s.data.toList ≠ [] := by
    intro e
    obtain ⟨⟨l⟩⟩ := s
    have e2 : l = [] := e
    subst e2
    exact Nat.lt_irrefl 0 h
  simpa using this
theorem sm_i {x : Int} (h : -1000000 ≤ x) (h2 : x ≤ 1000000) : Hid (-9223372036854775808 ≤ x ∧ x ≤ 9223372036854775807) := Lib.hid (by omega)
theorem sz_i {s : ByteArray} (h : s.size ≤ 1000) : Hid (s.size ≤ maxLen) := Lib.hid (by unfold maxLen; omega)
set_option maxRecDepth 100000 in
set_option maxHeartbeats 4000000 in
theorem works6_s {W0 w : World} (HC : Hid (Ks W0 w)) : Calls Tryd.prog 9 #[] w fun e w' => e = .returned (.bool true) ∧ Hid (Ks W0 w') := by
  go_enter Tryd.func9, Tryd.ntmps9
  go_wp2_with fail
  refine (reads_s ⟨#[50, 58, 48, 48]⟩ (7200) 0 (sz_i (by decide)) (Lib.hid (by decide +kernel)) HC).mono ?_; rintro e w1 ⟨rfl, HC⟩
  go_wp2_with fail
  refine (reads_s ⟨#[50, 58, 48, 48, 115]⟩ (7200) 1 (sz_i (by decide)) (Lib.hid (by decide +kernel)) HC).mono ?_; rintro e w1 ⟨rfl, HC⟩
  go_wp2_with fail
  refine (reads_s ⟨#[49, 58, 48, 48, 117]⟩ (3600) 2 (sz_i (by decide)) (Lib.hid (by decide +kernel)) HC).mono ?_; rintro e w1 ⟨rfl, HC⟩
  go_wp2_with fail
  refine (reads_s ⟨#[48, 122]⟩ (0) 2 (sz_i (by decide)) (Lib.hid (by decide +kernel)) HC).mono ?_; rintro e w1 ⟨rfl, HC⟩
  go_wp2_with fail
  refine (reads_s ⟨#[45, 49, 58, 51, 48, 119]⟩ (-5400) 0 (sz_i (by decide)) (Lib.hid (by decide +kernel)) HC).mono ?_; rintro e w1 ⟨rfl, HC⟩
  go_wp2_with fail
  refine (fails_s ⟨#[]⟩ 5 (sz_i (by decide)) (Lib.hid (by decide +kernel)) HC).mono ?_; rintro e w1 ⟨rfl, HC⟩
  go_wp2_with fail
  refine (fails_s ⟨#[115]⟩ 5 (sz_i (by decide)) (Lib.hid (by decide +kernel)) HC).mono ?_; rintro e w1 ⟨rfl, HC⟩
  go_wp2_with fail
  refine (fails_s ⟨#[50, 58, 48, 48, 120]⟩ 5 (sz_i (by decide)) (Lib.hid (by decide +kernel)) HC).mono ?_; rintro e w1 ⟨rfl, HC⟩
  go_wp2_with fail
  refine (fails_s ⟨#[50, 58, 48, 48, 115, 115]⟩ 5 (sz_i (by decide)) (Lib.hid (by decide +kernel)) HC).mono ?_; rintro e w1 ⟨rfl, HC⟩
  go_wp2_with fail
  refine (fails_s ⟨#[48, 50, 58, 48, 48]⟩ 5 (sz_i (by decide)) (Lib.hid (by decide +kernel)) HC).mono ?_; rintro e w1 ⟨rfl, HC⟩
  go_wp2_with fail
  refine (fails_s ⟨#[49, 54, 56, 58, 48, 48, 117]⟩ 3 (sz_i (by decide)) (Lib.hid (by decide +kernel)) HC).mono ?_; rintro e w1 ⟨rfl, HC⟩
  go_wp2_with fail
  refine (prints_yes (7200) 1 ⟨#[50, 58, 48, 48, 115]⟩ (sm_i (by decide) (by decide)) (sm_i (by decide) (by decide)) (Lib.hid (by decide +kernel)) (ne_of_size (by decide)) HC).mono ?_; rintro e w1 ⟨rfl, HC⟩
  go_wp2_with fail
  refine (prints_yes (0) 2 ⟨#[48, 58, 48, 48, 117]⟩ (sm_i (by decide) (by decide)) (sm_i (by decide) (by decide)) (Lib.hid (by decide +kernel)) (ne_of_size (by decide)) HC).mono ?_; rintro e w1 ⟨rfl, HC⟩
  go_wp2_with fail
  refine (prints_yes (-1) 0 ⟨#[45, 48, 58, 48, 48, 58, 48, 49]⟩ (sm_i (by decide) (by decide)) (sm_i (by decide) (by decide)) (Lib.hid (by decide +kernel)) (ne_of_size (by decide)) HC).mono ?_; rintro e w1 ⟨rfl, HC⟩
  go_wp2_with fail
  refine (prints_no (0) 3 (sm_i (by decide) (by decide)) (sm_i (by decide) (by decide)) (Lib.hid (by decide +kernel)) HC).mono ?_; rintro e w1 ⟨rfl, HC⟩
  go_wp2_with fail
  refine (prints_no (604800) 0 (sm_i (by decide) (by decide)) (sm_i (by decide) (by decide)) (Lib.hid (by decide +kernel)) HC).mono ?_; rintro e w1 ⟨rfl, HC⟩
  go_wp2
  go_ret
  exact ⟨rfl, HC⟩
end Go.Proofs.YteahckmpjihcaaaDoor
