/- The walk of ClockBack. -/
import Derived.Test.YteahckmpjihcaaaDoorLaw06a
namespace Go.Proofs.YteahckmpjihcaaaDoor
open Go.RowKit
/-- a time of day made of numbers -/
theorem made_s {W0 w : World} (m a x b : Int) (hm : -2147483648 ≤ m ∧ m ≤ 2147483647) (ha : 0 ≤ a ∧ a < 256) (hx : Hid (m.tmod 604800 = x)) (hb : Hid (a % 3 = b)) (HC : Hid (Ks W0 w)) : Calls Tryd.prog 16 #[.int .i32 m, .int .u8 a] w fun e w' => e = .returned (.agg #[.int .i64 x, .int .i64 b]) ∧ Hid (Ks W0 w') := by
  obtain ⟨h1, h2⟩ := hm
  obtain ⟨h3, h4⟩ := ha
  go_enter Tryd.func16, Tryd.ntmps16
  go_wp2
  have e1 := hx.out
  have e2 := hb.out
  subst e1 e2
  exact bodyPost_ret (v := .agg #[.int .i64 (m.tmod 604800), .int .i64 (a % 3)]) (results_cell_row rfl _ _ w.heap.size _ #[.int .i64 (m.tmod 604800), .int .i64 (a % 3)] (0, 0) _ rfl (heap_alloc_last w _) Tryd.underlying24 rfl clkInfo) rfl ⟨rfl, Ks.hal HC _⟩
theorem made_bd {m a : Int} (hm : -2147483648 ≤ m ∧ m ≤ 2147483647) : (-604799 ≤ m.tmod 604800 ∧ m.tmod 604800 ≤ 604799) ∧ (0 ≤ a % 3 ∧ a % 3 ≤ 2) := by
  refine ⟨?_, by omega⟩
  by_cases h : 0 ≤ m
  · rw [Int.tmod_eq_emod_of_nonneg h]; omega
  · have e : m.tmod 604800 = -((-m).tmod 604800) := by rw [Int.neg_tmod]; omega
    rw [e, Int.tmod_eq_emod_of_nonneg (by omega)]; omega
set_option maxHeartbeats 4000000 in
theorem cback_same (m n a d x b : Int) (hm : -2147483648 ≤ m ∧ m ≤ 2147483647) (hn : -2147483648 ≤ n ∧ n ≤ 2147483647) (ha : 0 ≤ a ∧ a < 256) (hd : 0 ≤ d ∧ d < 256)
    (hx : Hid (m.tmod 604800 = x)) (hb : Hid (a % 3 = b)) (hy : Hid (n.tmod 604800 = x)) (hc : Hid (d % 3 = b))
    (Bx : Hid (-9223372036854775808 ≤ x ∧ x ≤ 9223372036854775807)) (Bb : Hid (-9223372036854775808 ≤ b ∧ b ≤ 9223372036854775807))
    (S : ByteArray) (hS : Hid (Cl.prs x b = (S, 0))) (hK : Hid (Cl.chk x b = 0)) (hL : Hid (S.size ≤ maxLen)) (hP : Hid (Cl.parse S.data.toList = (x, b, 0))) (hne : S.toList.isEmpty = false) 
    (W0 : World) (hTT : Tabs W0) : Calls Tryd.prog 5 #[.int .i32 m, .int .i32 n, .int .u8 a, .int .u8 d] W0 fun e w' => e = .returned (.bool true) ∧ Below W0.heap.size W0 w' := by
  have HC := Lib.hid (Ks.mk0 hTT)
  clear hTT
  go_enter Tryd.func5, Tryd.ntmps5
  go_wp2_with fail
  refine (made_s m a x b hm ha hx hb HC).mono ?_; rintro e w1 ⟨rfl, HC⟩
  go_wp2_with fail
  refine (made_s n d x b hn hd hy hc HC).mono ?_; rintro e w2 ⟨rfl, HC⟩
  go_wp2_with fail
  replace HC := Ks.hal (Ks.hal HC (.cells #[.int .i64 x, .int .i64 b] 24)) (.cells #[.int .i64 x, .int .i64 b] 24)
  have p0 := cell_al (A := .cells #[.int .i64 x, .int .i64 b] 24) (new_cell w2 #[.int .i64 x, .int .i64 b] 24 0 (.int .i64 x) rfl)
  have p1 := cell_al (A := .cells #[.int .i64 x, .int .i64 b] 24) (new_cell w2 #[.int .i64 x, .int .i64 b] 24 1 (.int .i64 b) rfl)
  have q0 : ((w2.alloc (.cells #[.int .i64 x, .int .i64 b] 24)).alloc (.cells #[.int .i64 x, .int .i64 b] 24)).cell? ⟨w2.heap.size + 1, 0, none⟩ = some (.int .i64 x) := row_cell (row_new (by simp)) rfl
  have q1 : ((w2.alloc (.cells #[.int .i64 x, .int .i64 b] 24)).alloc (.cells #[.int .i64 x, .int .i64 b] 24)).cell? ⟨w2.heap.size + 1, 1, none⟩ = some (.int .i64 b) := row_cell (row_new (by simp)) rfl
  generalize (w2.alloc (.cells #[.int .i64 x, .int .i64 b] 24)).alloc (.cells #[.int .i64 x, .int .i64 b] 24) = W1 at *
  generalize w2.heap.size = g1 at *
  refine (cprint_any x b Bx.out Bb.out S 0 hS.out _ HC.out.2.1 HC.out.2.2.2).mono ?_; rintro e w3 ⟨rfl, hb⟩; replace HC := Ks.hbl HC hb; replace p0 := cell_bl hb p0; replace p1 := cell_bl hb p1; replace q0 := cell_bl hb q0; replace q1 := cell_bl hb q1; clear hb
  go_wp2_with fail
  refine (cprint_any x b Bx.out Bb.out S 0 hS.out _ HC.out.2.1 HC.out.2.2.2).mono ?_; rintro e w4 ⟨rfl, hb⟩; replace HC := Ks.hbl HC hb; replace p0 := cell_bl hb p0; replace p1 := cell_bl hb p1; replace q0 := cell_bl hb q0; replace q1 := cell_bl hb q1; clear hb
  go_wp2_with fail
  refine (cparse_any S hL.out x b 0 hP.out _ HC.out.2.1.1 HC.out.2.2.1).mono ?_; rintro e w5 ⟨rfl, hb⟩; replace HC := Ks.hbl HC hb; replace p0 := cell_bl hb p0; replace p1 := cell_bl hb p1; replace q0 := cell_bl hb q0; replace q1 := cell_bl hb q1; clear hb
  replace p0 := cell_al (A := .cells #[.int .i64 x, .int .i64 b] 24) p0
  replace p1 := cell_al (A := .cells #[.int .i64 x, .int .i64 b] 24) p1
  replace q0 := cell_al (A := .cells #[.int .i64 x, .int .i64 b] 24) q0
  replace q1 := cell_al (A := .cells #[.int .i64 x, .int .i64 b] 24) q1
  replace HC := Ks.hal HC (.cells #[.int .i64 x, .int .i64 b] 24)
  have r0 := new_cell w5 #[.int .i64 x, .int .i64 b] 24 0 (.int .i64 x) rfl
  have r1 := new_cell w5 #[.int .i64 x, .int .i64 b] 24 1 (.int .i64 b) rfl
  go_wp2_with fail
  generalize w5.alloc (.cells #[.int .i64 x, .int .i64 b] 24) = W5 at *
  generalize w5.heap.size = g5 at *
  refine (check_any x b 0 Bx.out Bb.out hK.out _).mono ?_; rintro e w6 ⟨rfl, hb⟩; replace HC := Ks.hbl HC hb; replace p0 := cell_bl hb p0; replace p1 := cell_bl hb p1; replace q0 := cell_bl hb q0; replace q1 := cell_bl hb q1; replace r0 := cell_bl hb r0; replace r1 := cell_bl hb r1; clear hb
  go_wp2_with fail
  refine (works6_s HC).mono ?_; rintro e w7 ⟨rfl, HC⟩
  go_wp2
  go_ret
  exact ⟨rfl, HC.out.1⟩
set_option maxHeartbeats 4000000 in
theorem cback_sec (m n a d x b y c : Int) (hm : -2147483648 ≤ m ∧ m ≤ 2147483647) (hn : -2147483648 ≤ n ∧ n ≤ 2147483647) (ha : 0 ≤ a ∧ a < 256) (hd : 0 ≤ d ∧ d < 256)
    (hx : Hid (m.tmod 604800 = x)) (hb : Hid (a % 3 = b)) (hy : Hid (n.tmod 604800 = y)) (hc : Hid (d % 3 = c))
    (Bx : Hid (-9223372036854775808 ≤ x ∧ x ≤ 9223372036854775807)) (Bb : Hid (-9223372036854775808 ≤ b ∧ b ≤ 9223372036854775807)) (By : Hid (-9223372036854775808 ≤ y ∧ y ≤ 9223372036854775807)) (Bc : Hid (-9223372036854775808 ≤ c ∧ c ≤ 9223372036854775807))
    (S T : ByteArray) (hS : Hid (Cl.prs x b = (S, 0))) (hT : Hid (Cl.prs y c = (T, 0))) (hK : Hid (Cl.chk x b = 0)) (hL : Hid (S.size ≤ maxLen)) (hP : Hid (Cl.parse S.data.toList = (x, b, 0))) (hne : S.toList.isEmpty = false) (q1 : (x == y) = false) (q2 : (S.toList == T.toList) = false)
    (W0 : World) (hTT : Tabs W0) : Calls Tryd.prog 5 #[.int .i32 m, .int .i32 n, .int .u8 a, .int .u8 d] W0 fun e w' => e = .returned (.bool true) ∧ Below W0.heap.size W0 w' := by
  have HC := Lib.hid (Ks.mk0 hTT)
  clear hTT
  go_enter Tryd.func5, Tryd.ntmps5
  go_wp2_with fail
  refine (made_s m a x b hm ha hx hb HC).mono ?_; rintro e w1 ⟨rfl, HC⟩
  go_wp2_with fail
  refine (made_s n d y c hn hd hy hc HC).mono ?_; rintro e w2 ⟨rfl, HC⟩
  go_wp2_with fail
  replace HC := Ks.hal (Ks.hal HC (.cells #[.int .i64 x, .int .i64 b] 24)) (.cells #[.int .i64 y, .int .i64 c] 24)
  have p0 := cell_al (A := .cells #[.int .i64 y, .int .i64 c] 24) (new_cell w2 #[.int .i64 x, .int .i64 b] 24 0 (.int .i64 x) rfl)
  have p1 := cell_al (A := .cells #[.int .i64 y, .int .i64 c] 24) (new_cell w2 #[.int .i64 x, .int .i64 b] 24 1 (.int .i64 b) rfl)
  have q0 : ((w2.alloc (.cells #[.int .i64 x, .int .i64 b] 24)).alloc (.cells #[.int .i64 y, .int .i64 c] 24)).cell? ⟨w2.heap.size + 1, 0, none⟩ = some (.int .i64 y) := row_cell (row_new (by simp)) rfl
  have q1 : ((w2.alloc (.cells #[.int .i64 x, .int .i64 b] 24)).alloc (.cells #[.int .i64 y, .int .i64 c] 24)).cell? ⟨w2.heap.size + 1, 1, none⟩ = some (.int .i64 c) := row_cell (row_new (by simp)) rfl
  generalize (w2.alloc (.cells #[.int .i64 x, .int .i64 b] 24)).alloc (.cells #[.int .i64 y, .int .i64 c] 24) = W1 at *
  generalize w2.heap.size = g1 at *
  refine (cprint_any x b Bx.out Bb.out S 0 hS.out _ HC.out.2.1 HC.out.2.2.2).mono ?_; rintro e w3 ⟨rfl, hb⟩; replace HC := Ks.hbl HC hb; replace p0 := cell_bl hb p0; replace p1 := cell_bl hb p1; replace q0 := cell_bl hb q0; replace q1 := cell_bl hb q1; clear hb
  go_wp2_with fail
  refine (cprint_any y c By.out Bc.out T 0 hT.out _ HC.out.2.1 HC.out.2.2.2).mono ?_; rintro e w4 ⟨rfl, hb⟩; replace HC := Ks.hbl HC hb; replace p0 := cell_bl hb p0; replace p1 := cell_bl hb p1; replace q0 := cell_bl hb q0; replace q1 := cell_bl hb q1; clear hb
  go_wp2_with fail
  refine (cparse_any S hL.out x b 0 hP.out _ HC.out.2.1.1 HC.out.2.2.1).mono ?_; rintro e w5 ⟨rfl, hb⟩; replace HC := Ks.hbl HC hb; replace p0 := cell_bl hb p0; replace p1 := cell_bl hb p1; replace q0 := cell_bl hb q0; replace q1 := cell_bl hb q1; clear hb
  replace p0 := cell_al (A := .cells #[.int .i64 x, .int .i64 b] 24) p0
  replace p1 := cell_al (A := .cells #[.int .i64 x, .int .i64 b] 24) p1
  replace q0 := cell_al (A := .cells #[.int .i64 x, .int .i64 b] 24) q0
  replace q1 := cell_al (A := .cells #[.int .i64 x, .int .i64 b] 24) q1
  replace HC := Ks.hal HC (.cells #[.int .i64 x, .int .i64 b] 24)
  have r0 := new_cell w5 #[.int .i64 x, .int .i64 b] 24 0 (.int .i64 x) rfl
  have r1 := new_cell w5 #[.int .i64 x, .int .i64 b] 24 1 (.int .i64 b) rfl
  go_wp2_with fail
  generalize w5.alloc (.cells #[.int .i64 x, .int .i64 b] 24) = W5 at *
  generalize w5.heap.size = g5 at *
  refine (check_any x b 0 Bx.out Bb.out hK.out _).mono ?_; rintro e w6 ⟨rfl, hb⟩; replace HC := Ks.hbl HC hb; replace p0 := cell_bl hb p0; replace p1 := cell_bl hb p1; replace q0 := cell_bl hb q0; replace q1 := cell_bl hb q1; replace r0 := cell_bl hb r0; replace r1 := cell_bl hb r1; clear hb
  go_wp2_with fail
  refine (works6_s HC).mono ?_; rintro e w7 ⟨rfl, HC⟩
  go_wp2
  go_ret
  exact ⟨rfl, HC.out.1⟩
set_option maxHeartbeats 4000000 in
theorem cback_base (m n a d x b c : Int) (hm : -2147483648 ≤ m ∧ m ≤ 2147483647) (hn : -2147483648 ≤ n ∧ n ≤ 2147483647) (ha : 0 ≤ a ∧ a < 256) (hd : 0 ≤ d ∧ d < 256)
    (hx : Hid (m.tmod 604800 = x)) (hb : Hid (a % 3 = b)) (hy : Hid (n.tmod 604800 = x)) (hc : Hid (d % 3 = c))
    (Bx : Hid (-9223372036854775808 ≤ x ∧ x ≤ 9223372036854775807)) (Bb : Hid (-9223372036854775808 ≤ b ∧ b ≤ 9223372036854775807)) (Bc : Hid (-9223372036854775808 ≤ c ∧ c ≤ 9223372036854775807))
    (S T : ByteArray) (hS : Hid (Cl.prs x b = (S, 0))) (hT : Hid (Cl.prs x c = (T, 0))) (hK : Hid (Cl.chk x b = 0)) (hL : Hid (S.size ≤ maxLen)) (hP : Hid (Cl.parse S.data.toList = (x, b, 0))) (hne : S.toList.isEmpty = false) (q1 : (b == c) = false) (q2 : (S.toList == T.toList) = false)
    (W0 : World) (hTT : Tabs W0) : Calls Tryd.prog 5 #[.int .i32 m, .int .i32 n, .int .u8 a, .int .u8 d] W0 fun e w' => e = .returned (.bool true) ∧ Below W0.heap.size W0 w' := by
  have HC := Lib.hid (Ks.mk0 hTT)
  clear hTT
  go_enter Tryd.func5, Tryd.ntmps5
  go_wp2_with fail
  refine (made_s m a x b hm ha hx hb HC).mono ?_; rintro e w1 ⟨rfl, HC⟩
  go_wp2_with fail
  refine (made_s n d x c hn hd hy hc HC).mono ?_; rintro e w2 ⟨rfl, HC⟩
  go_wp2_with fail
  replace HC := Ks.hal (Ks.hal HC (.cells #[.int .i64 x, .int .i64 b] 24)) (.cells #[.int .i64 x, .int .i64 c] 24)
  have p0 := cell_al (A := .cells #[.int .i64 x, .int .i64 c] 24) (new_cell w2 #[.int .i64 x, .int .i64 b] 24 0 (.int .i64 x) rfl)
  have p1 := cell_al (A := .cells #[.int .i64 x, .int .i64 c] 24) (new_cell w2 #[.int .i64 x, .int .i64 b] 24 1 (.int .i64 b) rfl)
  have q0 : ((w2.alloc (.cells #[.int .i64 x, .int .i64 b] 24)).alloc (.cells #[.int .i64 x, .int .i64 c] 24)).cell? ⟨w2.heap.size + 1, 0, none⟩ = some (.int .i64 x) := row_cell (row_new (by simp)) rfl
  have q1 : ((w2.alloc (.cells #[.int .i64 x, .int .i64 b] 24)).alloc (.cells #[.int .i64 x, .int .i64 c] 24)).cell? ⟨w2.heap.size + 1, 1, none⟩ = some (.int .i64 c) := row_cell (row_new (by simp)) rfl
  generalize (w2.alloc (.cells #[.int .i64 x, .int .i64 b] 24)).alloc (.cells #[.int .i64 x, .int .i64 c] 24) = W1 at *
  generalize w2.heap.size = g1 at *
  refine (cprint_any x b Bx.out Bb.out S 0 hS.out _ HC.out.2.1 HC.out.2.2.2).mono ?_; rintro e w3 ⟨rfl, hb⟩; replace HC := Ks.hbl HC hb; replace p0 := cell_bl hb p0; replace p1 := cell_bl hb p1; replace q0 := cell_bl hb q0; replace q1 := cell_bl hb q1; clear hb
  go_wp2_with fail
  refine (cprint_any x c Bx.out Bc.out T 0 hT.out _ HC.out.2.1 HC.out.2.2.2).mono ?_; rintro e w4 ⟨rfl, hb⟩; replace HC := Ks.hbl HC hb; replace p0 := cell_bl hb p0; replace p1 := cell_bl hb p1; replace q0 := cell_bl hb q0; replace q1 := cell_bl hb q1; clear hb
  go_wp2_with fail
  refine (cparse_any S hL.out x b 0 hP.out _ HC.out.2.1.1 HC.out.2.2.1).mono ?_; rintro e w5 ⟨rfl, hb⟩; replace HC := Ks.hbl HC hb; replace p0 := cell_bl hb p0; replace p1 := cell_bl hb p1; replace q0 := cell_bl hb q0; replace q1 := cell_bl hb q1; clear hb
  replace p0 := cell_al (A := .cells #[.int .i64 x, .int .i64 b] 24) p0
  replace p1 := cell_al (A := .cells #[.int .i64 x, .int .i64 b] 24) p1
  replace q0 := cell_al (A := .cells #[.int .i64 x, .int .i64 b] 24) q0
  replace q1 := cell_al (A := .cells #[.int .i64 x, .int .i64 b] 24) q1
  replace HC := Ks.hal HC (.cells #[.int .i64 x, .int .i64 b] 24)
  have r0 := new_cell w5 #[.int .i64 x, .int .i64 b] 24 0 (.int .i64 x) rfl
  have r1 := new_cell w5 #[.int .i64 x, .int .i64 b] 24 1 (.int .i64 b) rfl
  go_wp2_with fail
  generalize w5.alloc (.cells #[.int .i64 x, .int .i64 b] 24) = W5 at *
  generalize w5.heap.size = g5 at *
  refine (check_any x b 0 Bx.out Bb.out hK.out _).mono ?_; rintro e w6 ⟨rfl, hb⟩; replace HC := Ks.hbl HC hb; replace p0 := cell_bl hb p0; replace p1 := cell_bl hb p1; replace q0 := cell_bl hb q0; replace q1 := cell_bl hb q1; replace r0 := cell_bl hb r0; replace r1 := cell_bl hb r1; clear hb
  go_wp2_with fail
  refine (works6_s HC).mono ?_; rintro e w7 ⟨rfl, HC⟩
  go_wp2
  go_ret
  exact ⟨rfl, HC.out.1⟩
theorem prt_bs_ne {x b y c : Int} (h1 : -604799 ≤ x ∧ x ≤ 604799) (b1 : 0 ≤ b ∧ b ≤ 2) (h2 : -604799 ≤ y ∧ y ≤ 604799) (c1 : 0 ≤ c ∧ c ≤ 2) (h : ¬ (x = y ∧ b = c)) : ((⟨(Cl.prt x b).toArray⟩ : ByteArray).toList == (⟨(Cl.prt y c).toArray⟩ : ByteArray).toList) = false := by
  rw [ByteArray.toList_eq, ByteArray.toList_eq]
  have e : ∀ l : List UInt8, (⟨l.toArray⟩ : ByteArray).data.toList = l := fun l => rfl
  rw [e, e]
  by_cases g : Cl.prt x b = Cl.prt y c
  · exact absurd (Cl.prt_inj h1.1 h1.2 b1.1 b1.2 h2.1 h2.2 c1.1 c1.2 g) h
  · simpa using g
theorem cprt_max (x b : Int) : Hid ((⟨(Cl.prt x b).toArray⟩ : ByteArray).size ≤ maxLen) := Lib.hid (by have := (Cl.prt_len x b).2; rw [bs_size]; unfold maxLen; omega)
theorem cback_walk (m : Int) (hm : (Lit.int .i32 m).wf = true) (n : Int) (hn : (Lit.int .i32 n).wf = true) (a : Int) (ha : (Lit.int .u8 a).wf = true) (d : Int) (hd : (Lit.int .u8 d).wf = true) (W0 : World) (hT : Tabs W0) : Calls Tryd.prog 5 #[.int .i32 m, .int .i32 n, .int .u8 a, .int .u8 d] W0 fun e w' => e = .returned (.bool true) ∧ Below W0.heap.size W0 w' := by
  have g1 := bounds_i32 hm
  have g2 := bounds_i32 hn
  have g3 := bounds_u8 ha
  have g4 := bounds_u8 hd
  have m1 : -2147483648 ≤ m ∧ m ≤ 2147483647 := by omega
  have m2 : -2147483648 ≤ n ∧ n ≤ 2147483647 := by omega
  have m3 : 0 ≤ a ∧ a < 256 := by omega
  have m4 : 0 ≤ d ∧ d < 256 := by omega
  obtain ⟨x, hx⟩ : ∃ x, m.tmod 604800 = x := ⟨_, rfl⟩
  obtain ⟨y, hy⟩ : ∃ y, n.tmod 604800 = y := ⟨_, rfl⟩
  obtain ⟨b, hb⟩ : ∃ b, a % 3 = b := ⟨_, rfl⟩
  obtain ⟨c, hc⟩ : ∃ c, d % 3 = c := ⟨_, rfl⟩
  have bx := made_bd (a := a) m1
  have by' := made_bd (a := d) m2
  rw [hx, hb] at bx
  rw [hy, hc] at by'
  have e1 : Hid (-9223372036854775808 ≤ x ∧ x ≤ 9223372036854775807) := Lib.hid (by omega)
  have e2 : Hid (-9223372036854775808 ≤ b ∧ b ≤ 9223372036854775807) := Lib.hid (by omega)
  have e3 : Hid (-9223372036854775808 ≤ y ∧ y ≤ 9223372036854775807) := Lib.hid (by omega)
  have e4 : Hid (-9223372036854775808 ≤ c ∧ c ≤ 9223372036854775807) := Lib.hid (by omega)
  have k1 := cprs_yes bx
  have k2 := cprs_yes by'
  have k3 := Cl.parse_prt bx.1.1 bx.1.2 bx.2.1 bx.2.2
  have ne : (⟨(Cl.prt x b).toArray⟩ : ByteArray).toList.isEmpty = false := ne_of_size (by have := (Cl.prt_len x b).1; rw [bs_size]; omega)
  by_cases h1 : x = y
  · subst h1
    by_cases h2 : b = c
    · subst h2
      exact cback_same m n a d x b m1 m2 m3 m4 (Lib.hid hx) (Lib.hid hb) (Lib.hid hy) (Lib.hid hc) e1 e2 _ (Lib.hid k1) (Lib.hid (chk_yes bx)) (cprt_max x b) (Lib.hid k3) ne W0 hT
    · exact cback_base m n a d x b c m1 m2 m3 m4 (Lib.hid hx) (Lib.hid hb) (Lib.hid hy) (Lib.hid hc) e1 e2 e4 _ _ (Lib.hid k1) (Lib.hid k2) (Lib.hid (chk_yes bx)) (cprt_max x b) (Lib.hid k3) ne (by simpa using h2) (prt_bs_ne bx.1 bx.2 by'.1 by'.2 (fun h => h2 h.2)) W0 hT
  · exact cback_sec m n a d x b y c m1 m2 m3 m4 (Lib.hid hx) (Lib.hid hb) (Lib.hid hy) (Lib.hid hc) e1 e2 e3 e4 _ _ (Lib.hid k1) (Lib.hid k2) (Lib.hid (chk_yes bx)) (cprt_max x b) (Lib.hid k3) ne (by simpa using h1) (prt_bs_ne bx.1 bx.2 by'.1 by'.2 (fun h => h1 h.1)) W0 hT
end Go.Proofs.YteahckmpjihcaaaDoor
