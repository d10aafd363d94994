/- The walk of LexemeLong. -/
import Derived.Test.YtlekbbggbfhgaaaDoorLaw05
import Derived.Test.YtlekbbggbfhgaaaDoorLv
namespace Go.Proofs.YtlekbbggbfhgaaaDoor
open Go.RowKit
/-- works, under a state -/
theorem works_s {W0 w : World} (HC : Hid (Ms W0 w)) : Calls Tryd.prog 11 #[] w fun e w' => e = .returned (.bool true) ∧ Hid (Ms W0 w') :=
  (works5_any w HC.out.2).mono fun _ _ ⟨he, hb⟩ => ⟨he, Ms.hbl HC hb⟩
theorem fields_s {W0 w : World} (s : ByteArray) (F : List ByteArray) (c : Int) (h : Hid (flds s = (F, c))) (HC : Hid (Ms W0 w)) :
    Calls Tryd.prog 17 #[.string s] w fun e w' => ∃ v, e = .returned (.tuple #[v, .int .i64 c]) ∧ Hid (Strs w' v F) ∧ Below w.heap.size w w' ∧ Hid (Ms W0 w') :=
  (fields_any s F c h.out w).mono fun _ _ ⟨v, he, hs, hb⟩ => ⟨v, he, Lib.hid hs, hb, Ms.hbl HC hb⟩
theorem lines_s {W0 w : World} (s : ByteArray) (hs : s.size ≤ 100000000) (L : List ByteArray) (n c : Int) (h : Hid (Lx.lns s.data.toList = (L, n, c))) (HC : Hid (Ms W0 w)) :
    Calls Tryd.prog 12 #[.string s] w fun e w' => ∃ v, e = .returned (.tuple #[v, .int .i64 n, .int .i64 c]) ∧ Hid (Strs w' v L) ∧ Below w.heap.size w w' ∧ Hid (Ms W0 w') :=
  (lines_any s hs L n c h.out w HC.out.2).mono fun _ _ ⟨v, he, hs, hb⟩ => ⟨v, he, Lib.hid hs, hb, Ms.hbl HC hb⟩
theorem join_s {W0 w : World} (v : Value) (L : List ByteArray) (hl : L.length ≤ 1000) (hz : ∀ s ∈ L, s.size ≤ 1000) (S : ByteArray) (c : Int) (h : Hid (Lx.jn (L.map (·.data.toList)) = (S, c))) (hI : Strs w v L) (HC : Hid (Ms W0 w)) :
    Calls Tryd.prog 19 #[v] w fun e w' => e = .returned (.tuple #[.string S, .int .i64 c]) ∧ Below w.heap.size w w' ∧ Hid (Ms W0 w') :=
  (join_any v L hl hz S c h.out w hI).mono fun _ _ ⟨he, hb⟩ => ⟨he, hb, Ms.hbl HC hb⟩
theorem Strs.len {w : World} {v : Value} {L : List ByteArray} (h : Strs w v L) : ∃ a c, v = .slice a L.length c := by
  rcases h with ⟨a, c, rfl, rfl⟩ | ⟨b, o, c, rfl, _⟩
  · exact ⟨_, _, rfl⟩
  · exact ⟨_, _, rfl⟩
theorem rep_any {W0 w : World} (s : ByteArray) (x : Int) (n : Nat) (hx : x = (n : Int)) (hn : s.size * n ≤ 100000000) (hn2 : n ≤ 100000000) (S : ByteArray) (hS : Hid (Lx.bs (Lib.repeatL s.data.toList n) = S)) (HC : Hid (Ms W0 w)) : Calls Tryd.prog 29 #[.string s, .int .i64 x] w fun e w' => e = .returned (.string S) ∧ Hid (Ms W0 w') := by
  subst hx
  refine (Tryd.strings_Repeat s n w (by omega) (by omega)).mono ?_
  rintro e w' ⟨rfl, hb⟩
  exact ⟨by rw [← hS.out]; rfl, Ms.hbl HC hb⟩
set_option maxRecDepth 100000 in
set_option maxHeartbeats 4000000 in
theorem long_a (a b : Int) (m k : Nat) (ha : a = (m : Int)) (hm : m ≤ 100) (hb0 : 0 ≤ b) (hb1 : b < 256) (hk : b % 20 = (k : Int)) (W0 : World) (hM : MaxW W0) : Calls Tryd.prog 9 #[.int .u8 a, .int .u8 b] W0 fun e w' => e = .returned (.bool true) ∧ Below W0.heap.size W0 w' := by
  have HC := Lib.hid (Ms.mk0 hM)
  have hk2 : k < 20 := by omega
  have hX : Lx.bs (Lib.repeatL (ByteArray.data ⟨#[120]⟩).toList (200 + m)) = Lx.bs (Lx.xs (200 + m)) := by rw [show (ByteArray.data ⟨#[120]⟩).toList = [120] from rfl, Lx.repeat_one]; rfl
  have hsz : (Lx.bs (Lx.xs (200 + m))).size = 200 + m := by rw [Lx.size_bs, Lx.xs_len]
  have hf : flds (Lx.bs (Lx.xs (200 + m))) = ([Lx.bs (Lx.xs (200 + m))], 0) := by
    unfold flds
    rw [if_neg (by omega), Lx.data_bs, Lx.xs_fields _ (by omega)]; rfl
  have hj : Lx.jn ([Lx.bs (Lx.xs (200 + m))].map (·.data.toList)) = (Lx.bs (Lx.xs (200 + m)), 0) := by
    rw [List.map_cons, List.map_nil, Lx.data_bs, Lx.xs_join _ (by omega), if_neg (by omega)]
  have hRs : (Lx.bs (Lib.repeatL [97, 10] k)).size = k * 2 := by rw [Lx.size_bs, Lib.repeatL_length]; rfl
  have hT : Lx.bs (Lib.repeatL [97, 10] k) ++ Lx.bs (Lx.xs (200 + m)) ++ ⟨#[10, 98]⟩ = Lx.bs (Lib.repeatL [97, 10] k ++ Lx.xs (200 + m) ++ [10, 98]) := by
    rw [app_bs, show (⟨#[10, 98]⟩ : ByteArray) = Lx.bs [10, 98] from rfl, app_bs]
  have hl : Lx.lns (Lx.bs (Lib.repeatL [97, 10] k) ++ Lx.bs (Lx.xs (200 + m)) ++ ⟨#[10, 98]⟩).data.toList = ((List.replicate k [97] ++ [Lx.xs (200 + m), [98]]).map Lx.bs, 0, 0) := by
    rw [hT, Lx.data_bs, Lx.xs_lines _ _ (by omega) (by omega), if_neg (by omega)]
  have hLn : ((List.replicate k [97] ++ [Lx.xs (200 + m), [98]]).map Lx.bs).length = k + 2 := by simp
  generalize (List.replicate k [97] ++ [Lx.xs (200 + m), [98]]).map Lx.bs = LL at *
  generalize Lx.bs (Lx.xs (200 + m)) = X at *
  clear hT
  have HX := Lib.hid hX
  generalize hR : Lx.bs (Lib.repeatL [97, 10] k) = R at *
  have HR : Hid (Lx.bs (Lib.repeatL (ByteArray.data ⟨#[97, 10]⟩).toList k) = R) := Lib.hid hR
  have HF := Lib.hid hf
  have HJ := Lib.hid hj
  have HL := Lib.hid hl
  have q1 : ¬ 9223372036854775807 < R.size + X.size := by omega
  have q2 : ¬ 9223372036854775807 < R.size + X.size + 2 := by omega
  have hx0 : (X.toList == X.toList) = true := beq_self_eq_true _
  clear hM hX hf hj hR hl
  subst ha
  go_enter Tryd.func9, Tryd.ntmps9
  go_wp2_with fail
  refine (rep_any _ _ (200 + m) (by omega) (by rw [show (⟨#[120]⟩ : ByteArray).size = 1 from rfl]; omega) (by omega) X HX HC).mono ?_; rintro e w1 ⟨rfl, HC⟩
  go_wp2_with fail
  refine (fields_s X _ _ HF HC).mono ?_; rintro e w2 ⟨v, rfl, HV, _, HC⟩
  obtain ⟨va, vc, rfl⟩ := HV.out.len
  go_wp2_with fail
  refine (join_s _ [X] (by simp) (by simp; omega) X 0 HJ (strs_new [X] rfl rfl (by simp) rfl) (Ms.hal HC _)).mono ?_; rintro e w3 ⟨rfl, _, HC⟩
  go_wp2_with fail
  refine (rep_any _ _ k (by omega) (by rw [show (⟨#[97, 10]⟩ : ByteArray).size = 2 from rfl]; omega) (by omega) R HR HC).mono ?_; rintro e w4 ⟨rfl, HC⟩
  go_wp2_with fail
  refine (lines_s _ (by rw [ByteArray.size_append, ByteArray.size_append, show (⟨#[10, 98]⟩ : ByteArray).size = 2 from rfl]; omega) LL 0 0 HL HC).mono ?_; rintro e w5 ⟨u, rfl, HU, _, HC⟩
  obtain ⟨ua, uc, rfl⟩ := HU.out.len
  go_wp2_with fail
  refine (works_s HC).mono ?_; rintro e w6 ⟨rfl, HC⟩
  go_wp2
  go_ret
  exact ⟨rfl, HC.out.1⟩
set_option maxRecDepth 100000 in
set_option maxHeartbeats 4000000 in
theorem long_b (a b : Int) (m k : Nat) (ha : a = (m : Int)) (hm : 100 < m) (hm2 : m < 256) (hb0 : 0 ≤ b) (hb1 : b < 256) (hk : b % 20 = (k : Int)) (W0 : World) (hM : MaxW W0) : Calls Tryd.prog 9 #[.int .u8 a, .int .u8 b] W0 fun e w' => e = .returned (.bool true) ∧ Below W0.heap.size W0 w' := by
  have HC := Lib.hid (Ms.mk0 hM)
  have hk2 : k < 20 := by omega
  have hX : Lx.bs (Lib.repeatL (ByteArray.data ⟨#[120]⟩).toList (200 + m)) = Lx.bs (Lx.xs (200 + m)) := by rw [show (ByteArray.data ⟨#[120]⟩).toList = [120] from rfl, Lx.repeat_one]; rfl
  have hsz : (Lx.bs (Lx.xs (200 + m))).size = 200 + m := by rw [Lx.size_bs, Lx.xs_len]
  have hf : flds (Lx.bs (Lx.xs (200 + m))) = ([], 6) := by
    unfold flds
    rw [if_pos (by omega)]
  have hj : Lx.jn ([Lx.bs (Lx.xs (200 + m))].map (·.data.toList)) = (⟨#[]⟩, 6) := by
    rw [List.map_cons, List.map_nil, Lx.data_bs, Lx.xs_join _ (by omega), if_pos (by omega)]
  have hRs : (Lx.bs (Lib.repeatL [97, 10] k)).size = k * 2 := by rw [Lx.size_bs, Lib.repeatL_length]; rfl
  have hT : Lx.bs (Lib.repeatL [97, 10] k) ++ Lx.bs (Lx.xs (200 + m)) ++ ⟨#[10, 98]⟩ = Lx.bs (Lib.repeatL [97, 10] k ++ Lx.xs (200 + m) ++ [10, 98]) := by
    rw [app_bs, show (⟨#[10, 98]⟩ : ByteArray) = Lx.bs [10, 98] from rfl, app_bs]
  have hl : Lx.lns (Lx.bs (Lib.repeatL [97, 10] k) ++ Lx.bs (Lx.xs (200 + m)) ++ ⟨#[10, 98]⟩).data.toList = ([], (k : Int) + 1, 6) := by
    rw [hT, Lx.data_bs, Lx.xs_lines _ _ (by omega) (by omega), if_pos (by omega)]
  generalize Lx.bs (Lx.xs (200 + m)) = X at *
  clear hT
  have HX := Lib.hid hX
  generalize hR : Lx.bs (Lib.repeatL [97, 10] k) = R at *
  have HR : Hid (Lx.bs (Lib.repeatL (ByteArray.data ⟨#[97, 10]⟩).toList k) = R) := Lib.hid hR
  have HF := Lib.hid hf
  have HJ := Lib.hid hj
  have HL := Lib.hid hl
  have q1 : ¬ 9223372036854775807 < R.size + X.size := by omega
  have q2 : ¬ 9223372036854775807 < R.size + X.size + 2 := by omega
  clear hM hX hf hj hR hl
  subst ha
  go_enter Tryd.func9, Tryd.ntmps9
  go_wp2_with fail
  refine (rep_any _ _ (200 + m) (by omega) (by rw [show (⟨#[120]⟩ : ByteArray).size = 1 from rfl]; omega) (by omega) X HX HC).mono ?_; rintro e w1 ⟨rfl, HC⟩
  go_wp2_with fail
  refine (fields_s X _ _ HF HC).mono ?_; rintro e w2 ⟨v, rfl, HV, _, HC⟩
  obtain ⟨va, vc, rfl⟩ := HV.out.len
  go_wp2_with fail
  refine (join_s _ [X] (by simp) (by simp; omega) _ 6 HJ (strs_new [X] rfl rfl (by simp) rfl) (Ms.hal HC _)).mono ?_; rintro e w3 ⟨rfl, _, HC⟩
  go_wp2_with fail
  refine (rep_any _ _ k (by omega) (by rw [show (⟨#[97, 10]⟩ : ByteArray).size = 2 from rfl]; omega) (by omega) R HR HC).mono ?_; rintro e w4 ⟨rfl, HC⟩
  go_wp2_with fail
  refine (lines_s _ (by rw [ByteArray.size_append, ByteArray.size_append, show (⟨#[10, 98]⟩ : ByteArray).size = 2 from rfl]; omega) [] _ 6 HL HC).mono ?_; rintro e w5 ⟨u, rfl, HU, _, HC⟩
  obtain ⟨ua, uc, rfl⟩ := HU.out.len
  go_wp2_with fail
  refine (works_s HC).mono ?_; rintro e w6 ⟨rfl, HC⟩
  go_wp2
  go_ret
  exact ⟨rfl, HC.out.1⟩
theorem long_walk (a : Int) (ha : (Lit.int .u8 a).wf = true) (b : Int) (hb : (Lit.int .u8 b).wf = true) (W0 : World) (hM : MaxW W0) : Calls Tryd.prog 9 #[.int .u8 a, .int .u8 b] W0 fun e w' => e = .returned (.bool true) ∧ Below W0.heap.size W0 w' := by
  have h1 := bounds_u8 ha
  have h2 := bounds_u8 hb
  by_cases h : a ≤ 100
  · exact long_a a b a.toNat (b % 20).toNat (by omega) (by omega) (by omega) (by omega) (by omega) W0 hM
  · exact long_b a b a.toNat (b % 20).toNat (by omega) (by omega) (by omega) (by omega) (by omega) (by omega) W0 hM
end Go.Proofs.YtlekbbggbfhgaaaDoor
