/- The walk of NameAmong and what the others share. -/
import Derived.Test.YtndpoijmkdephaaDoorLaw07
import Derived.Test.YtndpoijmkdephaaDoorNlw
namespace Go.Proofs.YtndpoijmkdephaaDoor
open Go.RowKit
theorem letters7_s {W0 w : World} (v : Value) (zs : List UInt8) (hz : zs.length ≤ maxLen) (x y : Int) (a m : Nat) (hx : x = (a : Int)) (hy : y = (m : Int)) (hm : m ≤ 1000) (ha : a ≤ 1000) (S : ByteArray) (hS : Hid (Lx.bs (Nm.letS zs a m) = S)) (hI : Byts w v zs) (HC : Hid (Ns W0 w)) :
    Calls Tryd.prog 19 #[v, .int .i64 x, .int .i64 y] w fun e w' => e = .returned (.string S) ∧ w = w' ∧ Hid (Ns W0 w') := by
  subst hx hy
  refine (letters7_any v zs hz a m hm ha S hS.out w hI).mono ?_
  rintro e w' ⟨rfl, rfl⟩
  exact ⟨rfl, rfl, HC⟩
theorem bne_tt : (true != true) = false := rfl
theorem bne_ff : (false != false) = false := rfl
theorem Nm.zone_letters {l : List UInt8} (h : l.all Nm.isL = true) : Nm.zone l = (decide (1 ≤ l.length) && decide (l.length ≤ 14)) := by
  have hs : ∀ c ∈ l, c ≠ 47 := fun c hc => Nm.inP_slash (Nm.inS_inP (Nm.isL_inS (List.all_eq_true.1 h c hc)))
  unfold Nm.zone
  rw [Nm.part_of_zr hs]
  unfold Nm.part
  have e1 : l.all Nm.inP = true := List.all_eq_true.2 fun c hc => Nm.inS_inP (Nm.isL_inS (List.all_eq_true.1 h c hc))
  rw [e1, Bool.and_true]
  cases l with
  | nil => rfl
  | cons c l =>
    have : Nm.atP c = true := Nm.isL_atP (List.all_eq_true.1 h c (by simp))
    rw [List.head?_cons, Option.any_some, this, Bool.and_true]
    by_cases h14 : (c :: l).length ≤ 14
    · rw [decide_eq_true h14, decide_eq_true (p := (c :: l).length ≤ 60) (by omega)]; simp
    · rw [decide_eq_false h14]; simp
theorem Nm.set_letters {l : List UInt8} (h : l.all Nm.isL = true) : Nm.set l = (decide (1 ≤ l.length) && decide (l.length ≤ 30)) := by
  rw [Nm.set_eq]
  have e1 : l.all Nm.inS = true := List.all_eq_true.2 fun c hc => Nm.isL_inS (List.all_eq_true.1 h c hc)
  rw [e1, Bool.and_true]
  cases l with
  | nil => rfl
  | cons c l =>
    have : Nm.isL c = true := List.all_eq_true.1 h c (by simp)
    rw [List.head?_cons, Option.any_some, this, Bool.and_true]; rfl
theorem Nm.lets_letters {l : List UInt8} (a m : Nat) (h : l.all Nm.isL = true) : Nm.lets a m l = (decide (a ≤ l.length) && decide (l.length ≤ m)) := by
  rw [Nm.lets_alike, h, Bool.and_true]
set_option maxRecDepth 100000 in
set_option maxHeartbeats 1000000 in
theorem among_0 (W0 : World) (v : Value) (zs : List UInt8) (HI : Hid (Byts W0 v zs)) (HZ : Hid (zs.length ≤ maxLen)) (n : Int) (hb : 0 ≤ n ∧ n ≤ 255) (k : Nat) (hk : n % 40 = (k : Int)) (hw : k = 0) (S : ByteArray) (hs : S.size = k) (HS : Hid (Lx.bs (Nm.letS zs k k) = S))
    (h1 : Hid (Nm.lets 1 4 S.data.toList = false)) (h2 : Hid (Nm.lets 3 6 S.data.toList = false)) (h3 : Hid (Nm.set S.data.toList = false)) (h4 : Hid (Nm.zone S.data.toList = false)) (HC : Hid (Ns W0 W0)) :
    Calls Tryd.prog 6 #[v, .int .u8 n] W0 fun e w' => e = .returned (.bool true) ∧ Below W0.heap.size W0 w' := by
  have e0 : ((S.size : Int) != (k : Int)) = false := by rw [hs]; simp
  have hk0 : (0 : Int) ≤ (k : Int) := by omega
  have hk3 : (k : Int) < 40 := by omega
  have hk4 : k ≤ 1000 := by omega
  have hs2 : S.size ≤ 100000000000 := by omega
  have f0 : ¬ (1 : Int) ≤ (k : Int) := by omega
  have f1 : (k : Int) ≤ 4 := by omega
  have f2 : ¬ (3 : Int) ≤ (k : Int) := by omega
  have f3 : (k : Int) ≤ 6 := by omega
  have f4 : (k : Int) ≤ 30 := by omega
  have f5 : (k : Int) ≤ 14 := by omega
  have f7 : ¬ (14 : Int) < (S.size : Int) := by omega
  have q1 := bne_tt
  have q2 := bne_ff
  have HS2 := Lib.hid hs2
  have HK4 := Lib.hid hk4
  clear hw hs hs2 hk4
  obtain ⟨n0, n1⟩ := hb
  go_enter Tryd.func6, Tryd.ntmps6
  go_wp2_with fail
  refine (letters7_s v zs HZ.out _ _ k k rfl rfl HK4.out HK4.out S HS HI.out HC).mono ?_; rintro e w1 ⟨rfl, rfl, HC⟩
  go_wp2_with fail
  refine (nletter_s S HS2.out false h1 HC).mono ?_; rintro e w1 ⟨rfl, _, HC⟩
  go_wp2_with fail
  refine (nabbr_s S HS2.out false h2 HC).mono ?_; rintro e w1 ⟨rfl, _, HC⟩
  go_wp2_with fail
  refine (nset_s S HS2.out false h3 HC).mono ?_; rintro e w1 ⟨rfl, _, HC⟩
  go_wp2_with fail
  refine (nzone_s S false h4 HC).mono ?_; rintro e w1 ⟨rfl, _, HC⟩
  go_wp2_with fail
  refine (nletter_s S HS2.out false h1 HC).mono ?_; rintro e w1 ⟨rfl, _, HC⟩
  go_wp2_with fail
  refine (nset_s S HS2.out false h3 HC).mono ?_; rintro e w1 ⟨rfl, _, HC⟩
  go_wp2_with fail
  refine (works7_s HC).mono ?_; rintro e w1 ⟨rfl, HC⟩
  go_wp2
  go_ret
  exact ⟨rfl, HC.out.1⟩
set_option maxRecDepth 100000 in
set_option maxHeartbeats 1000000 in
theorem among_1 (W0 : World) (v : Value) (zs : List UInt8) (HI : Hid (Byts W0 v zs)) (HZ : Hid (zs.length ≤ maxLen)) (n : Int) (hb : 0 ≤ n ∧ n ≤ 255) (k : Nat) (hk : n % 40 = (k : Int)) (hw : 1 ≤ k ∧ k ≤ 2) (S : ByteArray) (hs : S.size = k) (HS : Hid (Lx.bs (Nm.letS zs k k) = S))
    (h1 : Hid (Nm.lets 1 4 S.data.toList = true)) (h2 : Hid (Nm.lets 3 6 S.data.toList = false)) (h3 : Hid (Nm.set S.data.toList = true)) (h4 : Hid (Nm.zone S.data.toList = true)) (HC : Hid (Ns W0 W0)) :
    Calls Tryd.prog 6 #[v, .int .u8 n] W0 fun e w' => e = .returned (.bool true) ∧ Below W0.heap.size W0 w' := by
  have e0 : ((S.size : Int) != (k : Int)) = false := by rw [hs]; simp
  have hk0 : (0 : Int) ≤ (k : Int) := by omega
  have hk3 : (k : Int) < 40 := by omega
  have hk4 : k ≤ 1000 := by omega
  have hs2 : S.size ≤ 100000000000 := by omega
  have f0 : (1 : Int) ≤ (k : Int) := by omega
  have f1 : (k : Int) ≤ 4 := by omega
  have f2 : ¬ (3 : Int) ≤ (k : Int) := by omega
  have f3 : (k : Int) ≤ 6 := by omega
  have f4 : (k : Int) ≤ 30 := by omega
  have f5 : (k : Int) ≤ 14 := by omega
  have f7 : ¬ (14 : Int) < (S.size : Int) := by omega
  have q1 := bne_tt
  have q2 := bne_ff
  have HS2 := Lib.hid hs2
  have HK4 := Lib.hid hk4
  clear hw hs hs2 hk4
  obtain ⟨n0, n1⟩ := hb
  go_enter Tryd.func6, Tryd.ntmps6
  go_wp2_with fail
  refine (letters7_s v zs HZ.out _ _ k k rfl rfl HK4.out HK4.out S HS HI.out HC).mono ?_; rintro e w1 ⟨rfl, rfl, HC⟩
  go_wp2_with fail
  refine (nletter_s S HS2.out true h1 HC).mono ?_; rintro e w1 ⟨rfl, _, HC⟩
  go_wp2_with fail
  refine (nabbr_s S HS2.out false h2 HC).mono ?_; rintro e w1 ⟨rfl, _, HC⟩
  go_wp2_with fail
  refine (nset_s S HS2.out true h3 HC).mono ?_; rintro e w1 ⟨rfl, _, HC⟩
  go_wp2_with fail
  refine (nzone_s S true h4 HC).mono ?_; rintro e w1 ⟨rfl, _, HC⟩
  go_wp2_with fail
  refine (nletter_s S HS2.out true h1 HC).mono ?_; rintro e w1 ⟨rfl, _, HC⟩
  go_wp2_with fail
  refine (nset_s S HS2.out true h3 HC).mono ?_; rintro e w1 ⟨rfl, _, HC⟩
  go_wp2_with fail
  refine (nset_s S HS2.out true h3 HC).mono ?_; rintro e w1 ⟨rfl, _, HC⟩
  go_wp2_with fail
  refine (nzone_s S true h4 HC).mono ?_; rintro e w1 ⟨rfl, _, HC⟩
  go_wp2_with fail
  refine (works7_s HC).mono ?_; rintro e w1 ⟨rfl, HC⟩
  go_wp2
  go_ret
  exact ⟨rfl, HC.out.1⟩
set_option maxRecDepth 100000 in
set_option maxHeartbeats 1000000 in
theorem among_2 (W0 : World) (v : Value) (zs : List UInt8) (HI : Hid (Byts W0 v zs)) (HZ : Hid (zs.length ≤ maxLen)) (n : Int) (hb : 0 ≤ n ∧ n ≤ 255) (k : Nat) (hk : n % 40 = (k : Int)) (hw : 3 ≤ k ∧ k ≤ 4) (S : ByteArray) (hs : S.size = k) (HS : Hid (Lx.bs (Nm.letS zs k k) = S))
    (h1 : Hid (Nm.lets 1 4 S.data.toList = true)) (h2 : Hid (Nm.lets 3 6 S.data.toList = true)) (h3 : Hid (Nm.set S.data.toList = true)) (h4 : Hid (Nm.zone S.data.toList = true)) (HC : Hid (Ns W0 W0)) :
    Calls Tryd.prog 6 #[v, .int .u8 n] W0 fun e w' => e = .returned (.bool true) ∧ Below W0.heap.size W0 w' := by
  have e0 : ((S.size : Int) != (k : Int)) = false := by rw [hs]; simp
  have hk0 : (0 : Int) ≤ (k : Int) := by omega
  have hk3 : (k : Int) < 40 := by omega
  have hk4 : k ≤ 1000 := by omega
  have hs2 : S.size ≤ 100000000000 := by omega
  have f0 : (1 : Int) ≤ (k : Int) := by omega
  have f1 : (k : Int) ≤ 4 := by omega
  have f2 : (3 : Int) ≤ (k : Int) := by omega
  have f3 : (k : Int) ≤ 6 := by omega
  have f4 : (k : Int) ≤ 30 := by omega
  have f5 : (k : Int) ≤ 14 := by omega
  have f7 : ¬ (14 : Int) < (S.size : Int) := by omega
  have q1 := bne_tt
  have q2 := bne_ff
  have HS2 := Lib.hid hs2
  have HK4 := Lib.hid hk4
  clear hw hs hs2 hk4
  obtain ⟨n0, n1⟩ := hb
  go_enter Tryd.func6, Tryd.ntmps6
  go_wp2_with fail
  refine (letters7_s v zs HZ.out _ _ k k rfl rfl HK4.out HK4.out S HS HI.out HC).mono ?_; rintro e w1 ⟨rfl, rfl, HC⟩
  go_wp2_with fail
  refine (nletter_s S HS2.out true h1 HC).mono ?_; rintro e w1 ⟨rfl, _, HC⟩
  go_wp2_with fail
  refine (nabbr_s S HS2.out true h2 HC).mono ?_; rintro e w1 ⟨rfl, _, HC⟩
  go_wp2_with fail
  refine (nset_s S HS2.out true h3 HC).mono ?_; rintro e w1 ⟨rfl, _, HC⟩
  go_wp2_with fail
  refine (nzone_s S true h4 HC).mono ?_; rintro e w1 ⟨rfl, _, HC⟩
  go_wp2_with fail
  refine (nletter_s S HS2.out true h1 HC).mono ?_; rintro e w1 ⟨rfl, _, HC⟩
  go_wp2_with fail
  refine (nset_s S HS2.out true h3 HC).mono ?_; rintro e w1 ⟨rfl, _, HC⟩
  go_wp2_with fail
  refine (nset_s S HS2.out true h3 HC).mono ?_; rintro e w1 ⟨rfl, _, HC⟩
  go_wp2_with fail
  refine (nzone_s S true h4 HC).mono ?_; rintro e w1 ⟨rfl, _, HC⟩
  go_wp2_with fail
  refine (works7_s HC).mono ?_; rintro e w1 ⟨rfl, HC⟩
  go_wp2
  go_ret
  exact ⟨rfl, HC.out.1⟩
set_option maxRecDepth 100000 in
set_option maxHeartbeats 1000000 in
theorem among_3 (W0 : World) (v : Value) (zs : List UInt8) (HI : Hid (Byts W0 v zs)) (HZ : Hid (zs.length ≤ maxLen)) (n : Int) (hb : 0 ≤ n ∧ n ≤ 255) (k : Nat) (hk : n % 40 = (k : Int)) (hw : 5 ≤ k ∧ k ≤ 6) (S : ByteArray) (hs : S.size = k) (HS : Hid (Lx.bs (Nm.letS zs k k) = S))
    (h1 : Hid (Nm.lets 1 4 S.data.toList = false)) (h2 : Hid (Nm.lets 3 6 S.data.toList = true)) (h3 : Hid (Nm.set S.data.toList = true)) (h4 : Hid (Nm.zone S.data.toList = true)) (HC : Hid (Ns W0 W0)) :
    Calls Tryd.prog 6 #[v, .int .u8 n] W0 fun e w' => e = .returned (.bool true) ∧ Below W0.heap.size W0 w' := by
  have e0 : ((S.size : Int) != (k : Int)) = false := by rw [hs]; simp
  have hk0 : (0 : Int) ≤ (k : Int) := by omega
  have hk3 : (k : Int) < 40 := by omega
  have hk4 : k ≤ 1000 := by omega
  have hs2 : S.size ≤ 100000000000 := by omega
  have f0 : (1 : Int) ≤ (k : Int) := by omega
  have f1 : ¬ (k : Int) ≤ 4 := by omega
  have f2 : (3 : Int) ≤ (k : Int) := by omega
  have f3 : (k : Int) ≤ 6 := by omega
  have f4 : (k : Int) ≤ 30 := by omega
  have f5 : (k : Int) ≤ 14 := by omega
  have f7 : ¬ (14 : Int) < (S.size : Int) := by omega
  have q1 := bne_tt
  have q2 := bne_ff
  have HS2 := Lib.hid hs2
  have HK4 := Lib.hid hk4
  clear hw hs hs2 hk4
  obtain ⟨n0, n1⟩ := hb
  go_enter Tryd.func6, Tryd.ntmps6
  go_wp2_with fail
  refine (letters7_s v zs HZ.out _ _ k k rfl rfl HK4.out HK4.out S HS HI.out HC).mono ?_; rintro e w1 ⟨rfl, rfl, HC⟩
  go_wp2_with fail
  refine (nletter_s S HS2.out false h1 HC).mono ?_; rintro e w1 ⟨rfl, _, HC⟩
  go_wp2_with fail
  refine (nabbr_s S HS2.out true h2 HC).mono ?_; rintro e w1 ⟨rfl, _, HC⟩
  go_wp2_with fail
  refine (nset_s S HS2.out true h3 HC).mono ?_; rintro e w1 ⟨rfl, _, HC⟩
  go_wp2_with fail
  refine (nzone_s S true h4 HC).mono ?_; rintro e w1 ⟨rfl, _, HC⟩
  go_wp2_with fail
  refine (nletter_s S HS2.out false h1 HC).mono ?_; rintro e w1 ⟨rfl, _, HC⟩
  go_wp2_with fail
  refine (nset_s S HS2.out true h3 HC).mono ?_; rintro e w1 ⟨rfl, _, HC⟩
  go_wp2_with fail
  refine (nzone_s S true h4 HC).mono ?_; rintro e w1 ⟨rfl, _, HC⟩
  go_wp2_with fail
  refine (works7_s HC).mono ?_; rintro e w1 ⟨rfl, HC⟩
  go_wp2
  go_ret
  exact ⟨rfl, HC.out.1⟩
set_option maxRecDepth 100000 in
set_option maxHeartbeats 1000000 in
theorem among_4 (W0 : World) (v : Value) (zs : List UInt8) (HI : Hid (Byts W0 v zs)) (HZ : Hid (zs.length ≤ maxLen)) (n : Int) (hb : 0 ≤ n ∧ n ≤ 255) (k : Nat) (hk : n % 40 = (k : Int)) (hw : 7 ≤ k ∧ k ≤ 14) (S : ByteArray) (hs : S.size = k) (HS : Hid (Lx.bs (Nm.letS zs k k) = S))
    (h1 : Hid (Nm.lets 1 4 S.data.toList = false)) (h2 : Hid (Nm.lets 3 6 S.data.toList = false)) (h3 : Hid (Nm.set S.data.toList = true)) (h4 : Hid (Nm.zone S.data.toList = true)) (HC : Hid (Ns W0 W0)) :
    Calls Tryd.prog 6 #[v, .int .u8 n] W0 fun e w' => e = .returned (.bool true) ∧ Below W0.heap.size W0 w' := by
  have e0 : ((S.size : Int) != (k : Int)) = false := by rw [hs]; simp
  have hk0 : (0 : Int) ≤ (k : Int) := by omega
  have hk3 : (k : Int) < 40 := by omega
  have hk4 : k ≤ 1000 := by omega
  have hs2 : S.size ≤ 100000000000 := by omega
  have f0 : (1 : Int) ≤ (k : Int) := by omega
  have f1 : ¬ (k : Int) ≤ 4 := by omega
  have f2 : (3 : Int) ≤ (k : Int) := by omega
  have f3 : ¬ (k : Int) ≤ 6 := by omega
  have f4 : (k : Int) ≤ 30 := by omega
  have f5 : (k : Int) ≤ 14 := by omega
  have f7 : ¬ (14 : Int) < (S.size : Int) := by omega
  have q1 := bne_tt
  have q2 := bne_ff
  have HS2 := Lib.hid hs2
  have HK4 := Lib.hid hk4
  clear hw hs hs2 hk4
  obtain ⟨n0, n1⟩ := hb
  go_enter Tryd.func6, Tryd.ntmps6
  go_wp2_with fail
  refine (letters7_s v zs HZ.out _ _ k k rfl rfl HK4.out HK4.out S HS HI.out HC).mono ?_; rintro e w1 ⟨rfl, rfl, HC⟩
  go_wp2_with fail
  refine (nletter_s S HS2.out false h1 HC).mono ?_; rintro e w1 ⟨rfl, _, HC⟩
  go_wp2_with fail
  refine (nabbr_s S HS2.out false h2 HC).mono ?_; rintro e w1 ⟨rfl, _, HC⟩
  go_wp2_with fail
  refine (nset_s S HS2.out true h3 HC).mono ?_; rintro e w1 ⟨rfl, _, HC⟩
  go_wp2_with fail
  refine (nzone_s S true h4 HC).mono ?_; rintro e w1 ⟨rfl, _, HC⟩
  go_wp2_with fail
  refine (nletter_s S HS2.out false h1 HC).mono ?_; rintro e w1 ⟨rfl, _, HC⟩
  go_wp2_with fail
  refine (nset_s S HS2.out true h3 HC).mono ?_; rintro e w1 ⟨rfl, _, HC⟩
  go_wp2_with fail
  refine (nzone_s S true h4 HC).mono ?_; rintro e w1 ⟨rfl, _, HC⟩
  go_wp2_with fail
  refine (works7_s HC).mono ?_; rintro e w1 ⟨rfl, HC⟩
  go_wp2
  go_ret
  exact ⟨rfl, HC.out.1⟩
set_option maxRecDepth 100000 in
set_option maxHeartbeats 1000000 in
theorem among_5 (W0 : World) (v : Value) (zs : List UInt8) (HI : Hid (Byts W0 v zs)) (HZ : Hid (zs.length ≤ maxLen)) (n : Int) (hb : 0 ≤ n ∧ n ≤ 255) (k : Nat) (hk : n % 40 = (k : Int)) (hw : 15 ≤ k ∧ k ≤ 30) (S : ByteArray) (hs : S.size = k) (HS : Hid (Lx.bs (Nm.letS zs k k) = S))
    (h1 : Hid (Nm.lets 1 4 S.data.toList = false)) (h2 : Hid (Nm.lets 3 6 S.data.toList = false)) (h3 : Hid (Nm.set S.data.toList = true)) (h4 : Hid (Nm.zone S.data.toList = false)) (HC : Hid (Ns W0 W0)) :
    Calls Tryd.prog 6 #[v, .int .u8 n] W0 fun e w' => e = .returned (.bool true) ∧ Below W0.heap.size W0 w' := by
  have e0 : ((S.size : Int) != (k : Int)) = false := by rw [hs]; simp
  have hk0 : (0 : Int) ≤ (k : Int) := by omega
  have hk3 : (k : Int) < 40 := by omega
  have hk4 : k ≤ 1000 := by omega
  have hs2 : S.size ≤ 100000000000 := by omega
  have f0 : (1 : Int) ≤ (k : Int) := by omega
  have f1 : ¬ (k : Int) ≤ 4 := by omega
  have f2 : (3 : Int) ≤ (k : Int) := by omega
  have f3 : ¬ (k : Int) ≤ 6 := by omega
  have f4 : (k : Int) ≤ 30 := by omega
  have f5 : ¬ (k : Int) ≤ 14 := by omega
  have f7 : (14 : Int) < (S.size : Int) := by omega
  have q1 := bne_tt
  have q2 := bne_ff
  have HS2 := Lib.hid hs2
  have HK4 := Lib.hid hk4
  clear hw hs hs2 hk4
  obtain ⟨n0, n1⟩ := hb
  go_enter Tryd.func6, Tryd.ntmps6
  go_wp2_with fail
  refine (letters7_s v zs HZ.out _ _ k k rfl rfl HK4.out HK4.out S HS HI.out HC).mono ?_; rintro e w1 ⟨rfl, rfl, HC⟩
  go_wp2_with fail
  refine (nletter_s S HS2.out false h1 HC).mono ?_; rintro e w1 ⟨rfl, _, HC⟩
  go_wp2_with fail
  refine (nabbr_s S HS2.out false h2 HC).mono ?_; rintro e w1 ⟨rfl, _, HC⟩
  go_wp2_with fail
  refine (nset_s S HS2.out true h3 HC).mono ?_; rintro e w1 ⟨rfl, _, HC⟩
  go_wp2_with fail
  refine (nzone_s S false h4 HC).mono ?_; rintro e w1 ⟨rfl, _, HC⟩
  go_wp2_with fail
  refine (nletter_s S HS2.out false h1 HC).mono ?_; rintro e w1 ⟨rfl, _, HC⟩
  go_wp2_with fail
  refine (nset_s S HS2.out true h3 HC).mono ?_; rintro e w1 ⟨rfl, _, HC⟩
  go_wp2_with fail
  refine (works7_s HC).mono ?_; rintro e w1 ⟨rfl, HC⟩
  go_wp2
  go_ret
  exact ⟨rfl, HC.out.1⟩
set_option maxRecDepth 100000 in
set_option maxHeartbeats 1000000 in
theorem among_6 (W0 : World) (v : Value) (zs : List UInt8) (HI : Hid (Byts W0 v zs)) (HZ : Hid (zs.length ≤ maxLen)) (n : Int) (hb : 0 ≤ n ∧ n ≤ 255) (k : Nat) (hk : n % 40 = (k : Int)) (hw : 31 ≤ k ∧ k ≤ 39) (S : ByteArray) (hs : S.size = k) (HS : Hid (Lx.bs (Nm.letS zs k k) = S))
    (h1 : Hid (Nm.lets 1 4 S.data.toList = false)) (h2 : Hid (Nm.lets 3 6 S.data.toList = false)) (h3 : Hid (Nm.set S.data.toList = false)) (h4 : Hid (Nm.zone S.data.toList = false)) (HC : Hid (Ns W0 W0)) :
    Calls Tryd.prog 6 #[v, .int .u8 n] W0 fun e w' => e = .returned (.bool true) ∧ Below W0.heap.size W0 w' := by
  have e0 : ((S.size : Int) != (k : Int)) = false := by rw [hs]; simp
  have hk0 : (0 : Int) ≤ (k : Int) := by omega
  have hk3 : (k : Int) < 40 := by omega
  have hk4 : k ≤ 1000 := by omega
  have hs2 : S.size ≤ 100000000000 := by omega
  have f0 : (1 : Int) ≤ (k : Int) := by omega
  have f1 : ¬ (k : Int) ≤ 4 := by omega
  have f2 : (3 : Int) ≤ (k : Int) := by omega
  have f3 : ¬ (k : Int) ≤ 6 := by omega
  have f4 : ¬ (k : Int) ≤ 30 := by omega
  have f5 : ¬ (k : Int) ≤ 14 := by omega
  have f7 : (14 : Int) < (S.size : Int) := by omega
  have q1 := bne_tt
  have q2 := bne_ff
  have HS2 := Lib.hid hs2
  have HK4 := Lib.hid hk4
  clear hw hs hs2 hk4
  obtain ⟨n0, n1⟩ := hb
  go_enter Tryd.func6, Tryd.ntmps6
  go_wp2_with fail
  refine (letters7_s v zs HZ.out _ _ k k rfl rfl HK4.out HK4.out S HS HI.out HC).mono ?_; rintro e w1 ⟨rfl, rfl, HC⟩
  go_wp2_with fail
  refine (nletter_s S HS2.out false h1 HC).mono ?_; rintro e w1 ⟨rfl, _, HC⟩
  go_wp2_with fail
  refine (nabbr_s S HS2.out false h2 HC).mono ?_; rintro e w1 ⟨rfl, _, HC⟩
  go_wp2_with fail
  refine (nset_s S HS2.out false h3 HC).mono ?_; rintro e w1 ⟨rfl, _, HC⟩
  go_wp2_with fail
  refine (nzone_s S false h4 HC).mono ?_; rintro e w1 ⟨rfl, _, HC⟩
  go_wp2_with fail
  refine (nletter_s S HS2.out false h1 HC).mono ?_; rintro e w1 ⟨rfl, _, HC⟩
  go_wp2_with fail
  refine (nset_s S HS2.out false h3 HC).mono ?_; rintro e w1 ⟨rfl, _, HC⟩
  go_wp2_with fail
  refine (works7_s HC).mono ?_; rintro e w1 ⟨rfl, HC⟩
  go_wp2
  go_ret
  exact ⟨rfl, HC.out.1⟩
/-- which lengths are allowed -/
theorem among_walk (W0 : World) (v : Value) (zs : List UInt8) (hI : Byts W0 v zs) (hz : zs.length ≤ maxLen) (n : Int) (hn : (Lit.int .u8 n).wf = true) (hT : KdW W0) : Calls Tryd.prog 6 #[v, .int .u8 n] W0 fun e w' => e = .returned (.bool true) ∧ Below W0.heap.size W0 w' := by
  have hb := bounds_u8 hn
  have HC := Lib.hid (Ns.mk0 hT)
  obtain ⟨k, hk⟩ : ∃ k : Nat, n % 40 = (k : Int) := ⟨(n % 40).toNat, by omega⟩
  have hk2 : k < 40 := by omega
  have hl : (Nm.letS zs k k).length = k := by rw [Nm.letS_len]; omega
  have hall := Nm.letS_all zs k k
  have h1 := Nm.lets_letters 1 4 hall
  have h2 := Nm.lets_letters 3 6 hall
  have h3 := Nm.set_letters hall
  have h4 := Nm.zone_letters hall
  rw [hl] at h1 h2 h3 h4
  obtain ⟨S, hS⟩ : ∃ S, Lx.bs (Nm.letS zs k k) = S := ⟨_, rfl⟩
  have hd : Nm.letS zs k k = S.data.toList := by rw [← hS, Lx.data_bs]
  have hs : S.size = k := by rw [← hS, Lx.size_bs, hl]
  rw [hd] at h1 h2 h3 h4
  have ways : (k = 0) ∨ (1 ≤ k ∧ k ≤ 2) ∨ (3 ≤ k ∧ k ≤ 4) ∨ (5 ≤ k ∧ k ≤ 6) ∨ (7 ≤ k ∧ k ≤ 14) ∨ (15 ≤ k ∧ k ≤ 30) ∨ (31 ≤ k ∧ k ≤ 39) := by omega
  rcases ways with hw | hw | hw | hw | hw | hw | hw
  · exact among_0 W0 v zs (Lib.hid hI) (Lib.hid hz) n (by omega) k hk hw S hs (Lib.hid hS) (Lib.hid (h1.trans (by simp; omega))) (Lib.hid (h2.trans (by simp; omega))) (Lib.hid (h3.trans (by simp; omega))) (Lib.hid (h4.trans (by simp; omega))) HC
  · exact among_1 W0 v zs (Lib.hid hI) (Lib.hid hz) n (by omega) k hk hw S hs (Lib.hid hS) (Lib.hid (h1.trans (by simp; omega))) (Lib.hid (h2.trans (by simp; omega))) (Lib.hid (h3.trans (by simp; omega))) (Lib.hid (h4.trans (by simp; omega))) HC
  · exact among_2 W0 v zs (Lib.hid hI) (Lib.hid hz) n (by omega) k hk hw S hs (Lib.hid hS) (Lib.hid (h1.trans (by simp; omega))) (Lib.hid (h2.trans (by simp; omega))) (Lib.hid (h3.trans (by simp; omega))) (Lib.hid (h4.trans (by simp; omega))) HC
  · exact among_3 W0 v zs (Lib.hid hI) (Lib.hid hz) n (by omega) k hk hw S hs (Lib.hid hS) (Lib.hid (h1.trans (by simp; omega))) (Lib.hid (h2.trans (by simp; omega))) (Lib.hid (h3.trans (by simp; omega))) (Lib.hid (h4.trans (by simp; omega))) HC
  · exact among_4 W0 v zs (Lib.hid hI) (Lib.hid hz) n (by omega) k hk hw S hs (Lib.hid hS) (Lib.hid (h1.trans (by simp; omega))) (Lib.hid (h2.trans (by simp; omega))) (Lib.hid (h3.trans (by simp; omega))) (Lib.hid (h4.trans (by simp; omega))) HC
  · exact among_5 W0 v zs (Lib.hid hI) (Lib.hid hz) n (by omega) k hk hw S hs (Lib.hid hS) (Lib.hid (h1.trans (by simp; omega))) (Lib.hid (h2.trans (by simp; omega))) (Lib.hid (h3.trans (by simp; omega))) (Lib.hid (h4.trans (by simp; omega))) HC
  · exact among_6 W0 v zs (Lib.hid hI) (Lib.hid hz) n (by omega) k hk hw S hs (Lib.hid hS) (Lib.hid (h1.trans (by simp; omega))) (Lib.hid (h2.trans (by simp; omega))) (Lib.hid (h3.trans (by simp; omega))) (Lib.hid (h4.trans (by simp; omega))) HC
end Go.Proofs.YtndpoijmkdephaaDoor
