/- The contracts of package dayspec: number, split, Parse. -/
import Derived.Test.YtedcfnaphfgfjaaDoorDyc
namespace Go.Proofs.YtedcfnaphfgfjaaDoor
open Go.RowKit Go.Shelf
set_option maxRecDepth 100000 in
set_option maxHeartbeats 4000000 in
theorem ynum_len (s : ByteArray) (hs : s.size = 0 ∨ 2 < s.size) (hm : s.size < 4294967281) (r1 r2 : Int) (hr : (0, 5) = (r1, r2)) (w : World) : Calls Tryd.prog 19 #[.string s] w fun e w' => e = .returned (.tuple #[.int .i64 r1, .int .i64 r2]) ∧ w = w' := by
  obtain ⟨rfl, rfl⟩ := Prod.mk.inj hr
  have he : s.toList.isEmpty = decide (s.size = 0) := by
    rw [isEmpty_of, Bool.eq_iff_iff, List.isEmpty_iff, decide_eq_true_iff, ← List.length_eq_zero_iff, Array.length_toList]; rfl
  rcases hs with h | h
  · have q1 : (s.size : Int) = 0 := by omega
    rw [h] at he
    have he2 : s.toList.isEmpty = true := he
    clear he hr
    go_enter Tryd.func19, Tryd.ntmps19
    go_wp2
    go_ret2
    exact ⟨by first | rfl | (refine ret_two ?_ rfl; omega), rfl⟩
  · have q1 : (2 : Int) < (s.size : Int) := by omega
    have q2 : ¬ (s.size : Int) < 1 := by omega
    have he2 : s.toList.isEmpty = false := by rw [he]; exact decide_eq_false (by omega)
    clear he hr
    go_enter Tryd.func19, Tryd.ntmps19
    go_wp2
    go_ret2
    exact ⟨by first | rfl | (refine ret_two ?_ rfl; omega), rfl⟩
set_option maxRecDepth 100000 in
set_option maxHeartbeats 4000000 in
theorem ynum_1 (s : ByteArray) (hs : s.size = 1) (a : UInt8) (ha : s[0] = a) (r1 r2 : Int) (hr : Dy.num [a] = (r1, r2)) (w : World) : Calls Tryd.prog 19 #[.string s] w fun e w' => e = .returned (.tuple #[.int .i64 r1, .int .i64 r2]) ∧ w = w' := by
  have he : s.toList.isEmpty = false := by
    rw [isEmpty_of]
    cases h : s.data.toList with
    | nil => have := Lib.size_eq s; rw [h, List.length_nil] at this; omega
    | cons _ _ => rfl
  have la := a.toNat_lt
  have q1 : (s.size : Int) = 1 := by omega
  by_cases hz : a.toNat = 48
  · have az : ((a.toNat : Int) == 48) = true := beq_iff_eq.2 (by omega)
    have hq : ((0 : Int), (5 : Int)) = (r1, r2) := by rw [← hr]; simp [Dy.num, Dy.dig] <;> omega
    obtain ⟨rfl, rfl⟩ := Prod.mk.inj hq
    clear hq hr
    go_enter Tryd.func19, Tryd.ntmps19
    go_wp2
    go_ret2
    exact ⟨by first | rfl | (refine ret_two ?_ rfl; omega), rfl⟩
  · have az : ((a.toNat : Int) == 48) = false := beq_eq_false_iff_ne.2 (by omega)
    by_cases hl : a.toNat < 48
    · have a1 : (a.toNat : Int) < 48 := by omega
      have hq : ((0 : Int), (5 : Int)) = (r1, r2) := by rw [← hr]; simp [Dy.num, Dy.dig] <;> omega
      obtain ⟨rfl, rfl⟩ := Prod.mk.inj hq
      clear hq hr
      go_enter Tryd.func19, Tryd.ntmps19
      go_wp2
      refine wp_loop_rounds 2 ?_
      rw [rounds_succ]
      go_wp2
      go_ret2
      exact ⟨by first | rfl | (refine ret_two ?_ rfl; omega), rfl⟩
    · have a1 : ¬ (a.toNat : Int) < 48 := by omega
      by_cases hg : 57 < a.toNat
      · have a2 : (57 : Int) < (a.toNat : Int) := by omega
        have hq : ((0 : Int), (5 : Int)) = (r1, r2) := by rw [← hr]; simp [Dy.num, Dy.dig] <;> omega
        obtain ⟨rfl, rfl⟩ := Prod.mk.inj hq
        clear hq hr
        go_enter Tryd.func19, Tryd.ntmps19
        go_wp2
        refine wp_loop_rounds 2 ?_
        rw [rounds_succ]
        go_wp2
        go_ret2
        exact ⟨by first | rfl | (refine ret_two ?_ rfl; omega), rfl⟩
      · have a2 : ¬ (57 : Int) < (a.toNat : Int) := by omega
        have a3 : ¬ (31 : Int) < ((a.toNat - 48 : Nat) : Int) := by omega
        have hq : (((a.toNat - 48 : Nat) : Int), (0 : Int)) = (r1, r2) := by rw [← hr]; simp [Dy.num, Dy.dig] <;> omega
        obtain ⟨rfl, rfl⟩ := Prod.mk.inj hq
        clear hq hr
        go_enter Tryd.func19, Tryd.ntmps19
        go_wp2
        refine wp_loop_rounds 3 ?_
        rw [rounds_succ]
        go_wp2
        rw [rounds_succ]
        go_wp2
        go_ret2
        exact ⟨by first | rfl | (refine ret_two ?_ rfl; omega), rfl⟩
set_option maxRecDepth 100000 in
set_option maxHeartbeats 4000000 in
theorem ynum_2 (s : ByteArray) (hs : s.size = 2) (a : UInt8) (ha : s[0] = a) (b : UInt8) (hb : s[1] = b) (r1 r2 : Int) (hr : Dy.num [a, b] = (r1, r2)) (w : World) : Calls Tryd.prog 19 #[.string s] w fun e w' => e = .returned (.tuple #[.int .i64 r1, .int .i64 r2]) ∧ w = w' := by
  have he : s.toList.isEmpty = false := by
    rw [isEmpty_of]
    cases h : s.data.toList with
    | nil => have := Lib.size_eq s; rw [h, List.length_nil] at this; omega
    | cons _ _ => rfl
  have la := a.toNat_lt
  have lb := b.toNat_lt
  have q1 : (s.size : Int) = 2 := by omega
  by_cases hz : a.toNat = 48
  · have az : ((a.toNat : Int) == 48) = true := beq_iff_eq.2 (by omega)
    have hq : ((0 : Int), (5 : Int)) = (r1, r2) := by rw [← hr]; simp [Dy.num, Dy.dig] <;> omega
    obtain ⟨rfl, rfl⟩ := Prod.mk.inj hq
    clear hq hr
    go_enter Tryd.func19, Tryd.ntmps19
    go_wp2
    go_ret2
    exact ⟨by first | rfl | (refine ret_two ?_ rfl; omega), rfl⟩
  · have az : ((a.toNat : Int) == 48) = false := beq_eq_false_iff_ne.2 (by omega)
    by_cases hl : a.toNat < 48
    · have a1 : (a.toNat : Int) < 48 := by omega
      have hq : ((0 : Int), (5 : Int)) = (r1, r2) := by rw [← hr]; simp [Dy.num, Dy.dig] <;> omega
      obtain ⟨rfl, rfl⟩ := Prod.mk.inj hq
      clear hq hr
      go_enter Tryd.func19, Tryd.ntmps19
      go_wp2
      refine wp_loop_rounds 2 ?_
      rw [rounds_succ]
      go_wp2
      go_ret2
      exact ⟨by first | rfl | (refine ret_two ?_ rfl; omega), rfl⟩
    · have a1 : ¬ (a.toNat : Int) < 48 := by omega
      by_cases hg : 57 < a.toNat
      · have a2 : (57 : Int) < (a.toNat : Int) := by omega
        have hq : ((0 : Int), (5 : Int)) = (r1, r2) := by rw [← hr]; simp [Dy.num, Dy.dig] <;> omega
        obtain ⟨rfl, rfl⟩ := Prod.mk.inj hq
        clear hq hr
        go_enter Tryd.func19, Tryd.ntmps19
        go_wp2
        refine wp_loop_rounds 2 ?_
        rw [rounds_succ]
        go_wp2
        go_ret2
        exact ⟨by first | rfl | (refine ret_two ?_ rfl; omega), rfl⟩
      · have a2 : ¬ (57 : Int) < (a.toNat : Int) := by omega
        by_cases hl2 : b.toNat < 48
        · have b1 : (b.toNat : Int) < 48 := by omega
          have hq : ((0 : Int), (5 : Int)) = (r1, r2) := by rw [← hr]; simp [Dy.num, Dy.dig] <;> omega
          obtain ⟨rfl, rfl⟩ := Prod.mk.inj hq
          clear hq hr
          go_enter Tryd.func19, Tryd.ntmps19
          go_wp2
          refine wp_loop_rounds 3 ?_
          rw [rounds_succ]
          go_wp2
          rw [rounds_succ]
          go_wp2
          go_ret2
          exact ⟨by first | rfl | (refine ret_two ?_ rfl; omega), rfl⟩
        · have b1 : ¬ (b.toNat : Int) < 48 := by omega
          by_cases hg2 : 57 < b.toNat
          · have b2 : (57 : Int) < (b.toNat : Int) := by omega
            have hq : ((0 : Int), (5 : Int)) = (r1, r2) := by rw [← hr]; simp [Dy.num, Dy.dig] <;> omega
            obtain ⟨rfl, rfl⟩ := Prod.mk.inj hq
            clear hq hr
            go_enter Tryd.func19, Tryd.ntmps19
            go_wp2
            refine wp_loop_rounds 3 ?_
            rw [rounds_succ]
            go_wp2
            rw [rounds_succ]
            go_wp2
            go_ret2
            exact ⟨by first | rfl | (refine ret_two ?_ rfl; omega), rfl⟩
          · have b2 : ¬ (57 : Int) < (b.toNat : Int) := by omega
            by_cases hm : 10 * (a.toNat - 48) + (b.toNat - 48) ≤ 31
            · have hmi : ¬ (31 : Int) < 10 * ((a.toNat : Int) - 48) + ((b.toNat : Int) - 48) := by omega
              have hq : (((10 * (a.toNat - 48) + (b.toNat - 48) : Nat) : Int), (0 : Int)) = (r1, r2) := by rw [← hr, Dy.num, if_pos (by simp [Dy.dig]; omega), if_pos (by rw [Nat.ble_eq]; exact hm)]
              obtain ⟨rfl, rfl⟩ := Prod.mk.inj hq
              clear hq hr
              go_enter Tryd.func19, Tryd.ntmps19
              go_wp2
              refine wp_loop_rounds 4 ?_
              rw [rounds_succ]
              go_wp2
              rw [rounds_succ]
              go_wp2
              rw [rounds_succ]
              go_wp2
              go_ret2
              exact ⟨by first | rfl | (refine ret_two ?_ rfl; omega), rfl⟩
            · have hmi : (31 : Int) < 10 * ((a.toNat : Int) - 48) + ((b.toNat : Int) - 48) := by omega
              have hq : ((0 : Int), (3 : Int)) = (r1, r2) := by rw [← hr, Dy.num, if_pos (by simp [Dy.dig]; omega), if_neg (by rw [Nat.ble_eq]; exact hm)]
              obtain ⟨rfl, rfl⟩ := Prod.mk.inj hq
              clear hq hr
              go_enter Tryd.func19, Tryd.ntmps19
              go_wp2
              refine wp_loop_rounds 4 ?_
              rw [rounds_succ]
              go_wp2
              rw [rounds_succ]
              go_wp2
              rw [rounds_succ]
              go_wp2
              go_ret2
              exact ⟨by first | rfl | (refine ret_two ?_ rfl; omega), rfl⟩
theorem ynum_any (s : ByteArray) (hm : s.size < 4294967281) (r1 r2 : Int) (hr : Hid (Dy.num s.data.toList = (r1, r2))) (w : World) : Calls Tryd.prog 19 #[.string s] w fun e w' => e = .returned (.tuple #[.int .i64 r1, .int .i64 r2]) ∧ w = w' := by
  have h := hr.out
  have hl : s.data.toList.length = s.size := by rw [Array.length_toList]; rfl
  match hd : s.data.toList, h with
  | [], h => exact ynum_len s (Or.inl (by rw [← hl, hd]; rfl)) hm r1 r2 h w
  | [a], h =>
    have hz : s.size = 1 := by rw [← hl, hd]; rfl
    have ha : s[0]'(by omega) = a := by have := Lib.data_getElem? s 0 (by omega); rw [hd] at this; exact (Option.some.inj this).symm
    exact ynum_1 s hz a ha r1 r2 h w
  | [a, b], h =>
    have hz : s.size = 2 := by rw [← hl, hd]; rfl
    have ha : s[0]'(by omega) = a := by have := Lib.data_getElem? s 0 (by omega); rw [hd] at this; exact (Option.some.inj this).symm
    have hb : s[1]'(by omega) = b := by have := Lib.data_getElem? s 1 (by omega); rw [hd] at this; exact (Option.some.inj this).symm
    exact ynum_2 s hz a ha b hb r1 r2 h w
  | a :: b :: c :: l, h => exact ynum_len s (Or.inr (by rw [← hl, hd]; simp)) hm r1 r2 h w
/-- the parts of a string, as strings -/
def splB (s : ByteArray) : Nat × ByteArray × ByteArray :=
  match Dy.opr s.data.toList with
  | some (k, kd) => (kd, s.extract 0 k, s.extract (k + 2) s.size)
  | none => if Dy.isL s.data.toList then (2, s.extract 4 s.size, ⟨#[]⟩) else (1, ⟨#[]⟩, s)
theorem ext_from (s : ByteArray) (k : Nat) : (s.extract k s.size).data.toList = s.data.toList.drop k := by
  rw [Lib.extract_data, List.take_of_length_le]
  rw [List.length_drop, Array.length_toList]
  exact Nat.le_refl _
theorem ext_to (s : ByteArray) (k : Nat) : (s.extract 0 k).data.toList = s.data.toList.take k := by
  rw [Lib.extract_data]; rfl
theorem splB_eq (s : ByteArray) : Dy.spl s.data.toList = ((splB s).1, (splB s).2.1.data.toList, (splB s).2.2.data.toList) := by
  unfold Dy.spl splB
  cases h : Dy.opr s.data.toList with
  | some x => obtain ⟨k, kd⟩ := x; simp only [ext_to, ext_from]
  | none =>
    simp only
    cases Dy.isL s.data.toList with
    | true => simp only [if_true, ext_from]
    | false => rfl
theorem opr_some (l : List UInt8) (k kd : Nat) (h : Dy.opr l = some (k, kd)) : Dy.sgn l = some k ∧ ∃ c d, l[k]? = some c ∧ l[k + 1]? = some d ∧ d.toNat = 61 ∧ ((c.toNat = 62 ∧ kd = 3) ∨ (c.toNat = 60 ∧ kd = 4)) := by
  unfold Dy.opr at h
  split at h
  · cases h
  · rename_i m hm
    obtain ⟨c, hc, hc2, _⟩ := Dy.sgn_lt _ _ hm
    split at h
    · cases h
    · rename_i d hd
      split at h
      · rename_i hb
        rw [hc] at h
        simp only at h
        split at h
        · rename_i hb2
          obtain ⟨rfl, rfl⟩ := Prod.mk.inj (Option.some.inj h)
          exact ⟨hm, c, d, hc, hd, Nat.eq_of_beq_eq_true hb, .inl ⟨Nat.eq_of_beq_eq_true hb2, rfl⟩⟩
        · rename_i hb2
          obtain ⟨rfl, rfl⟩ := Prod.mk.inj (Option.some.inj h)
          have : c.toNat ≠ 62 := fun e => hb2 (by rw [e]; rfl)
          exact ⟨hm, c, d, hc, hd, Nat.eq_of_beq_eq_true hb, .inr ⟨by omega, rfl⟩⟩
      · cases h
theorem opr_none (l : List UInt8) (h : Dy.opr l = none) : Dy.sgn l = none ∨ ∃ k, Dy.sgn l = some k ∧ (l[k + 1]? = none ∨ ∃ d, l[k + 1]? = some d ∧ d.toNat ≠ 61) := by
  unfold Dy.opr at h
  split at h
  · rename_i hm; exact .inl hm
  · rename_i m hm
    refine .inr ⟨m, hm, ?_⟩
    obtain ⟨c, hc, hc2, _⟩ := Dy.sgn_lt _ _ hm
    split at h
    · rename_i hd; exact .inl hd
    · rename_i d hd
      refine .inr ⟨d, hd, fun e => ?_⟩
      rw [if_pos (by rw [e]; rfl), hc] at h
      simp only at h
      split at h <;> cases h
/-- dayspec.operated -/
theorem yopd_s (s : ByteArray) (hs : s.size < 4294967281) (r1 : Int) (r2 : Bool) (hr : Hid ((match Dy.opr s.data.toList with | some (_, kd) => ((kd : Int), true) | none => (0, false)) = (r1, r2))) {W0 w : World} (HC : Hid (Ys W0 w)) : Calls Tryd.prog 39 #[.string s] w fun e w' => e = .returned (.tuple #[.int .i64 r1, .bool r2]) ∧ Below w.heap.size w w' := by
  have h := hr.out
  have hl : s.data.toList.length = s.size := by rw [Array.length_toList]; rfl
  cases ho : Dy.opr s.data.toList with
  | some x =>
    obtain ⟨k, kd⟩ := x
    rw [ho] at h
    simp only at h
    obtain ⟨h1, c, d, hc, hd, hd2, hk⟩ := opr_some _ _ _ ho
    have hlt := (List.getElem?_eq_some_iff.1 hd).1
    refine opd_some s hs k h1 (by omega) r1 r2 ?_ HC
    have e1 := Lib.data_getElem? s k (by omega)
    have e2 := Lib.data_getElem? s (k + 1) (by omega)
    rw [hc] at e1
    rw [hd] at e2
    rw [← Option.some.inj e1, ← Option.some.inj e2, ← h, opK, if_pos hd2]
    rcases hk with ⟨h3, rfl⟩ | ⟨h3, rfl⟩
    · rw [if_pos h3]; rfl
    · rw [if_neg (by omega)]; rfl
  | none =>
    rw [ho] at h
    simp only at h
    obtain ⟨rfl, rfl⟩ := Prod.mk.inj h
    rcases opr_none _ ho with h1 | ⟨k, h1, h2⟩
    · exact opd_none s hs (.inl h1) w
    · obtain ⟨c, hc, _⟩ := Dy.sgn_lt _ _ h1
      have hlt := (List.getElem?_eq_some_iff.1 hc).1
      rcases h2 with h2 | ⟨d, h2, h3⟩
      · have := List.getElem?_eq_none_iff.1 h2
        exact opd_none s hs (.inr ⟨k, h1, by omega⟩) w
      · have hlt2 := (List.getElem?_eq_some_iff.1 h2).1
        refine opd_some s hs k h1 (by omega) 0 false ?_ HC
        have e2 := Lib.data_getElem? s (k + 1) (by omega)
        rw [h2] at e2
        rw [← Option.some.inj e2, opK, if_neg h3]
/-- cut at the operator -/
theorem cut_op (s : ByteArray) (k : Nat) (c : UInt8) (h : Dy.sgn s.data.toList = some k) (hc : s.data.toList[k]? = some c) (hd : ∃ d : UInt8, s.data.toList[k + 1]? = some d ∧ d.toNat = 61) :
    (⟨(Lib.cut s.data.toList [c, 61]).1.toArray⟩ : ByteArray) = s.extract 0 k ∧ (⟨(Lib.cut s.data.toList [c, 61]).2.1.toArray⟩ : ByteArray) = s.extract (k + 2) s.size ∧ (Lib.cut s.data.toList [c, 61]).2.2 = true := by
  obtain ⟨d, hd, hd2⟩ := hd
  obtain ⟨c', hc', hc2, hno⟩ := Dy.sgn_lt _ _ h
  obtain rfl : c' = c := Option.some.inj (hc'.symm.trans hc)
  obtain rfl : d = 61 := UInt8.toNat_inj.1 hd2
  have hlt := (List.getElem?_eq_some_iff.1 hd).1
  have hocc : Lib.occAt s.data.toList [c', 61] k = true := by
    rw [Lib.occAt_iff_take _ _ _ (by show k + 2 ≤ _; omega)]
    obtain ⟨h1, h2⟩ := List.getElem?_eq_some_iff.1 hc
    obtain ⟨h3, h4⟩ := List.getElem?_eq_some_iff.1 hd
    rw [List.drop_eq_getElem_cons h1, List.drop_eq_getElem_cons h3, h2, h4]
    simp
  have hix : Lib.index s.data.toList [c', 61] = (k : Int) := Lib.index_first (by omega) hocc (fun j hj => by
    cases e : Lib.occAt s.data.toList [c', 61] j with
    | false => rfl
    | true =>
      have := Lib.occAt_head (c := c') (t := [61]) rfl e
      have := hno j c' hj this
      omega)
  have := Lib.cutB_hit s ⟨#[c', 61]⟩ k hix
  exact this
end Go.Proofs.YtedcfnaphfgfjaaDoor
