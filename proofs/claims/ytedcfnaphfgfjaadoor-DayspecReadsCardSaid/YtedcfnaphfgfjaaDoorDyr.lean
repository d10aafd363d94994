/- The document's answers about day forms as strings: number, last, sign. -/
import Derived.Test.YtedcfnaphfgfjaaDoorDyd
namespace Go.Proofs.YtedcfnaphfgfjaaDoor
open Go.RowKit Go.Shelf
set_option maxRecDepth 100000 in
set_option maxHeartbeats 4000000 in
theorem rnum_len (s : ByteArray) (hs : s.size = 0 ∨ 2 < s.size) (hm : s.size < 4294967281) (r1 r2 : Int) (hr : (0, 5) = (r1, r2)) (w : World) : Calls Tryd.prog 22 #[.string s] w fun e w' => e = .returned (.tuple #[.int .i64 r1, .int .i64 r2]) ∧ w = w' := by
  obtain ⟨rfl, rfl⟩ := Prod.mk.inj hr
  have he : s.toList.isEmpty = decide (s.size = 0) := by
    rw [isEmpty_of, Bool.eq_iff_iff, List.isEmpty_iff, decide_eq_true_iff, ← List.length_eq_zero_iff, Array.length_toList]; rfl
  rcases hs with h | h
  · have q1 : (s.size : Int) = 0 := by omega
    rw [h] at he
    have he2 : s.toList.isEmpty = true := he
    clear he hr
    go_enter Tryd.func22, Tryd.ntmps22
    go_wp2
    go_ret2
    exact ⟨by first | rfl | (refine ret_two ?_ rfl; omega), rfl⟩
  · have q1 : (2 : Int) < (s.size : Int) := by omega
    have q2 : ¬ (s.size : Int) < 1 := by omega
    have he2 : s.toList.isEmpty = false := by rw [he]; exact decide_eq_false (by omega)
    clear he hr
    go_enter Tryd.func22, Tryd.ntmps22
    go_wp2
    go_ret2
    exact ⟨by first | rfl | (refine ret_two ?_ rfl; omega), rfl⟩
set_option maxRecDepth 100000 in
set_option maxHeartbeats 4000000 in
theorem rnum_1 (s : ByteArray) (hs : s.size = 1) (a : UInt8) (ha : s[0] = a) (r1 r2 : Int) (hr : Dy.num [a] = (r1, r2)) (w : World) : Calls Tryd.prog 22 #[.string s] w fun e w' => e = .returned (.tuple #[.int .i64 r1, .int .i64 r2]) ∧ w = w' := by
  have he : s.toList.isEmpty = false := by
    rw [isEmpty_of]
    cases h : s.data.toList with
    | nil => have := Lib.size_eq s; rw [h, List.length_nil] at this; omega
    | cons _ _ => rfl
  have la := a.toNat_lt
  have q1 : (s.size : Int) = 1 := by omega
  by_cases hz : a.toNat = 48
  · have az : ((a.toNat : Int) == 48) = true := beq_iff_eq.2 (by omega)
    have hq : ((0 : Int), (5 : Int)) = (r1, r2) := by rw [← hr]; simp [Dy.num, Dy.dig] <;> omega
    obtain ⟨rfl, rfl⟩ := Prod.mk.inj hq
    clear hq hr
    go_enter Tryd.func22, Tryd.ntmps22
    go_wp2
    go_ret2
    exact ⟨by first | rfl | (refine ret_two ?_ rfl; omega), rfl⟩
  · have az : ((a.toNat : Int) == 48) = false := beq_eq_false_iff_ne.2 (by omega)
    by_cases hl : a.toNat < 48
    · have a1 : (a.toNat : Int) < 48 := by omega
      have hq : ((0 : Int), (5 : Int)) = (r1, r2) := by rw [← hr]; simp [Dy.num, Dy.dig] <;> omega
      obtain ⟨rfl, rfl⟩ := Prod.mk.inj hq
      clear hq hr
      go_enter Tryd.func22, Tryd.ntmps22
      go_wp2
      refine wp_loop_rounds 2 ?_
      rw [rounds_succ]
      go_wp2
      go_ret2
      exact ⟨by first | rfl | (refine ret_two ?_ rfl; omega), rfl⟩
    · have a1 : ¬ (a.toNat : Int) < 48 := by omega
      by_cases hg : 57 < a.toNat
      · have a2 : (57 : Int) < (a.toNat : Int) := by omega
        have hq : ((0 : Int), (5 : Int)) = (r1, r2) := by rw [← hr]; simp [Dy.num, Dy.dig] <;> omega
        obtain ⟨rfl, rfl⟩ := Prod.mk.inj hq
        clear hq hr
        go_enter Tryd.func22, Tryd.ntmps22
        go_wp2
        refine wp_loop_rounds 2 ?_
        rw [rounds_succ]
        go_wp2
        go_ret2
        exact ⟨by first | rfl | (refine ret_two ?_ rfl; omega), rfl⟩
      · have a2 : ¬ (57 : Int) < (a.toNat : Int) := by omega
        have a3 : ¬ (31 : Int) < ((a.toNat - 48 : Nat) : Int) := by omega
        have hq : (((a.toNat - 48 : Nat) : Int), (0 : Int)) = (r1, r2) := by rw [← hr]; simp [Dy.num, Dy.dig] <;> omega
        obtain ⟨rfl, rfl⟩ := Prod.mk.inj hq
        clear hq hr
        go_enter Tryd.func22, Tryd.ntmps22
        go_wp2
        refine wp_loop_rounds 3 ?_
        rw [rounds_succ]
        go_wp2
        rw [rounds_succ]
        go_wp2
        go_ret2
        exact ⟨by first | rfl | (refine ret_two ?_ rfl; omega), rfl⟩
set_option maxRecDepth 100000 in
set_option maxHeartbeats 4000000 in
theorem rnum_2 (s : ByteArray) (hs : s.size = 2) (a : UInt8) (ha : s[0] = a) (b : UInt8) (hb : s[1] = b) (r1 r2 : Int) (hr : Dy.num [a, b] = (r1, r2)) (w : World) : Calls Tryd.prog 22 #[.string s] w fun e w' => e = .returned (.tuple #[.int .i64 r1, .int .i64 r2]) ∧ w = w' := by
  have he : s.toList.isEmpty = false := by
    rw [isEmpty_of]
    cases h : s.data.toList with
    | nil => have := Lib.size_eq s; rw [h, List.length_nil] at this; omega
    | cons _ _ => rfl
  have la := a.toNat_lt
  have lb := b.toNat_lt
  have q1 : (s.size : Int) = 2 := by omega
  by_cases hz : a.toNat = 48
  · have az : ((a.toNat : Int) == 48) = true := beq_iff_eq.2 (by omega)
    have hq : ((0 : Int), (5 : Int)) = (r1, r2) := by rw [← hr]; simp [Dy.num, Dy.dig] <;> omega
    obtain ⟨rfl, rfl⟩ := Prod.mk.inj hq
    clear hq hr
    go_enter Tryd.func22, Tryd.ntmps22
    go_wp2
    go_ret2
    exact ⟨by first | rfl | (refine ret_two ?_ rfl; omega), rfl⟩
  · have az : ((a.toNat : Int) == 48) = false := beq_eq_false_iff_ne.2 (by omega)
    by_cases hl : a.toNat < 48
    · have a1 : (a.toNat : Int) < 48 := by omega
      have hq : ((0 : Int), (5 : Int)) = (r1, r2) := by rw [← hr]; simp [Dy.num, Dy.dig] <;> omega
      obtain ⟨rfl, rfl⟩ := Prod.mk.inj hq
      clear hq hr
      go_enter Tryd.func22, Tryd.ntmps22
      go_wp2
      refine wp_loop_rounds 2 ?_
      rw [rounds_succ]
      go_wp2
      go_ret2
      exact ⟨by first | rfl | (refine ret_two ?_ rfl; omega), rfl⟩
    · have a1 : ¬ (a.toNat : Int) < 48 := by omega
      by_cases hg : 57 < a.toNat
      · have a2 : (57 : Int) < (a.toNat : Int) := by omega
        have hq : ((0 : Int), (5 : Int)) = (r1, r2) := by rw [← hr]; simp [Dy.num, Dy.dig] <;> omega
        obtain ⟨rfl, rfl⟩ := Prod.mk.inj hq
        clear hq hr
        go_enter Tryd.func22, Tryd.ntmps22
        go_wp2
        refine wp_loop_rounds 2 ?_
        rw [rounds_succ]
        go_wp2
        go_ret2
        exact ⟨by first | rfl | (refine ret_two ?_ rfl; omega), rfl⟩
      · have a2 : ¬ (57 : Int) < (a.toNat : Int) := by omega
        by_cases hl2 : b.toNat < 48
        · have b1 : (b.toNat : Int) < 48 := by omega
          have hq : ((0 : Int), (5 : Int)) = (r1, r2) := by rw [← hr]; simp [Dy.num, Dy.dig] <;> omega
          obtain ⟨rfl, rfl⟩ := Prod.mk.inj hq
          clear hq hr
          go_enter Tryd.func22, Tryd.ntmps22
          go_wp2
          refine wp_loop_rounds 3 ?_
          rw [rounds_succ]
          go_wp2
          rw [rounds_succ]
          go_wp2
          go_ret2
          exact ⟨by first | rfl | (refine ret_two ?_ rfl; omega), rfl⟩
        · have b1 : ¬ (b.toNat : Int) < 48 := by omega
          by_cases hg2 : 57 < b.toNat
          · have b2 : (57 : Int) < (b.toNat : Int) := by omega
            have hq : ((0 : Int), (5 : Int)) = (r1, r2) := by rw [← hr]; simp [Dy.num, Dy.dig] <;> omega
            obtain ⟨rfl, rfl⟩ := Prod.mk.inj hq
            clear hq hr
            go_enter Tryd.func22, Tryd.ntmps22
            go_wp2
            refine wp_loop_rounds 3 ?_
            rw [rounds_succ]
            go_wp2
            rw [rounds_succ]
            go_wp2
            go_ret2
            exact ⟨by first | rfl | (refine ret_two ?_ rfl; omega), rfl⟩
          · have b2 : ¬ (57 : Int) < (b.toNat : Int) := by omega
            by_cases hm : 10 * (a.toNat - 48) + (b.toNat - 48) ≤ 31
            · have hmi : ¬ (31 : Int) < 10 * ((a.toNat : Int) - 48) + ((b.toNat : Int) - 48) := by omega
              have hq : (((10 * (a.toNat - 48) + (b.toNat - 48) : Nat) : Int), (0 : Int)) = (r1, r2) := by rw [← hr, Dy.num, if_pos (by simp [Dy.dig]; omega), if_pos (by rw [Nat.ble_eq]; exact hm)]
              obtain ⟨rfl, rfl⟩ := Prod.mk.inj hq
              clear hq hr
              go_enter Tryd.func22, Tryd.ntmps22
              go_wp2
              refine wp_loop_rounds 4 ?_
              rw [rounds_succ]
              go_wp2
              rw [rounds_succ]
              go_wp2
              rw [rounds_succ]
              go_wp2
              go_ret2
              exact ⟨by first | rfl | (refine ret_two ?_ rfl; omega), rfl⟩
            · have hmi : (31 : Int) < 10 * ((a.toNat : Int) - 48) + ((b.toNat : Int) - 48) := by omega
              have hq : ((0 : Int), (3 : Int)) = (r1, r2) := by rw [← hr, Dy.num, if_pos (by simp [Dy.dig]; omega), if_neg (by rw [Nat.ble_eq]; exact hm)]
              obtain ⟨rfl, rfl⟩ := Prod.mk.inj hq
              clear hq hr
              go_enter Tryd.func22, Tryd.ntmps22
              go_wp2
              refine wp_loop_rounds 4 ?_
              rw [rounds_succ]
              go_wp2
              rw [rounds_succ]
              go_wp2
              rw [rounds_succ]
              go_wp2
              go_ret2
              exact ⟨by first | rfl | (refine ret_two ?_ rfl; omega), rfl⟩
theorem rnum_any (s : ByteArray) (hm : s.size < 4294967281) (r1 r2 : Int) (hr : Hid (Dy.num s.data.toList = (r1, r2))) (w : World) : Calls Tryd.prog 22 #[.string s] w fun e w' => e = .returned (.tuple #[.int .i64 r1, .int .i64 r2]) ∧ w = w' := by
  have h := hr.out
  have hl : s.data.toList.length = s.size := by rw [Array.length_toList]; rfl
  match hd : s.data.toList, h with
  | [], h => exact rnum_len s (Or.inl (by rw [← hl, hd]; rfl)) hm r1 r2 h w
  | [a], h =>
    have hz : s.size = 1 := by rw [← hl, hd]; rfl
    have ha : s[0]'(by omega) = a := by have := Lib.data_getElem? s 0 (by omega); rw [hd] at this; exact (Option.some.inj this).symm
    exact rnum_1 s hz a ha r1 r2 h w
  | [a, b], h =>
    have hz : s.size = 2 := by rw [← hl, hd]; rfl
    have ha : s[0]'(by omega) = a := by have := Lib.data_getElem? s 0 (by omega); rw [hd] at this; exact (Option.some.inj this).symm
    have hb : s[1]'(by omega) = b := by have := Lib.data_getElem? s 1 (by omega); rw [hd] at this; exact (Option.some.inj this).symm
    exact rnum_2 s hz a ha b hb r1 r2 h w
  | a :: b :: c :: l, h => exact rnum_len s (Or.inr (by rw [← hl, hd]; simp)) hm r1 r2 h w
/-- the first operator, by the document -/
def sgR (l : List UInt8) : Int × Bool := match Dy.sgn l with | none => (0, false) | some k => ((k : Int), match l[k + 1]? with | some d => Nat.beq d.toNat 61 | none => false)
set_option maxRecDepth 100000 in
set_option maxHeartbeats 4000000 in
theorem rsign_any (s : ByteArray) (hs : s.size < 4294967281) (r1 : Int) (r2 : Bool) (hr : Hid (sgR s.data.toList = (r1, r2))) (w : World) : Calls Tryd.prog 20 #[.string s] w fun e w' => e = .returned (.tuple #[.int .i64 r1, .bool r2]) ∧ Dw w w' := by
  have hl : s.data.toList.length = s.size := by rw [Array.length_toList]; rfl
  have HL := Lib.hid hl
  clear hl
  go_enter Tryd.func20, Tryd.ntmps20
  go_wp2
  go_loopw [4] (fun i wr => w = wr ∧ ∃ k : Nat, k ≤ s.size ∧ i = .int .i64 k ∧ Hid (∀ (j : Nat) (d : UInt8), j < k → s.data.toList[j]? = some d → d.toNat ≠ 60 ∧ d.toNat ≠ 62)) (fun i _ => s.size - (intOf i).toNat)
  case atStart => exact ⟨rfl, 0, by omega, rfl, Lib.hid fun j d h => by omega⟩
  case round =>
    obtain ⟨rfl, k, hk, rfl, HN⟩ := hrel
    by_cases hkl : k < s.size
    · obtain ⟨x, hx⟩ : ∃ x : UInt8, s[k]'hkl = x := ⟨_, rfl⟩
      have hxl : s.data.toList[k]? = some x := by rw [← hx]; exact Lib.data_getElem? s k hkl
      have HX := Lib.hid hxl
      clear hxl
      have q1 : (k : Int) < (s.size : Int) := by omega
      by_cases h6 : x.toNat = 60 ∨ x.toNat = 62
      · have hsg := Dy.sgn_hit _ k x HX.out h6 HN.out
        have h2 := hr.out
        unfold sgR at h2
        rw [hsg] at h2
        simp only at h2
        have q0 : (((x.toNat : Int) == 60) || ((x.toNat : Int) == 62)) = true := by
          rcases h6 with e | e
          · rw [e]; rfl
          · rw [e]; rfl
        by_cases h5 : k + 1 < s.size
        · obtain ⟨d, hd⟩ : ∃ d : UInt8, s[k + 1]'h5 = d := ⟨_, rfl⟩
          have hdl : s.data.toList[k + 1]? = some d := by rw [← hd]; exact Lib.data_getElem? s _ h5
          rw [hdl] at h2
          simp only at h2
          obtain ⟨rfl, h3⟩ := Prod.mk.inj h2
          have q2 : (k : Int) + 1 < (s.size : Int) := by omega
          have q3 : (0 : Int) ≤ (k : Int) + 1 := by omega
          have q4 : ((d.toNat : Int) == 61) = r2 := by
            rw [← h3, Bool.eq_iff_iff, beq_iff_eq, Nat.beq_eq]; omega
          have hw : IntKind.i64.wrap ((k : Int) + 1) = (k : Int) + 1 := wrap_small _ (by omega) (by omega)
          clear h2 h3 hsg hdl
          rcases h6 with h6 | h6
          · have q5 : (x.toNat : Int) = 60 := by omega
            clear h6 q0
            go_wp2
            go_region
            go_wp2
            go_ret2
            exact ⟨rfl, ⟨1, rfl⟩⟩
          · have q5 : (x.toNat : Int) = 62 := by omega
            clear h6 q0
            go_wp2
            go_region
            go_wp2
            go_ret2
            exact ⟨rfl, ⟨1, rfl⟩⟩
        · have hdl : s.data.toList[k + 1]? = none := List.getElem?_eq_none (by rw [HL.out]; omega)
          rw [hdl] at h2
          simp only at h2
          obtain ⟨rfl, h3⟩ := Prod.mk.inj h2
          have hw : IntKind.i64.wrap ((k : Int) + 1) = (k : Int) + 1 := wrap_small _ (by omega) (by omega)
          have q2 : decide ((k : Int) + 1 < (s.size : Int)) = false := decide_eq_false (by omega)
          subst h3
          clear h2 hsg hdl
          rcases h6 with h6 | h6
          · have q5 : (x.toNat : Int) = 60 := by omega
            clear h6 q0
            go_wp2
            go_region
            go_wp2
            go_ret2
            exact ⟨rfl, ⟨1, rfl⟩⟩
          · have q5 : (x.toNat : Int) = 62 := by omega
            clear h6 q0
            go_wp2
            go_region
            go_wp2
            go_ret2
            exact ⟨rfl, ⟨1, rfl⟩⟩
      · have q0 : ((x.toNat : Int) == 60) = false := beq_eq_false_iff_ne.2 (by omega)
        have q2 : ((x.toNat : Int) == 62) = false := beq_eq_false_iff_ne.2 (by omega)
        have H6 := Lib.hid h6
        clear h6
        go_wp2
        go_roundw
        case rel =>
          refine ⟨by first | rfl | trivial, k + 1, by omega, by go_num, Lib.hid fun j d hj hd => ?_⟩
          by_cases e : j = k
          · subst e
            have := hd.symm.trans HX.out
            injection this with this
            subst this
            exact ⟨fun e => H6.out (.inl e), fun e => H6.out (.inr e)⟩
          · exact HN.out j d (by omega) hd
        case measure => simp [intOf] <;> omega
    · obtain rfl : k = s.size := by omega
      have hno : Dy.sgn s.data.toList = none := Dy.sgn_no _ fun j d hj => HN.out j d (by have := (List.getElem?_eq_some_iff.1 hj).1; rw [HL.out] at this; exact this) hj
      have h2 := hr.out
      unfold sgR at h2
      rw [hno] at h2
      obtain ⟨rfl, rfl⟩ := Prod.mk.inj h2
      clear h2 hno
      go_wp2
      go_ret2
      exact ⟨rfl, Dw.refl _⟩
end Go.Proofs.YtedcfnaphfgfjaaDoor
