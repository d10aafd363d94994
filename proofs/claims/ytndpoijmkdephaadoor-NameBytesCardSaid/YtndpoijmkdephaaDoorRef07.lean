/- The document's answers of layer 7: contracts. -/
import Derived.Test.YtndpoijmkdephaaDoorNa
namespace Go.Proofs.YtndpoijmkdephaaDoor
open Go.RowKit
namespace Nm
theorem isL_iff (c : UInt8) : isL c = ((decide (65 ≤ c.toNat) && decide (c.toNat ≤ 90)) || (decide (97 ≤ c.toNat) && decide (c.toNat ≤ 122))) :=
  beq_iff_eq.1 (each (fun c => isL c == ((decide (65 ≤ c.toNat) && decide (c.toNat ≤ 90)) || (decide (97 ≤ c.toNat) && decide (c.toNat ≤ 122)))) (by decide +kernel) c)
theorem isG_iff (c : UInt8) : isG c = (decide (48 ≤ c.toNat) && decide (c.toNat ≤ 57)) :=
  beq_iff_eq.1 (each (fun c => isG c == (decide (48 ≤ c.toNat) && decide (c.toNat ≤ 57))) (by decide +kernel) c)
theorem byte_eq {c : UInt8} {n : Nat} (h : c = UInt8.ofNat n) (hn : n < 256) : ((c.toNat : Int) == (n : Int)) = true := by
  subst h; rw [UInt8.toNat_ofNat']; simp; omega
theorem byte_ne {c : UInt8} {n : Nat} (h : c ≠ UInt8.ofNat n) (hn : n < 256) : ((c.toNat : Int) == (n : Int)) = false := by
  rw [beq_eq_false_iff_ne]
  intro e
  apply h
  apply UInt8.toNat_inj.1
  rw [UInt8.toNat_ofNat']
  omega
theorem bne_of {a b : Int} {r : Bool} (h : (a == b) = r) : (a != b) = !r := by unfold bne; rw [h]
end Nm
theorem rletter_any (c : UInt8) (r : Bool) (hr : Nm.isL c = r) (w : World) : Calls Tryd.prog 25 #[.int .u8 (c.toNat : Int)] w fun e w' => e = .returned (.bool r) ∧ w = w' := by
  rw [Nm.isL_iff] at hr
  have hc := c.toNat_lt
  generalize c.toNat = x at *
  have : x < 65 ∨ (65 ≤ x ∧ x ≤ 90) ∨ (90 < x ∧ x < 97) ∨ (97 ≤ x ∧ x ≤ 122) ∨ 122 < x := by omega
  rcases this with h | ⟨h1, h2⟩ | ⟨h1, h2⟩ | ⟨h1, h2⟩ | h
  · have a1 : ¬ (65 : Int) ≤ (x : Int) := by omega
    have a2 : ¬ (97 : Int) ≤ (x : Int) := by omega
    obtain rfl : r = false := by rw [← hr, decide_eq_false (by omega), decide_eq_false (p := 97 ≤ x) (by omega)]; rfl
    clear hr h hc
    go_enter Tryd.func25, Tryd.ntmps25
    go_wp2
    go_ret
    exact ⟨rfl, rfl⟩
  · have a1 : (65 : Int) ≤ (x : Int) := by omega
    have a2 : (x : Int) ≤ 90 := by omega
    obtain rfl : r = true := by rw [← hr, decide_eq_true h1, decide_eq_true h2]; rfl
    clear hr h1 h2 hc
    go_enter Tryd.func25, Tryd.ntmps25
    go_wp2
    go_ret
    exact ⟨rfl, rfl⟩
  · have a1 : (65 : Int) ≤ (x : Int) := by omega
    have a2 : ¬ (x : Int) ≤ 90 := by omega
    have a3 : ¬ (97 : Int) ≤ (x : Int) := by omega
    obtain rfl : r = false := by rw [← hr, decide_eq_false (p := x ≤ 90) (by omega), decide_eq_false (p := 97 ≤ x) (by omega)]; simp
    clear hr h1 h2 hc
    go_enter Tryd.func25, Tryd.ntmps25
    go_wp2
    go_ret
    exact ⟨rfl, rfl⟩
  · have a1 : (65 : Int) ≤ (x : Int) := by omega
    have a2 : ¬ (x : Int) ≤ 90 := by omega
    have a3 : (97 : Int) ≤ (x : Int) := by omega
    have a4 : (x : Int) ≤ 122 := by omega
    obtain rfl : r = true := by rw [← hr, decide_eq_true h1, decide_eq_true h2]; simp
    clear hr h1 h2 hc
    go_enter Tryd.func25, Tryd.ntmps25
    go_wp2
    go_ret
    exact ⟨rfl, rfl⟩
  · have a1 : (65 : Int) ≤ (x : Int) := by omega
    have a2 : ¬ (x : Int) ≤ 90 := by omega
    have a3 : (97 : Int) ≤ (x : Int) := by omega
    have a4 : ¬ (x : Int) ≤ 122 := by omega
    obtain rfl : r = false := by rw [← hr, decide_eq_false (p := x ≤ 90) (by omega), decide_eq_false (p := x ≤ 122) (by omega)]; simp
    clear hr h hc
    go_enter Tryd.func25, Tryd.ntmps25
    go_wp2
    go_ret
    exact ⟨rfl, rfl⟩
theorem rdigit7_any (c : UInt8) (r : Bool) (hr : Nm.isG c = r) (w : World) : Calls Tryd.prog 26 #[.int .u8 (c.toNat : Int)] w fun e w' => e = .returned (.bool r) ∧ w = w' := by
  rw [Nm.isG_iff] at hr
  have hc := c.toNat_lt
  generalize c.toNat = x at *
  have : x < 48 ∨ (48 ≤ x ∧ x ≤ 57) ∨ 57 < x := by omega
  rcases this with h | ⟨h1, h2⟩ | h
  · have a1 : ¬ (48 : Int) ≤ (x : Int) := by omega
    obtain rfl : r = false := by rw [← hr, decide_eq_false (by omega)]; rfl
    clear hr h hc
    go_enter Tryd.func26, Tryd.ntmps26
    go_wp2
    go_ret
    exact ⟨rfl, rfl⟩
  · have a1 : (48 : Int) ≤ (x : Int) := by omega
    have a2 : (x : Int) ≤ 57 := by omega
    obtain rfl : r = true := by rw [← hr, decide_eq_true h1, decide_eq_true h2]; rfl
    clear hr h1 h2 hc
    go_enter Tryd.func26, Tryd.ntmps26
    go_wp2
    go_ret
    exact ⟨rfl, rfl⟩
  · have a1 : (48 : Int) ≤ (x : Int) := by omega
    have a2 : ¬ (x : Int) ≤ 57 := by omega
    obtain rfl : r = false := by rw [← hr, decide_eq_false (p := x ≤ 57) (by omega)]; simp
    clear hr h hc
    go_enter Tryd.func26, Tryd.ntmps26
    go_wp2
    go_ret
    exact ⟨rfl, rfl⟩
theorem rletters_any (s : ByteArray) (hs : s.size ≤ 100000000000) (a m : Nat) (r : Bool) (hr : Nm.lets a m s.data.toList = r) (w : World) :
    Calls Tryd.prog 28 #[.string s, .int .i64 (a : Int), .int .i64 (m : Int)] w fun e w' => e = .returned (.bool r) ∧ w = w' := by
  have hsz : s.data.toList.length = s.size := by simp
  rw [Nm.lets_alike, hsz] at hr
  have HR := Lib.hid hr
  clear hr
  go_enter Tryd.func28, Tryd.ntmps28
  go_wp2
  go_loopw [7] (fun i wr => ∃ k : Nat, k ≤ s.size ∧ i = .int .i64 k ∧ ((s.data.toList.take k).all Nm.isL) = true ∧ w = wr) (fun i _ => s.size - (intOf i).toNat)
  case atStart => exact ⟨0, by omega, rfl, rfl, by first | rfl | trivial⟩
  case round =>
    obtain ⟨k, hk, rfl, h1, rfl⟩ := hrel
    by_cases hks : k < s.size
    · have hsn : s.data.toList.take (k + 1) = s.data.toList.take k ++ [s[k]] := by
        rw [List.take_succ_eq_append_getElem (by omega)]
        rfl
      have hk0 : (0 : Int) ≤ (k : Int) := by omega
      have hk1 : (k : Int) < (s.size : Int) := by omega
      have H1 := Lib.hid h1
      have HN := Lib.hid hsn
      clear h1 hsn
      cases hb : Nm.isL s[k] with
      | true =>
        have HB := Lib.hid hb
        clear hb hsz
        go_wp2_with fail
        refine (rletter_any _ _ HB.out _).mono ?_; rintro e w1 ⟨rfl, rfl⟩
        go_wp2
        go_roundw
        case rel => exact ⟨k + 1, by omega, by go_num, by rw [HN.out, List.all_append, H1.out]; simp [HB.out], by first | rfl | trivial⟩
        case measure => simp [intOf]; omega
      | false =>
        have HB := Lib.hid hb
        have hmem : s[k] ∈ s.data.toList := by
          have : s.data.toList[k]'(by omega) = s[k] := rfl
          rw [← this]; exact List.getElem_mem _
        have hall : s.data.toList.all Nm.isL = false := by
          rw [List.all_eq_false]; exact ⟨_, hmem, by rw [hb]; simp⟩
        have hr := HR.out
        rw [hall, Bool.and_false] at hr
        subst hr
        clear hb hsz hall hmem
        go_wp2_with fail
        refine (rletter_any _ _ HB.out _).mono ?_; rintro e w1 ⟨rfl, rfl⟩
        go_wp2
        go_ret
        exact ⟨rfl, rfl⟩
    · have hke : k = s.size := by omega
      have hall : s.data.toList.take k = s.data.toList := List.take_of_length_le (by simp; omega)
      have hr := HR.out
      rw [hall] at h1
      rw [h1, Bool.and_true] at hr
      subst hke
      clear h1 hall hsz
      by_cases q1 : a ≤ s.size
      · have q2 : (a : Int) ≤ (s.size : Int) := by omega
        rw [decide_eq_true q1, Bool.true_and] at hr
        by_cases q3 : s.size ≤ m
        · have q4 : (s.size : Int) ≤ (m : Int) := by omega
          rw [decide_eq_true q3] at hr
          subst hr
          clear HR
          go_wp2
          go_ret
          exact ⟨rfl, rfl⟩
        · have q4 : ¬ (s.size : Int) ≤ (m : Int) := by omega
          rw [decide_eq_false q3] at hr
          subst hr
          clear HR
          go_wp2
          go_ret
          exact ⟨rfl, rfl⟩
      · have q2 : ¬ (a : Int) ≤ (s.size : Int) := by omega
        rw [decide_eq_false q1, Bool.false_and] at hr
        subst hr
        clear HR
        go_wp2
        go_ret
        exact ⟨rfl, rfl⟩
theorem rLetter_any (s : ByteArray) (hs : s.size ≤ 100000000000) (r : Bool) (hr : Nm.lets 1 4 s.data.toList = r) (w : World) :
    Calls Tryd.prog 13 #[.string s] w fun e w' => e = .returned (.bool r) ∧ w = w' := by
  have HR := Lib.hid hr
  clear hr
  go_enter Tryd.func13, Tryd.ntmps13
  go_wp2_with fail
  refine (rletters_any s hs 1 4 r HR.out w).mono ?_; rintro e w1 ⟨rfl, rfl⟩
  go_wp2
  go_ret
  exact ⟨rfl, rfl⟩
theorem rAbbr_any (s : ByteArray) (hs : s.size ≤ 100000000000) (r : Bool) (hr : Nm.lets 3 6 s.data.toList = r) (w : World) :
    Calls Tryd.prog 15 #[.string s] w fun e w' => e = .returned (.bool r) ∧ w = w' := by
  have HR := Lib.hid hr
  clear hr
  go_enter Tryd.func15, Tryd.ntmps15
  go_wp2_with fail
  refine (rletters_any s hs 3 6 r HR.out w).mono ?_; rintro e w1 ⟨rfl, rfl⟩
  go_wp2
  go_ret
  exact ⟨rfl, rfl⟩
end Go.Proofs.YtndpoijmkdephaaDoor
