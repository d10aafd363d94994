/- The walk of LexemeFields. -/
import Derived.Test.YtlekbbggbfhgaaaDoorLaw05c
import Derived.Test.YtlekbbggbfhgaaaDoorLxi
import Derived.Test.YtlekbbggbfhgaaaDoorRef05c
import Derived.Test.YtlekbbggbfhgaaaDoorRef05d
namespace Go.Proofs.YtlekbbggbfhgaaaDoor
open Go.RowKit
/-- a field that is too long for the statement -/
def over4 (s : ByteArray) : Bool := decide (400 < s.size)
theorem over_enters : ∀ args w, (callFunc 16 args).run Tryd.prog w = .ok (.enter 16 args) w := enters_of Tryd.func16 (by kernel_rfl) rfl
theorem over_c (s : ByteArray) (w : World) : Calls Tryd.prog 16 #[.string s] w fun e w' => e = .returned (.bool (over4 s)) ∧ w = w' := by
  have h : (decide ((400 : Int) < (s.size : Int))) = over4 s := by unfold over4; by_cases h : 400 < s.size <;> simp [h] <;> omega
  have H := Lib.hid h
  clear h
  go_enter Tryd.func16, Tryd.ntmps16
  go_wp2
  go_ret
  exact ⟨ret_bool H.out, rfl⟩
theorem scan_len (l : List UInt8) : ∀ (F : List (List UInt8)) (L : List UInt8) (o q : Bool) (R : List (List UInt8)), Lx.scan l F L o q = some R → R.length ≤ F.length + l.length + 1 := by
  induction l with
  | nil =>
    intro F L o q R h
    rw [Lx.scan] at h
    cases q with
    | true => cases h
    | false =>
      simp at h
      subst h
      cases o <;> simp
  | cons b r ih =>
    intro F L o q R h
    rcases Lx.kind_le b q with k | k | k | k | k
    · rw [Lx.scan0 k] at h; cases h
    · rw [Lx.scan1 k] at h
      have := ih _ _ _ _ _ h
      simp; omega
    · rw [Lx.scan2 k] at h
      have := ih _ _ _ _ _ h
      simp; omega
    · rw [Lx.scan3 k] at h
      have := ih _ _ _ _ _ h
      cases o <;> simp at this ⊢ <;> omega
    · rw [Lx.scan4 k] at h
      cases q with
      | true => cases h
      | false =>
        simp at h
        subst h
        cases o <;> simp <;> omega
theorem flds_len (s : ByteArray) (F : List ByteArray) (c : Int) (h : flds s = (F, c)) : F.length ≤ 1000 := by
  unfold flds at h
  by_cases hs : 300 < s.size
  · rw [if_pos hs] at h
    rw [← (Prod.mk.inj h).1]; simp
  · rw [if_neg hs] at h
    cases hsc : Lx.scan s.data.toList [] [] false false with
    | none => rw [hsc] at h; rw [← (Prod.mk.inj h).1]; simp
    | some R =>
      rw [hsc] at h
      rw [← (Prod.mk.inj h).1, List.length_map]
      have := scan_len _ _ _ _ _ _ hsc
      rw [← Lib.size_eq] at this
      simp at this
      omega
theorem rfields_s {W0 w : World} (s : ByteArray) (F : List ByteArray) (c : Int) (h : Hid (flds s = (F, c))) (HC : Hid (Ms W0 w)) :
    Calls Tryd.prog 18 #[.string s] w fun e w' => ∃ v, e = .returned (.tuple #[v, .int .i64 c]) ∧ Hid (Strs w' v F) ∧ Below w.heap.size w w' ∧ Hid (Ms W0 w') :=
  (rfields_any s F c h.out w).mono fun _ _ ⟨v, he, hs, hb⟩ => ⟨v, he, Lib.hid hs, hb, Ms.hbl HC hb⟩
set_option maxRecDepth 100000 in
set_option maxHeartbeats 4000000 in
theorem lfields_core (W0 : World) (s : ByteArray) (hs : s.size ≤ 1000) (v : Value) (L : List ByteArray) (hI : Strs W0 v L) (hl : L.length ≤ 50) (h4 : ∀ x ∈ L, x.size ≤ 400) (F : List ByteArray) (c : Int) (hf : flds s = (F, c)) (S : ByteArray) (g : Int) (hj : Lx.jn (L.map (·.data.toList)) = (S, g)) (hM : MaxW W0) : Calls Tryd.prog 4 #[.string s, v] W0 fun e w' => e = .returned (.bool true) ∧ Below W0.heap.size W0 w' := by
  have HC := Lib.hid (Ms.mk0 hM)
  have HF := Lib.hid hf
  have HJ := Lib.hid hj
  have HI := Lib.hid hI
  have HFL := Lib.hid (flds_len s F c hf)
  have hany : L.any over4 = false := by
    rw [List.any_eq_false]
    intro x hx
    have := h4 x hx
    simp [over4]; omega
  have HANY := Lib.hid hany
  have HZ := Lib.hid (fun x (hx : x ∈ L) => Nat.le_trans (h4 x hx) (by decide : 400 ≤ 1000))
  obtain ⟨va, vc, rfl⟩ := hI.len
  have hcc : (c == c) = true := beq_self_eq_true _
  have hgg : (g == g) = true := beq_self_eq_true _
  have hss : (S.toList == S.toList) = true := beq_self_eq_true _
  clear hM hf hj hI hany h4
  go_enter Tryd.func4, Tryd.ntmps4
  go_wp2_with fail
  refine (cfunc_any _ L (by omega) _ over_enters over4 (fun s w _ => over_c s w) _ HI.out false HANY.out).mono ?_; rintro e w1 ⟨rfl, rfl⟩
  go_wp2_with fail
  refine (fields_s s F c HF HC).mono ?_; rintro e w1 ⟨a, rfl, HA, hb, HC⟩
  replace HI := Strs.hbl HI hb
  clear hb
  go_wp2_with fail
  refine (rfields_s s F c HF HC).mono ?_; rintro e w2 ⟨b, rfl, HB, hb, HC⟩
  replace HI := Strs.hbl HI hb
  replace HA := Strs.hbl HA hb
  clear hb
  go_wp2_with fail
  refine (join_s _ L (by omega) HZ.out S g HJ HI.out HC).mono ?_; rintro e w3 ⟨rfl, hb, HC⟩
  replace HI := Strs.hbl HI hb
  replace HA := Strs.hbl HA hb
  replace HB := Strs.hbl HB hb
  clear hb
  go_wp2_with fail
  refine (rjoin_any _ L (by omega) HZ.out S g HJ.out _ HI.out).mono ?_; rintro e w4 ⟨rfl, rfl⟩
  go_wp2_with fail
  refine (eq_s a b F F true (by simp) (by have := HFL.out; omega) (by have := HFL.out; omega) HA.out HB.out HC).mono ?_; rintro e w5 ⟨rfl, _, HC⟩
  go_wp2_with fail
  refine (works_s HC).mono ?_; rintro e w6 ⟨rfl, HC⟩
  go_wp2
  go_ret
  exact ⟨rfl, HC.out.1⟩
theorem lfields_over (W0 : World) (s : ByteArray) (v : Value) (L : List ByteArray) (hI : Strs W0 v L) (h : 1000 < s.size ∨ 50 < L.length) (hM : MaxW W0) : Calls Tryd.prog 4 #[.string s, v] W0 fun e w' => e = .returned (.bool true) ∧ Below W0.heap.size W0 w' := by
  have HC := Lib.hid (Ms.mk0 hM)
  obtain ⟨va, vc, rfl⟩ := hI.len
  clear hM hI
  by_cases h1 : 1000 < s.size
  · clear h
    go_enter Tryd.func4, Tryd.ntmps4
    go_wp2_with fail
    refine (works_s HC).mono ?_; rintro e w6 ⟨rfl, HC⟩
    go_wp2
    go_ret
    exact ⟨rfl, HC.out.1⟩
  · have h2 : 50 < L.length := by omega
    clear h
    go_enter Tryd.func4, Tryd.ntmps4
    go_wp2_with fail
    refine (works_s HC).mono ?_; rintro e w6 ⟨rfl, HC⟩
    go_wp2
    go_ret
    exact ⟨rfl, HC.out.1⟩
theorem lfields_any (W0 : World) (s : ByteArray) (hs : s.size ≤ 1000) (v : Value) (L : List ByteArray) (hI : Strs W0 v L) (hl : L.length ≤ 50) (h4 : L.any over4 = true) (hM : MaxW W0) : Calls Tryd.prog 4 #[.string s, v] W0 fun e w' => e = .returned (.bool true) ∧ Below W0.heap.size W0 w' := by
  have HC := Lib.hid (Ms.mk0 hM)
  have HI := Lib.hid hI
  have HANY := Lib.hid h4
  obtain ⟨va, vc, rfl⟩ := hI.len
  clear hM hI h4
  go_enter Tryd.func4, Tryd.ntmps4
  go_wp2_with fail
  refine (cfunc_any _ L (by omega) _ over_enters over4 (fun s w _ => over_c s w) _ HI.out true HANY.out).mono ?_; rintro e w1 ⟨rfl, rfl⟩
  go_wp2_with fail
  refine (works_s HC).mono ?_; rintro e w6 ⟨rfl, HC⟩
  go_wp2
  go_ret
  exact ⟨rfl, HC.out.1⟩
theorem lfields_walk (W0 : World) (s : ByteArray) (_ws : s.size ≤ maxLen) (v : Value) (L : List ByteArray) (hI : Strs W0 v L) (_hz : ∀ x ∈ L, x.size ≤ maxLen) (_hll : L.length ≤ maxLen) (hM : MaxW W0) : Calls Tryd.prog 4 #[.string s, v] W0 fun e w' => e = .returned (.bool true) ∧ Below W0.heap.size W0 w' := by
  by_cases h : 1000 < s.size ∨ 50 < L.length
  · exact lfields_over W0 s v L hI h hM
  · by_cases h4 : L.any over4 = true
    · exact lfields_any W0 s (by omega) v L hI (by omega) h4 hM
    · refine lfields_core W0 s (by omega) v L hI (by omega) ?_ _ _ rfl _ _ rfl hM
      intro x hx
      have h5 : L.any over4 = false := by simpa using h4
      rw [List.any_eq_false] at h5
      have := h5 x hx
      simp [over4] at this
      exact this
end Go.Proofs.YtlekbbggbfhgaaaDoor
