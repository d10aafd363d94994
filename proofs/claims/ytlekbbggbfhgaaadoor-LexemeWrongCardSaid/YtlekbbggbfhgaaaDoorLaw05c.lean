/- The walk of LexemeLines. -/
import Derived.Test.YtlekbbggbfhgaaaDoorLaw05a
import Derived.Test.YtlekbbggbfhgaaaDoorRef05
namespace Go.Proofs.YtlekbbggbfhgaaaDoor
open Go.RowKit
theorem lns_len (l : List UInt8) (h : l.length ≤ 100000) (L : List ByteArray) (n c : Int) (e : Lx.lns l = (L, n, c)) : L.length ≤ 200000 := by
  unfold Lx.lns at e
  rw [if_neg (by omega)] at e
  have h1 := Lx.split_len 10 (Lib.trimSuffix l [10])
  have h2 := Lib.trimSuffix_le l [10]
  split at e
  · rw [← (Prod.mk.inj e).1]; simp
  · rw [← (Prod.mk.inj e).1, List.length_map]; omega
theorem rlines_s {W0 w : World} (s : ByteArray) (hs : s.size ≤ 3000) (L : List ByteArray) (n c : Int) (h : Hid (Lx.lns s.data.toList = (L, n, c))) (HC : Hid (Ms W0 w)) :
    Calls Tryd.prog 13 #[.string s] w fun e w' => ∃ v, e = .returned (.tuple #[v, .int .i64 n, .int .i64 c]) ∧ Hid (Strs w' v L) ∧ Below w.heap.size w w' ∧ Hid (Ms W0 w') :=
  (rlines_any s hs L n c h.out w).mono fun _ _ ⟨v, he, hs, hb⟩ => ⟨v, he, Lib.hid hs, hb, Ms.hbl HC hb⟩
theorem eq_s {W0 w : World} (u v : Value) (L M : List ByteArray) (r : Bool) (hr : decide (L = M) = r) (hL : L.length ≤ 100000000) (hM : M.length ≤ 100000000) (hI : Strs w u L) (hJ : Strs w v M) (HC : Hid (Ms W0 w)) : Calls Tryd.prog 14 #[u, v] w fun e w' => e = .returned (.bool r) ∧ Below w.heap.size w w' ∧ Hid (Ms W0 w') :=
  (eq_at u v L M r hr hL hM w hI hJ).mono fun _ _ ⟨he, hb⟩ => ⟨he, hb, Ms.hbl HC hb⟩
set_option maxRecDepth 100000 in
theorem llines_core (s : ByteArray) (hs : s.size ≤ 3000) (L : List ByteArray) (n c : Int) (h : Lx.lns s.data.toList = (L, n, c)) (W0 : World) (hM : MaxW W0) : Calls Tryd.prog 3 #[.string s] W0 fun e w' => e = .returned (.bool true) ∧ Below W0.heap.size W0 w' := by
  have HC := Lib.hid (Ms.mk0 hM)
  have HL := Lib.hid (lns_len _ (by rw [← Lib.size_eq]; omega) L n c h)
  have HH := Lib.hid h
  have hnn : (n == n) = true := beq_self_eq_true _
  have hcc : (c == c) = true := beq_self_eq_true _
  clear hM h
  go_enter Tryd.func3, Tryd.ntmps3
  go_wp2_with fail
  refine (lines_s s (by omega) L n c HH HC).mono ?_; rintro e w1 ⟨u, rfl, HU, _, HC⟩
  go_wp2_with fail
  refine (rlines_s s hs L n c HH HC).mono ?_; rintro e w2 ⟨v, rfl, HV, hb, HC⟩
  replace HU := Strs.hbl HU hb
  clear hb
  go_wp2_with fail
  refine (eq_s u v L L true (by simp) (by have := HL.out; omega) (by have := HL.out; omega) HU.out HV.out HC).mono ?_; rintro e w3 ⟨rfl, _, HC⟩
  go_wp2_with fail
  refine (works_s HC).mono ?_; rintro e w4 ⟨rfl, HC⟩
  go_wp2
  go_ret
  exact ⟨rfl, HC.out.1⟩
theorem llines_long (s : ByteArray) (hs : 3000 < s.size) (W0 : World) (hM : MaxW W0) : Calls Tryd.prog 3 #[.string s] W0 fun e w' => e = .returned (.bool true) ∧ Below W0.heap.size W0 w' := by
  have HC := Lib.hid (Ms.mk0 hM)
  clear hM
  go_enter Tryd.func3, Tryd.ntmps3
  go_wp2_with fail
  refine (works_s HC).mono ?_; rintro e w4 ⟨rfl, HC⟩
  go_wp2
  go_ret
  exact ⟨rfl, HC.out.1⟩
theorem llines_walk (s : ByteArray) (_ws : s.size ≤ maxLen) (W0 : World) (hM : MaxW W0) : Calls Tryd.prog 3 #[.string s] W0 fun e w' => e = .returned (.bool true) ∧ Below W0.heap.size W0 w' := by
  by_cases h : 3000 < s.size
  · exact llines_long s h W0 hM
  · exact llines_core s (by omega) _ _ _ rfl W0 hM
end Go.Proofs.YtlekbbggbfhgaaaDoor
