/- slices.IndexFunc and slices.ContainsFunc at strings, strings.Join, strings.Contains: contracts. -/
import Derived.Test.YtlekbbggbfhgaaaDoorLaw05a
import Derived.Test.YtlekbbggbfhgaaaDoorLr
namespace Go.Proofs.YtlekbbggbfhgaaaDoor
open Go.RowKit
/-- the first index at which p says yes, or -1 -/
def fidx (p : ByteArray → Bool) (L : List ByteArray) : Int := match L.findIdx? p with
  | some i => (i : Int)
  | none => -1
set_option maxRecDepth 100000 in
theorem ifunc_core (b off cap : Nat) (L : List ByteArray) (hl0 : 0 < L.length) (hl : L.length ≤ 100000) (F : FuncId) (hF : ∀ args w, (callFunc F args).run Tryd.prog w = .ok (.enter F args) w) (p : ByteArray → Bool) (hp : ∀ s w, s ∈ L → Calls Tryd.prog F #[.string s] w fun e w' => e = .returned (.bool (p s)) ∧ w = w') (w : World) (hc : ∀ j s, L[j]? = some s → w.cell? ⟨b, off + j, none⟩ = some (.string s)) :
    Calls Tryd.prog 23 #[.slice (some ⟨b, off, none⟩) L.length cap, .func (.func F) #[] #[]] w fun e w' => e = .returned (.int .i64 (fidx p L)) ∧ w = w' := by
  have HC := Lib.hid hc
  have HP := Lib.hid hp
  clear hc hp
  go_enter Tryd.func23, Tryd.ntmps23
  go_wp2
  go_loopw [8] (fun i wr => ∃ k : Nat, k ≤ L.length ∧ i = .int .i64 k ∧ (∀ j x, j < k → L[j]? = some x → p x = false) ∧ w = wr) (fun i _ => L.length - (intOf i).toNat)
  case atStart => exact ⟨0, by omega, rfl, fun j x hj => absurd hj (by omega), by first | rfl | trivial⟩
  case round =>
    obtain ⟨k, hk, rfl, hall, rfl⟩ := hrel
    have HA := Lib.hid hall
    clear hall
    by_cases hkn : k < L.length
    · have c0 := HC.out k L[k] (List.getElem?_eq_getElem hkn)
      have hk0 : (0 : Int) ≤ (k : Int) := by omega
      have hk1 : (k : Int) < (L.length : Int) := by omega
      have hx := fun w => HP.out L[k] w (List.getElem_mem hkn)
      by_cases hw : p L[k] = true
      · have hfi : fidx p L = (k : Int) := by
          have : L.findIdx? p = some k := by
            rw [List.findIdx?_eq_some_iff_getElem]
            exact ⟨hkn, hw, fun j hj => by rw [HA.out j L[j] hj (List.getElem?_eq_getElem (by omega))]; simp⟩
          unfold fidx; rw [this]
        have HFI := Lib.hid hfi
        rw [hw] at hx
        generalize L[k] = y at *
        clear hw hfi
        go_wp2_with (go_at_fn F; refine (hx _).mono ?_; rintro e w1 ⟨rfl, rfl⟩)
        go_ret
        exact ⟨ret_int HFI.out.symm, rfl⟩
      · have hw1 : p L[k] = false := by simpa using hw
        have HW := Lib.hid hw1
        rw [hw1] at hx
        generalize hy : L[k] = y at *
        have HY := Lib.hid hy
        clear hw hw1 hy
        go_wp2_with (go_at_fn F; refine (hx _).mono ?_; rintro e w1 ⟨rfl, rfl⟩)
        go_roundw
        case rel =>
          refine ⟨k + 1, by omega, by go_num, fun j x hj hx => ?_, by first | rfl | trivial⟩
          by_cases e : j = k
          · subst e
            rw [List.getElem?_eq_getElem hkn, HY.out] at hx
            injection hx with hx
            subst hx
            exact HW.out
          · exact HA.out j x (by omega) hx
        case measure => simp [intOf] <;> omega
    · obtain rfl : k = L.length := by omega
      have hfi : fidx p L = -1 := by
        have : L.findIdx? p = none := by
          rw [List.findIdx?_eq_none_iff]
          intro x hx
          obtain ⟨j, hj, rfl⟩ := List.getElem_of_mem hx
          exact HA.out j L[j] hj (List.getElem?_eq_getElem hj)
        unfold fidx; rw [this]
      have HFI := Lib.hid hfi
      clear hfi
      go_wp2
      go_ret
      exact ⟨ret_int HFI.out.symm, rfl⟩
theorem ifunc_nil (a : Option Addr) (cap : Nat) (F : FuncId) (w : World) :
    Calls Tryd.prog 23 #[.slice a 0 cap, .func (.func F) #[] #[]] w fun e w' => e = .returned (.int .i64 (-1)) ∧ w = w' := by
  go_enter Tryd.func23, Tryd.ntmps23
  go_wp2
  go_loopw [8] (fun i wr => i = .int .i64 0 ∧ w = wr) (fun _ _ => 0)
  case atStart => exact ⟨rfl, by first | rfl | trivial⟩
  case round =>
    obtain ⟨rfl, rfl⟩ := hrel
    go_wp2
    go_ret
    exact ⟨rfl, rfl⟩
theorem ifunc_any (v : Value) (L : List ByteArray) (hl : L.length ≤ 100000) (F : FuncId) (hF : ∀ args w, (callFunc F args).run Tryd.prog w = .ok (.enter F args) w) (p : ByteArray → Bool) (hp : ∀ s w, s ∈ L → Calls Tryd.prog F #[.string s] w fun e w' => e = .returned (.bool (p s)) ∧ w = w') (w : World) (hI : Strs w v L) :
    Calls Tryd.prog 23 #[v, .func (.func F) #[] #[]] w fun e w' => e = .returned (.int .i64 (fidx p L)) ∧ w = w' := by
  rcases hI with ⟨a, cap, rfl, rfl⟩ | ⟨b, off, cap, rfl, hp0, hb, hc⟩
  · exact ifunc_nil a cap F w
  · exact ifunc_core b off cap L hp0.1 hl F hF p hp w hc
theorem cfunc_any (v : Value) (L : List ByteArray) (hl : L.length ≤ 100000) (F : FuncId) (hF : ∀ args w, (callFunc F args).run Tryd.prog w = .ok (.enter F args) w) (p : ByteArray → Bool) (hp : ∀ s w, s ∈ L → Calls Tryd.prog F #[.string s] w fun e w' => e = .returned (.bool (p s)) ∧ w = w') (w : World) (hI : Strs w v L) (r : Bool) (hr : L.any p = r) :
    Calls Tryd.prog 15 #[v, .func (.func F) #[] #[]] w fun e w' => e = .returned (.bool r) ∧ w = w' := by
  have hi := ifunc_any v L hl F hF p hp w hI
  have hx : (r = true ∧ (0 : Int) ≤ fidx p L) ∨ (r = false ∧ ¬ (0 : Int) ≤ fidx p L) := by
    subst hr
    unfold fidx
    cases h : L.findIdx? p with
    | none =>
      right
      rw [List.findIdx?_eq_none_iff] at h
      refine ⟨?_, by decide⟩
      rw [List.any_eq_false]
      intro x hx; rw [h x hx]; simp
    | some i =>
      left
      rw [List.findIdx?_eq_some_iff_getElem] at h
      obtain ⟨hi, hp, _⟩ := h
      exact ⟨List.any_eq_true.2 ⟨_, List.getElem_mem hi, hp⟩, Int.natCast_nonneg _⟩
  clear hI hp hr hl
  generalize fidx p L = z at *
  rcases hx with ⟨rfl, hz⟩ | ⟨rfl, hz⟩
  all_goals
    go_enter Tryd.func15, Tryd.ntmps15
    go_wp2_with fail
    refine hi.mono ?_; rintro e w1 ⟨rfl, rfl⟩
    go_wp2
    go_ret
    exact ⟨ret_bool (by first | (simp; done) | simpa using hz), rfl⟩
/-- strings.Join at a slice of strings -/
theorem sjoin_s {W0 w : World} (v : Value) (L : List ByteArray) (sep S : ByteArray) (hS : Lx.bs (Lib.join (L.map (·.data.toList)) sep.data.toList) = S) (hs : S.size ≤ 100000000) (hl : L.length ≤ 100000000) (hI : Strs w v L) (HC : Hid (Ms W0 w)) :
    Calls Tryd.prog 26 #[v, .string sep] w fun e w' => e = .returned (.string S) ∧ Below w.heap.size w w' ∧ Hid (Ms W0 w') := by
  subst hS
  rw [Lx.size_bs] at hs
  rcases hI with ⟨a, cap, rfl, rfl⟩ | ⟨b, off, cap, rfl, hp0, hb, hc⟩
  · refine (Tryd.strings_Join_none a cap sep w).mono ?_
    rintro e w' ⟨rfl, rfl⟩
    exact ⟨rfl, Below.refl _ _, HC⟩
  · refine (Tryd.strings_Join b off cap L sep w hc hb (by omega) hp0.2 (by omega)).mono ?_
    rintro e w' ⟨rfl, hb⟩
    exact ⟨rfl, hb, Ms.hbl HC hb⟩
end Go.Proofs.YtlekbbggbfhgaaaDoor
