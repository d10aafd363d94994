/- What a draft makes: plain lists of bytes. No program is named. -/
import Derived.Test.YtlekbbggbfhgaaaDoorLz
namespace Go.Proofs.YtlekbbggbfhgaaaDoor.Lx
open Go
/-- the letters of drafts -/
def letters : List UInt8 := [97, 90, 48, 57, 32, 35, 45, 43, 47, 37, 58, 62, 61, 60, 46, 95, 39, 92, 126, 33]
def letter (k : Nat) : UInt8 := letters.getD k 0
def madeL (l : List UInt8) : List UInt8 := (l.take 12).map fun x => letter (x.toNat % 20)
def made (D : List (List UInt8)) : List (List UInt8) := (D.take 12).map madeL
theorem letter_ext : ∀ k, k < 20 → ((⟨#[97, 90, 48, 57, 32, 35, 45, 43, 47, 37, 58, 62, 61, 60, 46, 95, 39, 92, 126, 33]⟩ : ByteArray).extract k 20).extract 0 1 = bs [letter k] := by decide +kernel
theorem letter_ok : ∀ k, k < 20 → okb (letter k) = true := by decide +kernel
theorem made_len (D : List (List UInt8)) : (made D).length ≤ 12 := by unfold made; rw [List.length_map, List.length_take]; omega
theorem madeL_len (l : List UInt8) : (madeL l).length ≤ 12 := by unfold madeL; rw [List.length_map, List.length_take]; omega
theorem made_each (D : List (List UInt8)) : ∀ x ∈ made D, wrt x = true ∧ x.length ≤ 12 := by
  intro x hx
  obtain ⟨l, _, rfl⟩ := List.mem_map.1 hx
  refine ⟨?_, madeL_len l⟩
  unfold wrt madeL
  rw [List.all_eq_true]
  intro b hb
  obtain ⟨n, _, rfl⟩ := List.mem_map.1 hb
  exact letter_ok _ (Nat.mod_lt _ (by decide))
theorem madeL_next (l : List UInt8) (m : Nat) (h : m < l.length) (h12 : m < 12) : madeL (l.take (m + 1)) = madeL (l.take m) ++ [letter (l[m].toNat % 20)] := by
  unfold madeL
  rw [List.take_take, List.take_take, show min 12 (m + 1) = m + 1 by omega, show min 12 m = m by omega, List.take_succ_eq_append_getElem h, List.map_append]
  rfl
theorem madeL_all (l : List UInt8) : madeL (l.take (min l.length 12)) = madeL l := by
  unfold madeL
  rw [List.take_take]
  congr 1
  rcases Nat.le_total l.length 12 with h | h
  · rw [show min 12 (min l.length 12) = l.length by omega, List.take_of_length_le (Nat.le_refl _), List.take_of_length_le h]
  · rw [show min 12 (min l.length 12) = 12 by omega]
theorem made_next (D : List (List UInt8)) (m : Nat) (h : m < D.length) (h12 : m < 12) : made (D.take (m + 1)) = made (D.take m) ++ [madeL D[m]] := by
  unfold made
  rw [List.take_take, List.take_take, show min 12 (m + 1) = m + 1 by omega, show min 12 m = m by omega, List.take_succ_eq_append_getElem h, List.map_append]
  rfl
theorem made_all (D : List (List UInt8)) : made (D.take (min D.length 12)) = made D := by
  unfold made
  rw [List.take_take]
  congr 1
  rcases Nat.le_total D.length 12 with h | h
  · rw [show min 12 (min D.length 12) = D.length by omega, List.take_of_length_le (Nat.le_refl _), List.take_of_length_le h]
  · rw [show min 12 (min D.length 12) = 12 by omega]
end Go.Proofs.YtlekbbggbfhgaaaDoor.Lx
