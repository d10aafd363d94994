/- Fields, found part by part: plain lists of bytes. No program is named. -/
import Derived.Test.YtlekbbggbfhgaaaDoorLx
namespace Go.Proofs.YtlekbbggbfhgaaaDoor.Lx
open Go
/-- a byte that can stand outside of quotes -/
def pl (b : UInt8) : Bool := kind b false == 1
theorem kindF (b : UInt8) : (b.toNat = 34 ∧ kind b false = 2) ∨ (b.toNat = 35 ∧ kind b false = 4) ∨ (b.toNat = 9 ∧ kind b false = 3) ∨ (b.toNat = 32 ∧ kind b false = 3) ∨ ((b.toNat ≠ 34 ∧ b.toNat ≠ 35 ∧ b.toNat ≠ 9 ∧ b.toNat ≠ 32) ∧ ((b.toNat < 32 ∧ kind b false = 0) ∨ (126 < b.toNat ∧ kind b false = 0) ∨ (32 < b.toNat ∧ b.toNat ≤ 126 ∧ kind b false = 1))) := by
  unfold kind
  repeat' split
  all_goals simp_all <;> omega
theorem kindT (b : UInt8) : (b.toNat = 34 ∧ kind b true = 2) ∨ (b.toNat ≠ 34 ∧ 32 ≤ b.toNat ∧ b.toNat ≤ 126 ∧ kind b true = 1) ∨ ((b.toNat < 32 ∨ 126 < b.toNat) ∧ kind b true = 0) := by
  unfold kind
  repeat' split
  all_goals simp_all <;> omega
theorem pl_yes {b : UInt8} (h : pl b = true) : kind b false = 1 := by simpa [pl] using h
theorem scan_o {b : UInt8} (h : kind b false = 1 ∨ kind b false = 2) (r : List UInt8) (F : List (List UInt8)) (L : List UInt8) (o : Bool) : scan (b :: r) F L o false = scan (b :: r) F L true false := by
  rcases h with h | h
  · rw [scan1 h, scan1 h]
  · rw [scan2 h, scan2 h]
/-- where a field cannot go on it has ended -/
theorem scan_end (l : List UInt8) (h : ∀ b r, l = b :: r → kind b false ≠ 1 ∧ kind b false ≠ 2) (F : List (List UInt8)) (s : List UInt8) : scan l F s true false = scan l (F ++ [s]) [] false false := by
  cases l with
  | nil => rfl
  | cons b r =>
    obtain ⟨h1, h2⟩ := h b r rfl
    rcases kind_le b false with h | h | h | h | h
    · rw [scan0 h, scan0 h]
    · exact absurd h h1
    · exact absurd h h2
    · rw [scan3 h, scan3 h]; rfl
    · rw [scan4 h, scan4 h]; rfl
theorem drop_cons (s : ByteArray) (k : Nat) (h : k < s.size) (hl : s.data.toList.length = s.size) : s.data.toList.drop k = s[k] :: s.data.toList.drop (k + 1) := by
  rw [List.drop_eq_getElem_cons (by rw [hl]; exact h)]; rfl
/-- what a quoted part is read as -/
def QRes (l : List UInt8) (n i : Nat) (p : List UInt8) (nx : Nat) (ok : Bool) : Prop :=
  (ok = true ∧ i < nx ∧ nx ≤ n ∧ p.length + i ≤ nx ∧ ∀ F L, scan (l.drop i) F L true true = scan (l.drop nx) F (L ++ p) true false) ∨ (ok = false ∧ p = [] ∧ nx = 0 ∧ ∀ F L, scan (l.drop i) F L true true = none)
/-- what a field is read as -/
def FRes (l : List UInt8) (n i : Nat) (p : List UInt8) (nx : Nat) (ok : Bool) : Prop :=
  (ok = true ∧ i ≤ nx ∧ nx ≤ n ∧ p.length ≤ nx ∧ (∀ b r, l.drop nx = b :: r → kind b false ≠ 1 ∧ kind b false ≠ 2) ∧ ∀ F, scan (l.drop i) F [] true false = scan (l.drop nx) F p true false) ∨ (ok = false ∧ p = [] ∧ nx = 0 ∧ ∀ F, scan (l.drop i) F [] true false = none)
end Go.Proofs.YtlekbbggbfhgaaaDoor.Lx
