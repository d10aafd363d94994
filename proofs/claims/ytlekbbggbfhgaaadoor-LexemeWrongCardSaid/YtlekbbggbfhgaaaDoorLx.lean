/- Lines and fields, as plain lists of bytes. No program is named. -/
import Derived.Test.YtlekbbggbfhgaaaDoorKit
namespace Go.Proofs.YtlekbbggbfhgaaaDoor.Lx
/-- what a byte means, in or outside of quotes: 0 wrong, 1 part of a field, 2 quote, 3 gap, 4 comment -/
def kind (b : UInt8) (q : Bool) : Nat :=
  if b.toNat = 34 then 2 else if b.toNat = 35 then (if q then 1 else 4) else if b.toNat = 9 then (if q then 0 else 3) else if b.toNat = 32 then (if q then 1 else 3) else if b.toNat < 32 ∨ 126 < b.toNat then 0 else 1
/-- what is read from a state on: the fields, or none where the line is wrong -/
def scan : List UInt8 → List (List UInt8) → List UInt8 → Bool → Bool → Option (List (List UInt8))
  | [], F, L, o, q => if q then none else some (if o then F ++ [L] else F)
  | b :: r, F, L, o, q =>
    match kind b q with
    | 1 => scan r F (L ++ [b]) true q
    | 2 => scan r F L true (!q)
    | 3 => scan r (if o then F ++ [L] else F) (if o then [] else L) false q
    | 4 => if q then none else some (if o then F ++ [L] else F)
    | _ => none
theorem kind_le (b : UInt8) (q : Bool) : kind b q = 0 ∨ kind b q = 1 ∨ kind b q = 2 ∨ kind b q = 3 ∨ kind b q = 4 := by
  unfold kind; repeat' split
  all_goals simp
theorem scan1 {b : UInt8} {q : Bool} (h : kind b q = 1) (r : List UInt8) (F L o) : scan (b :: r) F L o q = scan r F (L ++ [b]) true q := by
  rw [scan, h]; rfl
theorem scan2 {b : UInt8} {q : Bool} (h : kind b q = 2) (r : List UInt8) (F L o) : scan (b :: r) F L o q = scan r F L true (!q) := by
  rw [scan, h]; rfl
theorem scan3 {b : UInt8} {q : Bool} (h : kind b q = 3) (r : List UInt8) (F L o) : scan (b :: r) F L o q = scan r (if o then F ++ [L] else F) (if o then [] else L) false q := by
  rw [scan, h]; rfl
theorem scan4 {b : UInt8} {q : Bool} (h : kind b q = 4) (r : List UInt8) (F L o) : scan (b :: r) F L o q = if q then none else some (if o then F ++ [L] else F) := by
  rw [scan, h]; rfl
theorem scan0 {b : UInt8} {q : Bool} (h : kind b q = 0) (r : List UInt8) (F L o) : scan (b :: r) F L o q = none := by
  rw [scan, h]; rfl
theorem kind4 {b : UInt8} {q : Bool} (h : kind b q = 4) : q = false := by
  unfold kind at h
  cases q with
  | false => rfl
  | true => revert h; repeat' split
            all_goals simp_all
theorem kind_byte {b : UInt8} {q : Bool} (h : kind b q = 1) : 32 ≤ b.toNat ∧ b.toNat ≤ 126 ∧ b.toNat ≠ 34 := by
  unfold kind at h
  revert h; repeat' split
  all_goals (intro h; first | (exfalso; omega) | omega | (refine ⟨?_, ?_, ?_⟩ <;> omega))
end Go.Proofs.YtlekbbggbfhgaaaDoor.Lx
