/- A string means at most one word of each list; cut off further, the same one, or none. -/
import Derived.Test.YtiompmplnmkakaaDoorWdp
namespace Go.Proofs.YtiompmplnmkakaaDoor
open Go.RowKit
namespace Wd
/-- what is said of one string and one list -/
def ok1 (q : Nat) (s : List Nat) : Bool :=
  (decide (fnd (WQ q) s = (0, 8))) || (decide ((fnd (WQ q) s).2 = 0) && decide (NQ q ≤ (fnd (WQ q) s).1) && Nat.blt ((fnd (WQ q) s).1 - NQ q).toNat (VQ q).length && (match s with | [] => false | _ => true) && pre s ((VQ q).getD ((fnd (WQ q) s).1 - NQ q).toNat []) && (decide (fnd (WQ q) (s.take (s.length - 1)) = fnd (WQ q) s) || decide (fnd (WQ q) (s.take (s.length - 1)) = (0, 8))))
theorem ok1_all (q : Nat) (h : q < 4) : ∀ s ∈ allp (WQ q), ok1 q s = true := by
  rcases q_split q h with rfl | rfl | rfl | rfl <;> decide +kernel
theorem ok1_any (q : Nat) (h : q < 4) (s : List Nat) : ok1 q s = true := by
  refine by_pre (WQ q) (fun s => ok1 q s = true) (ok1_all q h) (fun s hs => ?_) s
  unfold ok1
  rw [fnd_no _ s hs, decide_eq_true rfl]
  rfl
theorem one_plain (q : Nat) (h : q < 4) (s : List Nat) : fnd (WQ q) s = (0, 8) ∨ ∃ p : Nat, p < (VQ q).length ∧ fnd (WQ q) s = (NQ q + (p : Int), 0) ∧ s ≠ [] ∧ pre s ((VQ q).getD p []) = true ∧ (fnd (WQ q) (s.take (s.length - 1)) = (NQ q + (p : Int), 0) ∨ fnd (WQ q) (s.take (s.length - 1)) = (0, 8)) := by
  have := ok1_any q h s
  unfold ok1 at this
  rcases hr : fnd (WQ q) s with ⟨r1, r2⟩
  rw [hr] at this
  simp only [Bool.or_eq_true, Bool.and_eq_true, decide_eq_true_eq, Nat.blt_eq] at this
  rcases this with h1 | ⟨⟨⟨⟨⟨h1, h2⟩, h3⟩, h4⟩, h5⟩, h6⟩
  · exact .inl h1
  · refine .inr ⟨(r1 - NQ q).toNat, h3, ?_, ?_, h5, ?_⟩
    · rw [h1, Int.toNat_of_nonneg (by omega)]
      congr 1
      omega
    · rintro rfl
      cases h4
    · rcases h6 with h6 | h6
      · left
        rw [h6, h1, Int.toNat_of_nonneg (by omega)]
        congr 1
        omega
      · exact .inr h6
end Wd
end Go.Proofs.YtiompmplnmkakaaDoor
