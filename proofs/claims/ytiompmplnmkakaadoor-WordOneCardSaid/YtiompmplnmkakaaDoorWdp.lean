/- Finite facts on the words of the four lists, checked by the kernel: a byte more, all beginnings. -/
import Derived.Test.YtiompmplnmkakaaDoorLst
namespace Go.Proofs.YtiompmplnmkakaaDoor
open Go.RowKit
namespace Wd
def WQ : Nat → List (List Nat)
  | 0 => [[], [114, 117, 108, 101], [122, 111, 110, 101], [108, 105, 110, 107], [115, 104, 105, 102, 116], [], [], [], [], [], [], [], []]
  | 1 => [[], [106, 97, 110, 117, 97, 114, 121], [102, 101, 98, 114, 117, 97, 114, 121], [109, 97, 114, 99, 104], [97, 112, 114, 105, 108], [109, 97, 121], [106, 117, 110, 101], [106, 117, 108, 121], [97, 117, 103, 117, 115, 116], [115, 101, 112, 116, 101, 109, 98, 101, 114], [111, 99, 116, 111, 98, 101, 114], [110, 111, 118, 101, 109, 98, 101, 114], [100, 101, 99, 101, 109, 98, 101, 114]]
  | 2 => [[115, 117, 110, 100, 97, 121], [109, 111, 110, 100, 97, 121], [116, 117, 101, 115, 100, 97, 121], [119, 101, 100, 110, 101, 115, 100, 97, 121], [116, 104, 117, 114, 115, 100, 97, 121], [102, 114, 105, 100, 97, 121], [115, 97, 116, 117, 114, 100, 97, 121], [], [], [], [], [], []]
  | _ => [[], [111, 110, 108, 121], [109, 97, 120, 105, 109, 117, 109], [], [], [], [], [], [], [], [], [], []]
def VQ : Nat → List (List Nat)
  | 0 => [[114, 117, 108, 101], [122, 111, 110, 101], [108, 105, 110, 107], [115, 104, 105, 102, 116]]
  | 1 => [[106, 97, 110, 117, 97, 114, 121], [102, 101, 98, 114, 117, 97, 114, 121], [109, 97, 114, 99, 104], [97, 112, 114, 105, 108], [109, 97, 121], [106, 117, 110, 101], [106, 117, 108, 121], [97, 117, 103, 117, 115, 116], [115, 101, 112, 116, 101, 109, 98, 101, 114], [111, 99, 116, 111, 98, 101, 114], [110, 111, 118, 101, 109, 98, 101, 114], [100, 101, 99, 101, 109, 98, 101, 114]]
  | 2 => [[115, 117, 110, 100, 97, 121], [109, 111, 110, 100, 97, 121], [116, 117, 101, 115, 100, 97, 121], [119, 101, 100, 110, 101, 115, 100, 97, 121], [116, 104, 117, 114, 115, 100, 97, 121], [102, 114, 105, 100, 97, 121], [115, 97, 116, 117, 114, 100, 97, 121]]
  | _ => [[111, 110, 108, 121], [109, 97, 120, 105, 109, 117, 109]]
theorem wl_LQ (q : Nat) (h : q < 4) : wl (LQ q) = WQ q := by
  rcases q_split q h with rfl | rfl | rfl | rfl <;> decide +kernel
theorem wl_RQ (q : Nat) (h : q < 4) : wl (RQ q) = VQ q := by
  rcases q_split q h with rfl | rfl | rfl | rfl <;> decide +kernel
theorem pre_mem (s w : List Nat) (h : pre s w = true) : ∀ a ∈ s, a ∈ w := by
  intro a ha
  rw [pre_take s w h] at ha
  exact List.mem_of_mem_take ha
/-- all words are of small letters -/
theorem letters (q : Nat) (h : q < 4) : ∀ w ∈ WQ q, ∀ a ∈ w, 97 ≤ a ∧ a ≤ 122 := by
  rcases q_split q h with rfl | rfl | rfl | rfl <;> decide +kernel
theorem lettersV (q : Nat) (h : q < 4) : ∀ w ∈ VQ q, ∀ a ∈ w, 97 ≤ a ∧ a ≤ 122 := by
  rcases q_split q h with rfl | rfl | rfl | rfl <;> decide +kernel
theorem sm_small (c : Nat) (h : 97 ≤ c) : sm c = c := sm_no c (by omega)
/-- .. with one more -/
def ins (v : List Nat) (k m : Nat) : List Nat := v.take k ++ m :: v.drop k
def chk (q : Nat) : Bool := (VQ q).all fun v => (List.range (v.length + 1)).all fun k => (List.range 26).all fun j => match fnd (WQ q) (ins v k (97 + j)) with | (0, 8) => true | _ => false
theorem chk_ok (q : Nat) (h : q < 4) : chk q = true := by
  rcases q_split q h with rfl | rfl | rfl | rfl <;> decide +kernel
theorem more_none (q : Nat) (h : q < 4) (v : List Nat) (hv : v ∈ VQ q) (k : Nat) (hk : k ≤ v.length) (m : Nat) : fnd (WQ q) (ins v k m) = (0, 8) := by
  by_cases hm : 97 ≤ m ∧ m ≤ 122
  · have h1 := List.all_eq_true.1 (chk_ok q h) v hv
    have h2 := List.all_eq_true.1 h1 k (List.mem_range.2 (by omega))
    have h3 := List.all_eq_true.1 h2 (m - 97) (List.mem_range.2 (by omega))
    rw [show 97 + (m - 97) = m by omega] at h3
    split at h3
    · assumption
    · cases h3
  · refine fnd_no _ _ fun w hw => ?_
    cases e : pre (ins v k m) w with
    | false => rfl
    | true =>
      have := letters q h w hw m (pre_mem _ _ e m (by simp [ins]))
      exact absurd this hm
/-- the number of other words that begin with n letters of a word, from the k-th on -/
def oth (V : List (List Nat)) (i n : Nat) : Nat → Nat
  | 0 => 0
  | k + 1 => oth V i n k + (if k ≠ i ∧ n ≤ (V.getD k []).length ∧ (V.getD k []).take n = (V.getD i []).take n then 1 else 0)
def chkB (q : Nat) : Bool := (List.range (VQ q).length).all fun i => (List.range ((VQ q).getD i []).length).all fun n =>
  if 0 < oth (VQ q) i (n + 1) (VQ q).length ∧ n + 1 < ((VQ q).getD i []).length then decide (fnd (WQ q) (((VQ q).getD i []).take (n + 1)) = (0, 8)) else decide (fnd (WQ q) (((VQ q).getD i []).take (n + 1)) = ((i : Int) + NQ q, 0)) && decide (fnd (WQ q) ((VQ q).getD i []) = ((i : Int) + NQ q, 0))
theorem chkB_ok (q : Nat) (h : q < 4) : chkB q = true := by
  rcases q_split q h with rfl | rfl | rfl | rfl <;> decide +kernel
end Wd
end Go.Proofs.YtiompmplnmkakaaDoor
