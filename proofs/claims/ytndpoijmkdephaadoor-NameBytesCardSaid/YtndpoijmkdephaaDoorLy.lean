/- Lines, as plain lists of bytes. No program is named. -/
import Derived.Test.YtndpoijmkdephaaDoorKit
import Derived.Lib.Split
import Derived.Lib.SplitLaws
import Derived.Lib.IndexBytes
import Derived.Lib.Join
namespace Go.Proofs.YtndpoijmkdephaaDoor.Lx
open Go
/-- bytes as a string -/
def bs (l : List UInt8) : ByteArray := ⟨l.toArray⟩
theorem bs_data (s : ByteArray) : bs s.data.toList = s := rfl
theorem data_bs (l : List UInt8) : (bs l).data.toList = l := by simp [bs]
theorem size_bs (l : List UInt8) : (bs l).size = l.length := by show l.toArray.size = _; simp
/-- b ahead of the first -/
def ahead (b : UInt8) : List (List UInt8) → List (List UInt8)
  | h :: t => (b :: h) :: t
  | [] => [[b]]
/-- the parts between bytes c -/
def split (c : UInt8) : List UInt8 → List (List UInt8)
  | [] => [[]]
  | b :: r => if b = c then [] :: split c r else ahead b (split c r)
theorem split_ne (c : UInt8) (l : List UInt8) : split c l ≠ [] := by
  cases l with
  | nil => simp [split]
  | cons b r =>
    unfold split; split
    · simp
    · cases h : split c r <;> simp [ahead]
theorem ahead_len (b : UInt8) (P : List (List UInt8)) : (ahead b P).length ≤ P.length + 1 ∧ (P ≠ [] → (ahead b P).length = P.length) := by
  cases P <;> simp [ahead]
theorem split_len (c : UInt8) (l : List UInt8) : (split c l).length ≤ l.length + 1 := by
  induction l with
  | nil => simp [split]
  | cons b r ih =>
    unfold split; split
    · simp; exact ih
    · rw [(ahead_len b _).2 (split_ne c r)]; simp; omega
theorem splitK_ahead (c b : UInt8) (h : b ≠ c) (r : List UInt8) : ∀ k, Lib.splitK [c] 0 k (b :: r) = ahead b (Lib.splitK [c] 0 k r)
  | 0 => rfl
  | k + 1 => by
    have hi : Lib.index (b :: r) [c] = if Lib.index r [c] == -1 then -1 else Lib.index r [c] + 1 := by
      rw [Lib.index_one, Lib.index_one]
      show (if (b == c) = true then (0 : Int) else _) = _
      rw [if_neg (by simpa using h)]
    unfold Lib.splitK
    rw [hi]
    by_cases h1 : Lib.index r [c] = -1
    · simp [h1, ahead]
    · have h0 : -1 ≤ Lib.index r [c] := by rw [Lib.index_one]; exact Lib.indexByte_ge r c
      have e : (Lib.index r [c] == -1) = false := by simpa using h1
      have e2 : (Lib.index r [c] + 1 == -1) = false := by simp; omega
      simp only [e, e2, Bool.false_eq_true, if_false]
      have e3 : (Lib.index r [c] + 1).toNat = (Lib.index r [c]).toNat + 1 := by omega
      rw [e3]
      simp [ahead]
theorem splitK_split (c : UInt8) : ∀ l : List UInt8, Lib.splitK [c] 0 (Lib.count l [c]) l = split c l
  | [] => by rw [Lib.count_one]; rfl
  | b :: r => by
    have ih := splitK_split c r
    rw [Lib.count_one] at ih
    unfold split
    by_cases h : b = c
    · subst h
      rw [if_pos rfl, Lib.count_one]
      have hc : (b :: r).count b = r.count b + 1 := by simp
      have hi : Lib.index (b :: r) [b] = 0 := by rw [Lib.index_one]; simp [Lib.indexByte]
      rw [hc, Lib.splitK, hi]
      simp [ih]
    · rw [if_neg h, Lib.count_one]
      have hc : (b :: r).count c = r.count c := by simp [h]
      rw [hc, splitK_ahead c b h, ih]
theorem splitB_split (s : ByteArray) (c : UInt8) : Lib.splitB ⟨#[c]⟩ 0 (Lib.countB s ⟨#[c]⟩) s = (split c s.data.toList).map bs := by
  have h := Lib.splitB_data ⟨#[c]⟩ 0 (Lib.countB s ⟨#[c]⟩) s
  have h2 := splitK_split c s.data.toList
  have h3 : Lib.splitK (ByteArray.data ⟨#[c]⟩).toList 0 (Lib.countB s ⟨#[c]⟩) s.data.toList = split c s.data.toList := h2
  rw [h3] at h
  rw [← h, List.map_map]
  have : (bs ∘ fun x : ByteArray => x.data.toList) = id := by funext x; exact bs_data x
  rw [this, List.map_id]
theorem countB_split (s : ByteArray) (c : UInt8) : Lib.countB s ⟨#[c]⟩ + 1 = (split c s.data.toList).length := by
  have h := Lib.splitB_all ⟨#[c]⟩ (Nat.le_refl 1) 0 _ s rfl
  rw [splitB_split, List.length_map] at h
  exact h.symm
/-- what Lines returns: the lines, the number, the error -/
def lns (l : List UInt8) : List ByteArray × Int × Int :=
  if 8388608 < l.length then ([], 1, 6) else
  match (split 10 (Lib.trimSuffix l [10])).findIdx? (fun x => decide (300 < x.length)) with
  | some i => ([], (i : Int) + 1, 6)
  | none => ((split 10 (Lib.trimSuffix l [10])).map bs, 0, 0)
end Go.Proofs.YtndpoijmkdephaaDoor.Lx
