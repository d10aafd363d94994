/- The parts of a text, joined again: plain lists of bytes. No program is named. -/
import Derived.Test.YtlekbbggbfhgaaaDoorLr
import Derived.Lib.Join
namespace Go.Proofs.YtlekbbggbfhgaaaDoor.Lx
open Go
theorem join_split (c : UInt8) (l : List UInt8) : Lib.join (split c l) [c] = l := by
  induction l with
  | nil => rfl
  | cons b r ih =>
    rw [split]
    cases hs : split c r with
    | nil => exact absurd hs (split_ne c r)
    | cons d t =>
      rw [hs, Lib.join_cons] at ih
      by_cases h : b = c
      · rw [if_pos h, Lib.join_cons, Lib.joinTail, List.map_cons, List.flatten_cons]
        rw [← ih, h]
        simp [Lib.joinTail]
      · rw [if_neg h]
        show Lib.join ((b :: d) :: t) [c] = b :: r
        rw [Lib.join_cons, ← ih]; rfl
theorem split_no (c : UInt8) (l : List UInt8) : ∀ x ∈ split c l, c ∉ x := by
  induction l with
  | nil => intro x hx; simp [split] at hx; rw [hx]; simp
  | cons b r ih =>
    rw [split]
    by_cases h : b = c
    · rw [if_pos h]
      intro x hx
      rcases List.mem_cons.1 hx with rfl | hx
      · simp
      · exact ih x hx
    · rw [if_neg h]
      cases hs : split c r with
      | nil => exact absurd hs (split_ne c r)
      | cons d t =>
        rw [hs] at ih
        intro x hx
        rcases List.mem_cons.1 (show x ∈ (b :: d) :: t from hx) with rfl | hx
        · intro hc
          rcases List.mem_cons.1 hc with hc | hc
          · exact h hc.symm
          · exact ih d (List.mem_cons_self ..) hc
        · exact ih x (List.mem_cons_of_mem _ hx)
theorem index_no (c : UInt8) (l : List UInt8) (h : c ∉ l) : Lib.indexByte l c = -1 := by
  induction l with
  | nil => rfl
  | cons b r ih =>
    have hb : (b == c) = false := by simp; exact fun e => h (by rw [e]; exact List.mem_cons_self ..)
    rw [Lib.indexByte, hb, ih fun hr => h (List.mem_cons_of_mem _ hr)]; rfl
/-- a line that is too long -/
def tooLong (s : ByteArray) : Bool := decide (300 < s.size)
theorem text_long (l : List UInt8) (hl : l.length ≤ 8388608) (i : Nat) (h : ((split 10 l).map bs).findIdx? tooLong = some i) : lns l = ([], (i : Int) + 1, 6) := by
  rw [List.findIdx?_eq_some_iff_getElem] at h
  obtain ⟨hi, hp, hn⟩ := h
  have hi2 : i < (split 10 l).length := by simpa using hi
  have e : split 10 l = (split 10 l).take i ++ (split 10 l)[i] :: (split 10 l).drop (i + 1) := by
    rw [← List.drop_eq_getElem_cons hi2, List.take_append_drop]
  have := lns_err l hl ((split 10 l).take i) _ _ e.symm (by
    intro d hd
    obtain ⟨j, hj, rfl⟩ := List.getElem_of_mem hd
    have hj2 : j < i := by simp at hj; omega
    have := hn j hj2
    simp [tooLong, size_bs] at this
    rw [List.getElem_take]; exact this) (by simpa [tooLong, size_bs] using hp)
  rw [this]
  have : ((split 10 l).take i).length = i := by simp; omega
  rw [this]
theorem text_fine (l : List UInt8) (hl : l.length ≤ 8388608) (h : ((split 10 l).map bs).findIdx? tooLong = none) : lns l = ((split 10 (Lib.trimSuffix l [10])).map bs, 0, 0) ∧ ∀ x ∈ split 10 (Lib.trimSuffix l [10]), x.length ≤ 300 := by
  rw [List.findIdx?_eq_none_iff] at h
  have h1 : ∀ x ∈ split 10 l, x.length ≤ 300 := by
    intro x hx
    have := h (bs x) (List.mem_map_of_mem hx)
    simp [tooLong, size_bs] at this
    exact this
  have h2 : ∀ x ∈ split 10 (Lib.trimSuffix l [10]), x.length ≤ 300 := by
    rcases trim_split l with ⟨e, _⟩ | ⟨e, _⟩
    · rw [e]; exact h1
    · intro x hx; exact h1 x (by rw [e]; exact List.mem_append_left _ hx)
  exact ⟨lns_fine l hl _ rfl h2, h2⟩
theorem text_again (T : List UInt8) (hl : T.length ≤ 8388607) (h : ∀ x ∈ split 10 T, x.length ≤ 300) : lns (T ++ [10]) = ((split 10 T).map bs, 0, 0) := by
  refine lns_fine (T ++ [10]) (by simp; omega) _ ?_ h
  rw [trim_yes]
end Go.Proofs.YtlekbbggbfhgaaaDoor.Lx
