/- Lines, found one after the other: plain lists of bytes. No program is named. -/
import Derived.Test.YtlekbbggbfhgaaaDoorLv
namespace Go.Proofs.YtlekbbggbfhgaaaDoor.Lx
open Go
theorem split_snoc (c : UInt8) (l : List UInt8) : split c (l ++ [c]) = split c l ++ [[]] := by
  induction l with
  | nil => simp [split]
  | cons b r ih =>
    rw [List.cons_append, split, split]
    by_cases h : b = c
    · rw [if_pos h, if_pos h, ih]; rfl
    · rw [if_neg h, if_neg h, ih]
      have := split_ne c r
      cases hs : split c r with
      | nil => exact absurd hs this
      | cons d t => rfl
theorem split_last (c b : UInt8) (h : b ≠ c) (l : List UInt8) : ∃ D x, split c (l ++ [b]) = D ++ [x] ∧ x ≠ [] := by
  induction l with
  | nil => exact ⟨[], [b], by simp [split, h, ahead], by simp⟩
  | cons a r ih =>
    obtain ⟨D, x, e, hx⟩ := ih
    rw [List.cons_append, split]
    by_cases ha : a = c
    · rw [if_pos ha, e]; exact ⟨[] :: D, x, rfl, hx⟩
    · rw [if_neg ha, e]
      cases D with
      | nil => exact ⟨[], a :: x, rfl, by simp⟩
      | cons d t => exact ⟨(a :: d) :: t, x, rfl, hx⟩
/-- the lines of a text against all its parts -/
theorem trim_split (l : List UInt8) : (split 10 (Lib.trimSuffix l [10]) = split 10 l ∧ (l = [] ∨ ∃ D x, split 10 l = D ++ [x] ∧ x ≠ [])) ∨ (split 10 l = split 10 (Lib.trimSuffix l [10]) ++ [[]] ∧ l ≠ []) := by
  rcases List.eq_nil_or_concat l with rfl | ⟨r, b, rfl⟩
  · exact .inl ⟨rfl, .inl rfl⟩
  · rw [List.concat_eq_append]
    by_cases hb : b = 10
    · subst hb
      right
      rw [trim_yes, split_snoc]
      exact ⟨rfl, by simp⟩
    · left
      rw [trim_no _ _ hb]
      exact ⟨rfl, .inr (split_last 10 b hb r)⟩
theorem lns_err (l : List UInt8) (hl : l.length ≤ 8388608) (D : List (List UInt8)) (x : List UInt8) (R : List (List UInt8)) (h : D ++ x :: R = split 10 l) (hD : ∀ d ∈ D, d.length ≤ 300) (hx : 300 < x.length) : lns l = ([], (D.length : Int) + 1, 6) := by
  have hi : ∀ R, (D ++ x :: R).findIdx? (fun x => decide (300 < x.length)) = some D.length := by
    intro R
    rw [List.findIdx?_eq_some_iff_getElem]
    refine ⟨by simp, by simp [hx], fun j hj => ?_⟩
    rw [List.getElem_append_left hj]
    have := hD _ (List.getElem_mem hj)
    simp; omega
  have : (split 10 (Lib.trimSuffix l [10])).findIdx? (fun x => decide (300 < x.length)) = some D.length := by
    rcases trim_split l with ⟨e, _⟩ | ⟨e, _⟩
    · rw [e, ← h]; exact hi R
    · rw [e] at h
      rcases List.eq_nil_or_concat R with rfl | ⟨R', y, rfl⟩
      · have := List.append_inj_right' h rfl
        have := (List.cons.inj this).1
        rw [this] at hx; simp at hx
      · rw [List.concat_eq_append] at h
        have h2 : (D ++ x :: R') ++ [y] = split 10 (Lib.trimSuffix l [10]) ++ [[]] := by rw [← h]; simp
        have := List.append_inj_left' h2 rfl
        rw [← this]; exact hi R'
  unfold lns
  rw [if_neg (by omega), this]
theorem lns_fine (l : List UInt8) (hl : l.length ≤ 8388608) (D : List (List UInt8)) (h : split 10 (Lib.trimSuffix l [10]) = D) (hD : ∀ d ∈ D, d.length ≤ 300) : lns l = (D.map bs, 0, 0) := by
  have : D.findIdx? (fun x => decide (300 < x.length)) = none := by
    rw [List.findIdx?_eq_none_iff]
    intro x hx
    have := hD x hx
    simp; omega
  unfold lns
  rw [if_neg (by omega), h, this]
theorem lns_end1 (l : List UInt8) (hl : l.length ≤ 8388608) (D : List (List UInt8)) (h : D ++ [[]] = split 10 l) (hne : l ≠ []) (hD : ∀ d ∈ D, d.length ≤ 300) : lns l = (D.map bs, 0, 0) := by
  refine lns_fine l hl D ?_ hD
  rcases trim_split l with ⟨_, e | ⟨D', x, e, hx⟩⟩ | ⟨e, _⟩
  · exact absurd e hne
  · rw [e] at h
    have := (List.cons.inj (List.append_inj_right' h rfl)).1
    exact absurd this.symm hx
  · rw [e] at h
    exact (List.append_inj_left' h rfl).symm
theorem lns_end2 (l : List UInt8) (hl : l.length ≤ 8388608) (D : List (List UInt8)) (x : List UInt8) (h : D ++ [x] = split 10 l) (hx : x ≠ [] ∨ l = []) (hD : ∀ d ∈ D, d.length ≤ 300) (hx3 : x.length ≤ 300) : lns l = ((D ++ [x]).map bs, 0, 0) := by
  refine lns_fine l hl _ ?_ ?_
  · rcases trim_split l with ⟨e, _⟩ | ⟨e, hne⟩
    · rw [e, h]
    · rw [e] at h
      have h2 := (List.cons.inj (List.append_inj_right' h rfl)).1
      rcases hx with hx | hx
      · exact absurd h2 hx
      · exact absurd hx hne
  · intro d hd
    simp at hd
    rcases hd with hd | rfl
    · exact hD d hd
    · exact hx3
theorem step_a (l : List UInt8) (b k : Nat) (hb : b ≤ k) (hk : k < l.length) (h : l[k] ≠ 10) (hn : (10 : UInt8) ∉ (l.drop b).take (k - b)) : (10 : UInt8) ∉ (l.drop b).take (k + 1 - b) := by
  have e : k + 1 - b = (k - b) + 1 := by omega
  have hlt : k - b < (l.drop b).length := by rw [List.length_drop]; omega
  rw [e, List.take_succ_eq_append_getElem hlt, List.mem_append]
  rintro (h1 | h1)
  · exact hn h1
  · have : (l.drop b)[k - b] = l[k] := by rw [List.getElem_drop]; congr 1; omega
    rw [this] at h1
    exact h (List.mem_singleton.1 h1).symm
theorem step_b (l : List UInt8) (b k : Nat) (hb : b ≤ k) (hk : k < l.length) (h : l[k] = 10) (hn : (10 : UInt8) ∉ (l.drop b).take (k - b)) : split 10 (l.drop b) = (l.drop b).take (k - b) :: split 10 (l.drop (k + 1)) := by
  have e : l.drop b = (l.drop b).take (k - b) ++ 10 :: l.drop (k + 1) := by
    conv => lhs; rw [← List.take_append_drop (k - b) (l.drop b)]
    congr 1
    rw [List.drop_drop, show b + (k - b) = k by omega, List.drop_eq_getElem_cons hk, h]
  conv => lhs; rw [e]
  exact split_at 10 _ _ hn
theorem step_c (l : List UInt8) (b : Nat) (_hb : b ≤ l.length) (hn : (10 : UInt8) ∉ (l.drop b).take (l.length - b)) : split 10 (l.drop b) = [l.drop b] := by
  rw [List.take_of_length_le (by rw [List.length_drop]; exact Nat.le_refl _)] at hn
  exact split_one 10 _ hn
end Go.Proofs.YtlekbbggbfhgaaaDoor.Lx
