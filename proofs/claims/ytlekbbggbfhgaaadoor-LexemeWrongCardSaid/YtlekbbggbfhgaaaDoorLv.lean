/- Lines and fields of what the statements about layer 5 make: plain lists of bytes. No program is named. -/
import Derived.Test.YtlekbbggbfhgaaaDoorLx
import Derived.Test.YtlekbbggbfhgaaaDoorLz
import Derived.Lib.Repeat
namespace Go.Proofs.YtlekbbggbfhgaaaDoor.Lx
open Go
theorem split_one (c : UInt8) (l : List UInt8) (h : c ∉ l) : split c l = [l] := by
  induction l with
  | nil => rfl
  | cons b r ih =>
    have hb : b ≠ c := fun e => h (by rw [e]; exact List.mem_cons_self ..)
    rw [split, if_neg hb, ih fun hr => h (List.mem_cons_of_mem _ hr)]; rfl
theorem split_at (c : UInt8) (l r : List UInt8) (h : c ∉ l) : split c (l ++ c :: r) = l :: split c r := by
  induction l with
  | nil => rw [List.nil_append, split, if_pos rfl]
  | cons b t ih =>
    have hb : b ≠ c := fun e => h (by rw [e]; exact List.mem_cons_self ..)
    rw [List.cons_append, split, if_neg hb, ih fun hr => h (List.mem_cons_of_mem _ hr)]; rfl
theorem repeat_one (b : UInt8) : ∀ n, Lib.repeatL [b] n = List.replicate n b
  | 0 => rfl
  | n + 1 => by rw [Lib.repeatL, repeat_one b n]; rfl
theorem split_repeat (l : List UInt8) (c : UInt8) (h : c ∉ l) (r : List UInt8) : ∀ n, split c (Lib.repeatL (l ++ [c]) n ++ r) = List.replicate n l ++ split c r
  | 0 => by simp [Lib.repeatL]
  | n + 1 => by
    have e : Lib.repeatL (l ++ [c]) (n + 1) ++ r = l ++ c :: (Lib.repeatL (l ++ [c]) n ++ r) := by simp [Lib.repeatL]
    rw [e, split_at c _ _ h, split_repeat l c h r n, List.replicate_succ]; rfl
theorem trim_no (l : List UInt8) (b : UInt8) (h : b ≠ 10) : Lib.trimSuffix (l ++ [b]) [10] = l ++ [b] := by
  unfold Lib.trimSuffix
  rw [if_neg]
  intro hs
  have := List.isSuffixOf_iff_suffix.1 (show [10].isSuffixOf (l ++ [b]) = true from hs)
  obtain ⟨t, ht⟩ := this
  have := List.append_inj_right' ht rfl
  exact h (List.cons.inj this).1.symm
theorem trim_yes (l : List UInt8) : Lib.trimSuffix (l ++ [10]) [10] = l := by
  unfold Lib.trimSuffix
  rw [if_pos]
  · simp
  · exact List.isSuffixOf_iff_suffix.2 ⟨l, rfl⟩
/-- the letter x, n times -/
def xs (n : Nat) : List UInt8 := List.replicate n 120
theorem scan_xs : ∀ (n : Nat) (r : List UInt8) (F : List (List UInt8)) (L : List UInt8) (o : Bool), scan (xs (n + 1) ++ r) F L o false = scan r F (L ++ xs (n + 1)) true false
  | 0, r, F, L, o => by
    have e : xs (0 + 1) ++ r = 120 :: r := rfl
    rw [e, scan1 (by decide)]; rfl
  | n + 1, r, F, L, o => by
    have e : xs (n + 1 + 1) ++ r = 120 :: (xs (n + 1) ++ r) := rfl
    rw [e, scan1 (by decide), scan_xs n]
    have e2 : xs (n + 1 + 1) = 120 :: xs (n + 1) := rfl
    rw [e2]; simp
theorem xs_fields (n : Nat) (h : 0 < n) : scan (xs n) [] [] false false = some [xs n] := by
  obtain ⟨m, rfl⟩ : ∃ m, n = m + 1 := ⟨n - 1, by omega⟩
  have := scan_xs m [] [] [] false
  rw [List.append_nil] at this
  rw [this]; rfl
theorem xs_wrt (n : Nat) : wrt (xs n) = true := by
  unfold wrt xs; simp; right; decide
theorem xs_write (n : Nat) (h : 0 < n) : write (xs n) = xs n := by
  have h1 : wants (xs n) = false := by
    unfold wants xs
    cases n with
    | zero => omega
    | succ n => simp [List.replicate_succ]
  unfold write; rw [h1]; rfl
theorem xs_len (n : Nat) : (xs n).length = n := by simp [xs]
theorem xs_join (n : Nat) (h : 0 < n) : jn [xs n] = if 300 < n then (⟨#[]⟩, 6) else (bs (xs n), 0) := by
  have hl : line [xs n] = xs n := by unfold line; rw [List.map_cons, List.map_nil, xs_write n h, Lib.join_one]
  unfold jn
  rw [if_pos (by simp [xs_wrt]), hl, xs_len]
theorem xs_lines (n k : Nat) (hn : n ≤ 1000) (hk : k ≤ 1000) : lns (Lib.repeatL [97, 10] k ++ xs n ++ [10, 98]) = if 300 < n then ([], (k : Int) + 1, 6) else ((List.replicate k [97] ++ [xs n, [98]]).map bs, 0, 0) := by
  have htr : Lib.trimSuffix (Lib.repeatL [97, 10] k ++ xs n ++ [10, 98]) [10] = Lib.repeatL [97, 10] k ++ xs n ++ [10, 98] := by
    have := trim_no (Lib.repeatL [97, 10] k ++ xs n ++ [10]) 98 (by decide)
    simpa using this
  have hsp : split 10 (Lib.repeatL [97, 10] k ++ xs n ++ [10, 98]) = List.replicate k [97] ++ [xs n, [98]] := by
    rw [List.append_assoc]
    have h1 := split_repeat [97] 10 (by decide) (xs n ++ [10, 98]) k
    have h2 : split 10 (xs n ++ [10, 98]) = [xs n, [98]] := by
      rw [split_at 10 (xs n) [98] (by simp [xs]), split_one 10 [98] (by decide)]
    rw [h2] at h1
    exact h1
  have hlen : (Lib.repeatL [97, 10] k ++ xs n ++ [10, 98]).length ≤ 4000 := by
    simp [Lib.repeatL_length, xs_len]; omega
  unfold lns
  rw [if_neg (by omega), htr, hsp]
  by_cases h : 300 < n
  · rw [if_pos h]
    have : (List.replicate k ([97] : List UInt8) ++ [xs n, [98]]).findIdx? (fun x => decide (300 < x.length)) = some k := by
      rw [List.findIdx?_eq_some_iff_getElem]
      refine ⟨by simp, ?_, ?_⟩
      · simp [xs_len, h]
      · intro j hj
        rw [List.getElem_append_left (by simpa using hj)]
        simp
    rw [this]
  · rw [if_neg h]
    have : (List.replicate k ([97] : List UInt8) ++ [xs n, [98]]).findIdx? (fun x => decide (300 < x.length)) = none := by
      rw [List.findIdx?_eq_none_iff]
      intro x hx
      simp at hx
      rcases hx with ⟨_, rfl⟩ | rfl | rfl
      · decide
      · simp [xs_len]; omega
      · decide
    rw [this]
theorem repeat_succ (l : List UInt8) : ∀ n, Lib.repeatL l (n + 1) = Lib.repeatL l n ++ l
  | 0 => by simp [Lib.repeatL]
  | n + 1 => by
    have h := repeat_succ l n
    rw [Lib.repeatL, h, ← List.append_assoc, show l ++ Lib.repeatL l n = Lib.repeatL l (n + 1) from rfl, h]
/-- lines that are all the same, each ended -/
theorem same_lines (l : List UInt8) (n : Nat) (h : (10 : UInt8) ∉ l) (hl : l.length ≤ 300) (hn : (n + 1) * (l.length + 1) ≤ 8388608) : lns (Lib.repeatL (l ++ [10]) (n + 1)) = ((List.replicate (n + 1) l).map bs, 0, 0) := by
  have htr : Lib.trimSuffix (Lib.repeatL (l ++ [10]) (n + 1)) [10] = Lib.repeatL (l ++ [10]) n ++ l := by
    rw [repeat_succ, ← List.append_assoc, trim_yes]
  have hsp : split 10 (Lib.repeatL (l ++ [10]) n ++ l) = List.replicate (n + 1) l := by
    rw [split_repeat l 10 h, split_one 10 l h, List.replicate_succ']
  have hlen : (Lib.repeatL (l ++ [10]) (n + 1)).length = (n + 1) * (l.length + 1) := by rw [Lib.repeatL_length]; simp
  unfold lns
  rw [if_neg (by omega), htr, hsp]
  have : (List.replicate (n + 1) l).findIdx? (fun x => decide (300 < x.length)) = none := by
    rw [List.findIdx?_eq_none_iff]
    intro x hx
    rw [(List.mem_replicate.1 hx).2]
    simp; omega
  rw [this]
theorem great_lines (l : List UInt8) (h : 8388608 < l.length) : lns l = ([], 1, 6) := by
  unfold lns; rw [if_pos h]
end Go.Proofs.YtlekbbggbfhgaaaDoor.Lx
