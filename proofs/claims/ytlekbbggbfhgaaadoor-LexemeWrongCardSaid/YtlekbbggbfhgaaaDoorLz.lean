/- Fields, written: plain lists of bytes. No program is named. -/
import Derived.Test.YtlekbbggbfhgaaaDoorLy
import Derived.Lib.IndexAny
namespace Go.Proofs.YtlekbbggbfhgaaaDoor.Lx
open Go
/-- a byte that can stand in a field -/
def okb (b : UInt8) : Bool := decide (32 ≤ b.toNat) && decide (b.toNat ≤ 126) && decide (b.toNat ≠ 34)
/-- a field that can stand in a line -/
def wrt (l : List UInt8) : Bool := l.all okb
/-- a field that wants quotes -/
def wants (l : List UInt8) : Bool := l.isEmpty || l.contains 32 || l.contains 35
/-- a field as it stands in a line -/
def write (l : List UInt8) : List UInt8 := if wants l then 34 :: (l ++ [34]) else l
/-- the line of fields -/
def line (Q : List (List UInt8)) : List UInt8 := Lib.join (Q.map write) [32]
/-- what Join returns -/
def jn (Q : List (List UInt8)) : ByteArray × Int :=
  if Q.all wrt then (if 300 < (line Q).length then (⟨#[]⟩, 6) else (bs (line Q), 0)) else (⟨#[]⟩, 2)
theorem containsAny_two (l : List UInt8) : Lib.containsAny l [32, 35] = (l.contains 32 || l.contains 35) := by
  unfold Lib.containsAny
  induction l with
  | nil => rfl
  | cons b r ih =>
    have hge := Lib.indexAny_ge [32, 35] r
    unfold Lib.indexAny
    by_cases h : ([32, 35] : List UInt8).contains b = true
    · rw [if_pos (by simpa using h)]
      simp at h
      rcases h with h | h <;> subst h <;> simp
    · rw [if_neg (by simpa using h)]
      have h32 : (32 == b) = false := by simp at h; simp; exact fun e => h.1 e.symm
      have h35 : (35 == b) = false := by simp at h; simp; exact fun e => h.2 e.symm
      rw [List.contains_cons, List.contains_cons, h32, h35, Bool.false_or, Bool.false_or, ← ih]
      by_cases h1 : Lib.indexAny r [32, 35] = -1
      · simp [h1]
      · have : (Lib.indexAny r [32, 35] == -1) = false := by simpa using h1
        simp only [this, Bool.false_eq_true, if_false]
        congr 1
        simp; omega
theorem okb_iff (b : UInt8) : okb b = true ↔ 32 ≤ b.toNat ∧ b.toNat ≤ 126 ∧ b.toNat ≠ 34 := by
  unfold okb; simp [and_assoc]
theorem wrt_ascii {l : List UInt8} (h : wrt l = true) : ∀ (j : Nat) b, l[j]? = some b → b.toNat < 128 := by
  intro j b hj
  have := List.all_eq_true.1 h b (List.mem_of_getElem? hj)
  rw [okb_iff] at this
  omega
theorem write_len (l : List UInt8) : l.length ≤ (write l).length ∧ (write l).length ≤ l.length + 2 := by
  unfold write; split <;> simp <;> omega
theorem join_len (x : List UInt8) (Q : List (List UInt8)) : (Lib.join (x :: Q) [32]).length = x.length + (Q.map fun l => l.length + 1).sum := by
  rw [Lib.join_cons]
  induction Q generalizing x with
  | nil => simp [Lib.joinTail]
  | cons y r ih =>
    have := ih y
    simp [Lib.joinTail] at this ⊢
    omega
theorem line_len (Q : List (List UInt8)) (h : ∀ q ∈ Q, q.length ≤ 1000) : (line Q).length ≤ Q.length * 1003 := by
  have hs : ∀ R : List (List UInt8), (∀ q ∈ R, q.length ≤ 1002) → (R.map fun l => l.length + 1).sum ≤ R.length * 1003 := by
    intro R
    induction R with
    | nil => simp
    | cons y r ih =>
      intro hy
      have h1 := ih fun q hq => hy q (List.mem_cons_of_mem _ hq)
      have h2 := hy y (List.mem_cons_self ..)
      simp only [List.map_cons, List.sum_cons, List.length_cons]
      omega
  unfold line
  cases Q with
  | nil => simp [Lib.join_nil]
  | cons x r =>
    have hw : ∀ q ∈ r.map write, q.length ≤ 1002 := by
      intro q hq
      obtain ⟨a, ha, rfl⟩ := List.mem_map.1 hq
      have := h a (List.mem_cons_of_mem _ ha)
      have := (write_len a).2
      omega
    rw [List.map_cons, join_len]
    have h1 := hs _ hw
    have h2 := (write_len x).2
    have h3 := h x (List.mem_cons_self ..)
    simp only [List.length_map, List.length_cons] at *
    omega
theorem line_snoc (A : List (List UInt8)) (x : List UInt8) : line (A ++ [x]) = if A = [] then write x else line A ++ 32 :: write x := by
  unfold line
  cases A with
  | nil => rw [if_pos rfl]; simp [Lib.join_one]
  | cons a r =>
    rw [if_neg (by simp)]
    simp [Lib.join_cons, Lib.joinTail]
theorem line_le (A : List (List UInt8)) : ∀ B, (line A).length ≤ (line (A ++ B)).length
  | [] => by simp
  | b :: B => by
    have h1 := line_le (A ++ [b]) B
    have h2 := line_snoc A b
    have h3 : (line A).length ≤ (line (A ++ [b])).length := by
      rw [h2]; split
      · rename_i h; rw [h]; simp [line, Lib.join_nil]
      · simp
    rw [List.append_assoc] at h1
    exact Nat.le_trans h3 h1
theorem line_take (Q : List (List UInt8)) (k : Nat) (h : k < Q.length) : line (Q.take (k + 1)) = if k = 0 then write Q[k] else line (Q.take k) ++ 32 :: write Q[k] := by
  rw [List.take_succ_eq_append_getElem h, line_snoc]
  by_cases h0 : k = 0
  · rw [if_pos h0, if_pos (by simp [h0])]
  · rw [if_neg h0, if_neg]
    intro e
    have := congrArg List.length e
    rw [List.length_take, List.length_nil] at this; omega
theorem line_take_le (Q : List (List UInt8)) (k : Nat) : (line (Q.take k)).length ≤ (line Q).length := by
  have := line_le (Q.take k) (Q.drop k)
  rwa [List.take_append_drop] at this
end Go.Proofs.YtlekbbggbfhgaaaDoor.Lx
