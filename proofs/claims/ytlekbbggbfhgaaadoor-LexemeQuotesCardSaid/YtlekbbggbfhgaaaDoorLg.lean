/- Fields quoted in parts: plain lists of bytes. No program is named. -/
import Derived.Test.YtlekbbggbfhgaaaDoorLe
namespace Go.Proofs.YtlekbbggbfhgaaaDoor.Lx
open Go
def qa (fr : Nat) (x : List UInt8) : Nat := fr % (x.length + 1)
def qb (fr to : Nat) (x : List UInt8) : Nat := qa fr x + to % (x.length - qa fr x + 1)
/-- a field, quoted in three parts -/
def quo (fr to : Nat) (x : List UInt8) : List UInt8 := [34] ++ x.take (qa fr x) ++ [34, 34] ++ (x.drop (qa fr x)).take (qb fr to x - qa fr x) ++ [34, 34] ++ x.drop (qb fr to x) ++ [34]
def qline (fr to : Nat) (Q : List (List UInt8)) : List UInt8 := Lib.join (Q.map (quo fr to)) [9]
theorem qa_le (fr : Nat) (x : List UInt8) : qa fr x ≤ x.length := by unfold qa; have := Nat.mod_lt fr (show 0 < x.length + 1 by omega); omega
theorem qb_le (fr to : Nat) (x : List UInt8) : qa fr x ≤ qb fr to x ∧ qb fr to x ≤ x.length := by
  have h1 := qa_le fr x
  unfold qb
  have := Nat.mod_lt to (show 0 < x.length - qa fr x + 1 by omega)
  omega
theorem wrt_take {x : List UInt8} (h : wrt x = true) (k : Nat) : wrt (x.take k) = true := by
  unfold wrt at h ⊢; rw [List.all_eq_true] at h ⊢; intro b hb; exact h b (List.mem_of_mem_take hb)
theorem wrt_drop {x : List UInt8} (h : wrt x = true) (k : Nat) : wrt (x.drop k) = true := by
  unfold wrt at h ⊢; rw [List.all_eq_true] at h ⊢; intro b hb; exact h b (List.mem_of_mem_drop hb)
theorem scan_quo (fr to : Nat) (x : List UInt8) (h : wrt x = true) (r : List UInt8) (F : List (List UInt8)) : scan (quo fr to x ++ r) F [] false false = scan r F x true false := by
  have e : quo fr to x ++ r = 34 :: (x.take (qa fr x) ++ 34 :: 34 :: ((x.drop (qa fr x)).take (qb fr to x - qa fr x) ++ 34 :: 34 :: (x.drop (qb fr to x) ++ 34 :: r))) := by unfold quo; simp
  have hq := qb_le fr to x
  have ex : x.take (qa fr x) ++ (x.drop (qa fr x)).take (qb fr to x - qa fr x) ++ x.drop (qb fr to x) = x := by
    have : x.drop (qb fr to x) = (x.drop (qa fr x)).drop (qb fr to x - qa fr x) := by rw [List.drop_drop]; congr 1; omega
    rw [this, List.append_assoc, List.take_append_drop, List.take_append_drop]
  rw [e, scan2 (by decide)]
  show scan (x.take (qa fr x) ++ _) F [] true true = _
  rw [scan_q _ (wrt_take h _), scan2 (by decide), scan2 (by decide)]
  show scan ((x.drop (qa fr x)).take (qb fr to x - qa fr x) ++ _) F _ true true = _
  rw [scan_q _ (wrt_take (wrt_drop h _) _), scan2 (by decide), scan2 (by decide)]
  show scan (x.drop (qb fr to x) ++ _) F _ true true = _
  rw [scan_q _ (wrt_drop h _), scan2 (by decide)]
  show scan r F _ true false = _
  rw [List.nil_append, ex]
theorem qline_cons (fr to : Nat) (x y : List UInt8) (R : List (List UInt8)) : qline fr to (x :: y :: R) = quo fr to x ++ 9 :: qline fr to (y :: R) := by
  unfold qline
  rw [List.map_cons, List.map_cons, Lib.join_cons, Lib.join_cons]
  simp [Lib.joinTail]
theorem scan_qline1 (fr to : Nat) (R : List (List UInt8)) : ∀ (x : List UInt8) (_h : ∀ q ∈ x :: R, wrt q = true) (F : List (List UInt8)), scan (qline fr to (x :: R)) F [] false false = some (F ++ (x :: R)) := by
  induction R with
  | nil =>
    intro x h F
    have e : qline fr to [x] = quo fr to x := by unfold qline; rw [List.map_cons, List.map_nil, Lib.join_one]
    have := scan_quo fr to x (h x (List.mem_cons_self ..)) [] F
    rw [List.append_nil] at this
    rw [e, this]; rfl
  | cons y R ih =>
    intro x h F
    rw [qline_cons, scan_quo fr to x (h x (List.mem_cons_self ..)), scan3 (by decide)]
    show scan (qline fr to (y :: R)) (F ++ [x]) [] false false = _
    rw [ih y (fun q hq => h q (List.mem_cons_of_mem _ hq))]; simp
theorem scan_qline (fr to : Nat) (Q : List (List UInt8)) (h : ∀ q ∈ Q, wrt q = true) : scan (qline fr to Q) [] [] false false = some Q := by
  cases Q with
  | nil => simp [qline, Lib.join_nil, scan]
  | cons x R => have := scan_qline1 fr to R x h []; simpa using this
theorem quo_len (fr to : Nat) (x : List UInt8) : (quo fr to x).length = x.length + 6 := by
  have hq := qb_le fr to x
  unfold quo
  simp only [List.length_append, List.length_take, List.length_drop, List.length_cons, List.length_nil]
  omega
theorem qline_len (fr to : Nat) (Q : List (List UInt8)) (h : ∀ q ∈ Q, q.length ≤ 12) : (qline fr to Q).length ≤ Q.length * 19 := by
  have hs : ∀ R : List (List UInt8), (∀ q ∈ R, q.length ≤ 12) → (Lib.joinTail [9] (R.map (quo fr to))).length ≤ R.length * 19 := by
    intro R
    induction R with
    | nil => simp [Lib.joinTail]
    | cons y r ih =>
      intro hy
      have h1 := ih fun q hq => hy q (List.mem_cons_of_mem _ hq)
      have h2 := hy y (List.mem_cons_self ..)
      have h3 := quo_len fr to y
      unfold Lib.joinTail at h1 ⊢
      simp only [List.map_cons, List.flatten_cons, List.length_append, List.length_cons, List.length_nil] at h1 ⊢
      omega
  unfold qline
  cases Q with
  | nil => simp [Lib.join_nil]
  | cons x r =>
    rw [List.map_cons, Lib.join_cons, List.length_append]
    have h1 := hs r fun q hq => h q (List.mem_cons_of_mem _ hq)
    have h2 := quo_len fr to x
    have h3 := h x (List.mem_cons_self ..)
    simp only [List.length_cons]
    omega
theorem qline_take (fr to : Nat) (Q : List (List UInt8)) (k : Nat) (h : k < Q.length) : qline fr to (Q.take (k + 1)) = if k = 0 then quo fr to Q[k] else qline fr to (Q.take k) ++ 9 :: quo fr to Q[k] := by
  rw [List.take_succ_eq_append_getElem h]
  by_cases h0 : k = 0
  · subst h0
    rw [if_pos rfl]
    simp [qline, Lib.join_one]
  · rw [if_neg h0]
    have hne : Q.take k ≠ [] := fun e => by
      have := congrArg List.length e
      rw [List.length_take, List.length_nil] at this; omega
    generalize Q.take k = A at *
    cases A with
    | nil => exact absurd rfl hne
    | cons a r =>
      unfold qline
      simp [Lib.join_cons, Lib.joinTail]
end Go.Proofs.YtlekbbggbfhgaaaDoor.Lx
