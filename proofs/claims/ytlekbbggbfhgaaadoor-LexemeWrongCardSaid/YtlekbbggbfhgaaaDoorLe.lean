/- Lines that were made of fields are read as these: plain lists of bytes. No program is named. -/
import Derived.Test.YtlekbbggbfhgaaaDoorLq
import Derived.Test.YtlekbbggbfhgaaaDoorLd
import Derived.Test.YtlekbbggbfhgaaaDoorLs
namespace Go.Proofs.YtlekbbggbfhgaaaDoor.Lx
open Go
/-- what can stand behind a field -/
def endok (r : List UInt8) : Prop := ∀ b t, r = b :: t → kind b false ≠ 1 ∧ kind b false ≠ 2
theorem okb_q {b : UInt8} (h : okb b = true) : kind b true = 1 := by
  have h1 := (okb_iff b).1 h
  rcases kindT b with ⟨h2, _⟩ | ⟨_, _, _, e⟩ | ⟨h2, _⟩
  · omega
  · exact e
  · omega
theorem okb_p {b : UInt8} (h : okb b = true) (h1 : b ≠ 32) (h2 : b ≠ 35) : kind b false = 1 := by
  have h3 := (okb_iff b).1 h
  have n1 : b.toNat ≠ 32 := fun e => h1 (by rw [← UInt8.toNat_inj]; exact e)
  have n2 : b.toNat ≠ 35 := fun e => h2 (by rw [← UInt8.toNat_inj]; exact e)
  rcases kindF b with ⟨h4, _⟩ | ⟨h4, _⟩ | ⟨h4, _⟩ | ⟨h4, _⟩ | ⟨_, ⟨h4, _⟩ | ⟨h4, _⟩ | ⟨_, _, e⟩⟩
  all_goals first | exact e | omega
theorem scan_q (x : List UInt8) : ∀ (_h : wrt x = true) (r : List UInt8) (F : List (List UInt8)) (L : List UInt8), scan (x ++ r) F L true true = scan r F (L ++ x) true true := by
  induction x with
  | nil => intro _ r F L; simp
  | cons b t ih =>
    intro h r F L
    have h2 : okb b = true ∧ wrt t = true := by unfold wrt at h ⊢; simpa using h
    rw [List.cons_append, scan1 (okb_q h2.1), ih h2.2]; simp
theorem scan_p (x : List UInt8) : ∀ (_h : wrt x = true) (_h1 : (32 : UInt8) ∉ x) (_h2 : (35 : UInt8) ∉ x) (r : List UInt8) (F : List (List UInt8)) (L : List UInt8), scan (x ++ r) F L true false = scan r F (L ++ x) true false := by
  induction x with
  | nil => intro _ _ _ r F L; simp
  | cons b t ih =>
    intro h h1 h2 r F L
    have h3 : okb b = true ∧ wrt t = true := by unfold wrt at h ⊢; simpa using h
    have e1 : b ≠ 32 := fun e => h1 (by rw [e]; exact List.mem_cons_self ..)
    have e2 : b ≠ 35 := fun e => h2 (by rw [e]; exact List.mem_cons_self ..)
    rw [List.cons_append, scan1 (okb_p h3.1 e1 e2), ih h3.2 (fun h => h1 (List.mem_cons_of_mem _ h)) (fun h => h2 (List.mem_cons_of_mem _ h))]; simp
theorem scan_write (x : List UInt8) (h : wrt x = true) (r : List UInt8) (F : List (List UInt8)) : scan (write x ++ r) F [] false false = scan r F x true false := by
  unfold write
  by_cases hw : wants x = true
  · rw [if_pos hw]
    have e : 34 :: (x ++ [34]) ++ r = 34 :: (x ++ 34 :: r) := by simp
    rw [e, scan2 (by decide)]
    show scan (x ++ 34 :: r) F [] true true = _
    rw [scan_q x h, scan2 (by decide)]; rfl
  · rw [if_neg hw]
    have h2 : x.isEmpty = false ∧ x.contains 32 = false ∧ x.contains 35 = false := by unfold wants at hw; simpa [and_assoc] using hw
    cases x with
    | nil => simp at h2
    | cons b t =>
      have e1 : (32 : UInt8) ∉ b :: t := by have := h2.2.1; simpa using this
      have e2 : (35 : UInt8) ∉ b :: t := by have := h2.2.2; simpa using this
      have h3 : okb b = true ∧ wrt t = true := by unfold wrt at h ⊢; simpa using h
      have k1 := okb_p h3.1 (fun e => e1 (by rw [e]; exact List.mem_cons_self ..)) (fun e => e2 (by rw [e]; exact List.mem_cons_self ..))
      rw [List.cons_append, scan1 k1, scan_p t h3.2 (fun h => e1 (List.mem_cons_of_mem _ h)) (fun h => e2 (List.mem_cons_of_mem _ h))]; rfl
theorem line_cons (x y : List UInt8) (R : List (List UInt8)) : line (x :: y :: R) = write x ++ 32 :: line (y :: R) := by
  unfold line
  rw [List.map_cons, List.map_cons, Lib.join_cons, Lib.join_cons]
  simp [Lib.joinTail]
theorem scan_line1 (R : List (List UInt8)) : ∀ (x : List UInt8) (_h : ∀ q ∈ x :: R, wrt q = true) (r : List UInt8) (_hr : endok r) (F : List (List UInt8)), scan (line (x :: R) ++ r) F [] false false = scan r (F ++ (x :: R)) [] false false := by
  induction R with
  | nil =>
    intro x h r hr F
    have e : line [x] = write x := by unfold line; rw [List.map_cons, List.map_nil, Lib.join_one]
    rw [e, scan_write x (h x (List.mem_cons_self ..)), scan_end r hr]
  | cons y R ih =>
    intro x h r hr F
    rw [line_cons, List.append_assoc, List.cons_append, scan_write x (h x (List.mem_cons_self ..)), scan3 (by decide)]
    show scan (line (y :: R) ++ r) (F ++ [x]) [] false false = _
    rw [ih y (fun q hq => h q (List.mem_cons_of_mem _ hq)) r hr]; simp
theorem scan_line (Q : List (List UInt8)) (h : ∀ q ∈ Q, wrt q = true) (r : List UInt8) (hr : endok r) (F : List (List UInt8)) : scan (line Q ++ r) F [] false false = scan r (F ++ Q) [] false false := by
  cases Q with
  | nil => simp [line, Lib.join_nil]
  | cons x R => exact scan_line1 R x h r hr F
theorem endok_nil : endok [] := fun b t e => by cases e
theorem endok_cons {b : UInt8} (h : kind b false ≠ 1 ∧ kind b false ≠ 2) (t : List UInt8) : endok (b :: t) := fun _ _ e => by rw [← (List.cons.inj e).1]; exact h
theorem scan_gap (l : List UInt8) (F : List (List UInt8)) {b : UInt8} (h : kind b false = 3) : scan (b :: l) F [] false false = scan l F [] false false := by rw [scan3 h]; rfl
/-- the five lines of fields -/
theorem back0 (Q : List (List UInt8)) (h : ∀ q ∈ Q, wrt q = true) : scan (line Q) [] [] false false = some Q := by
  have := scan_line Q h [] endok_nil []
  rw [List.append_nil] at this
  rw [this]; rfl
theorem back1 (Q : List (List UInt8)) (h : ∀ q ∈ Q, wrt q = true) : scan ([32] ++ line Q) [] [] false false = some Q := by
  rw [List.singleton_append, scan_gap _ _ (by decide), back0 Q h]
theorem back2 (Q : List (List UInt8)) (h : ∀ q ∈ Q, wrt q = true) : scan ([9, 32, 9] ++ line Q ++ [32, 32]) [] [] false false = some Q := by
  have e : [9, 32, 9] ++ line Q ++ [32, 32] = 9 :: 32 :: 9 :: (line Q ++ [32, 32]) := by simp
  rw [e, scan_gap _ _ (by decide), scan_gap _ _ (by decide), scan_gap _ _ (by decide), scan_line Q h _ (endok_cons (by decide) _), scan_gap _ _ (by decide), scan_gap _ _ (by decide)]; rfl
theorem back3 (Q : List (List UInt8)) (h : ∀ q ∈ Q, wrt q = true) (c : List UInt8) : scan (line Q ++ [35] ++ c) [] [] false false = some Q := by
  have e : line Q ++ [35] ++ c = line Q ++ 35 :: c := by simp
  rw [e, scan_line Q h _ (endok_cons (by decide) _), scan4 (by decide)]; rfl
theorem back4 (Q : List (List UInt8)) (h : ∀ q ∈ Q, wrt q = true) (c : List UInt8) : scan (line Q ++ [32, 35, 32] ++ c) [] [] false false = some Q := by
  have e : line Q ++ [32, 35, 32] ++ c = line Q ++ 32 :: 35 :: (32 :: c) := by simp
  rw [e, scan_line Q h _ (endok_cons (by decide) _), scan_gap _ _ (by decide), scan4 (by decide)]; rfl
theorem line_short (Q : List (List UInt8)) (n : Nat) (h : ∀ q ∈ Q, q.length ≤ n) : (line Q).length ≤ Q.length * (n + 3) := by
  have hs : ∀ R : List (List UInt8), (∀ q ∈ R, q.length ≤ n + 2) → (R.map fun l => l.length + 1).sum ≤ R.length * (n + 3) := by
    intro R
    induction R with
    | nil => simp
    | cons y r ih =>
      intro hy
      have h1 := ih fun q hq => hy q (List.mem_cons_of_mem _ hq)
      have h2 := hy y (List.mem_cons_self ..)
      simp only [List.map_cons, List.sum_cons, List.length_cons, Nat.succ_mul]
      omega
  unfold line
  cases Q with
  | nil => simp [Lib.join_nil]
  | cons x r =>
    have hw : ∀ q ∈ r.map write, q.length ≤ n + 2 := by
      intro q hq
      obtain ⟨a, ha, rfl⟩ := List.mem_map.1 hq
      have := h a (List.mem_cons_of_mem _ ha)
      have := (write_len a).2
      omega
    rw [List.map_cons, join_len]
    have h1 := hs _ hw
    have h2 := (write_len x).2
    have h3 := h x (List.mem_cons_self ..)
    simp only [List.length_map, List.length_cons, Nat.succ_mul] at *
    omega
theorem made_line (D : List (List UInt8)) : (line (made D)).length ≤ 180 := by
  have h1 := line_short (made D) 12 fun q hq => (made_each D q hq).2
  have h2 := made_len D
  have : (made D).length * (12 + 3) ≤ 12 * 15 := Nat.mul_le_mul_right 15 h2
  omega
theorem jn_ok (Q : List (List UInt8)) (h : ∀ q ∈ Q, wrt q = true) (hl : (line Q).length ≤ 300) : jn Q = (bs (line Q), 0) := by
  unfold jn
  rw [if_pos (List.all_eq_true.2 h), if_neg (by omega)]
theorem index_has (l : List UInt8) (c : UInt8) : decide (0 ≤ Lib.indexByte l c) = l.contains c := by
  by_cases h : c ∈ l
  · have : l.contains c = true := by simpa using h
    rw [this]
    rcases Nat.lt_or_ge 0 1 with _ | _
    · by_cases h2 : Lib.indexByte l c = -1
      · exfalso
        obtain ⟨k, hk⟩ := List.getElem?_of_mem h
        exact Lib.indexByte_none h2 k hk
      · have := Lib.indexByte_ge l c
        simp; omega
    · omega
  · have : l.contains c = false := by simpa using h
    rw [this, index_no c l h]; rfl
end Go.Proofs.YtlekbbggbfhgaaaDoor.Lx
