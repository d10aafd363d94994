/- Lines that are wrong: plain lists of bytes. No program is named. -/
import Derived.Test.YtlekbbggbfhgaaaDoorLe
namespace Go.Proofs.YtlekbbggbfhgaaaDoor.Lx
open Go
/-- whether one is in quotes behind these bytes; none: a wrong byte or a comment was there -/
def run : List UInt8 → Bool → Option Bool
  | [], q => some q
  | b :: r, q => if kind b q = 1 then run r q else if kind b q = 2 then run r (!q) else if kind b q = 3 then run r false else none
theorem run_app (l m : List UInt8) : ∀ q, run (l ++ m) q = (run l q).bind (run m) := by
  induction l with
  | nil => intro q; rfl
  | cons b r ih =>
    intro q
    rw [List.cons_append, run, run]
    repeat' split
    all_goals first | exact ih _ | rfl
theorem run_scan (l : List UInt8) : ∀ (q q' : Bool) (_h : run l q = some q') (r : List UInt8) (F : List (List UInt8)) (L : List UInt8) (o : Bool), ∃ F' L' o', scan (l ++ r) F L o q = scan r F' L' o' q' := by
  induction l with
  | nil => intro q q' h r F L o; rw [run] at h; injection h with h; subst h; exact ⟨F, L, o, rfl⟩
  | cons b t ih =>
    intro q q' h r F L o
    rw [run] at h
    rcases kind_le b q with k | k | k | k | k
    · rw [k] at h; simp at h
    · rw [k] at h; simp at h
      rw [List.cons_append, scan1 k]; exact ih _ _ h _ _ _ _
    · rw [k] at h; simp at h
      rw [List.cons_append, scan2 k]; exact ih _ _ h _ _ _ _
    · rw [k] at h; simp at h
      have hq : q = false := by
        cases q with
        | false => rfl
        | true => rcases kindT b with ⟨_, e⟩ | ⟨_, _, _, e⟩ | ⟨_, e⟩ <;> rw [e] at k <;> cases k
      subst hq
      rw [List.cons_append, scan3 k]; exact ih _ _ h _ _ _ _
    · rw [k] at h; simp at h
theorem run_q (x : List UInt8) (h : wrt x = true) : run x true = some true := by
  induction x with
  | nil => rfl
  | cons b t ih =>
    have h2 : okb b = true ∧ wrt t = true := by unfold wrt at h ⊢; simpa using h
    rw [run, if_pos (okb_q h2.1), ih h2.2]
theorem run_p (x : List UInt8) (h : wrt x = true) (h1 : (32 : UInt8) ∉ x) (h2 : (35 : UInt8) ∉ x) : run x false = some false := by
  induction x with
  | nil => rfl
  | cons b t ih =>
    have h3 : okb b = true ∧ wrt t = true := by unfold wrt at h ⊢; simpa using h
    have e1 : b ≠ 32 := fun e => h1 (by rw [e]; exact List.mem_cons_self ..)
    have e2 : b ≠ 35 := fun e => h2 (by rw [e]; exact List.mem_cons_self ..)
    rw [run, if_pos (okb_p h3.1 e1 e2), ih h3.2 (fun h => h1 (List.mem_cons_of_mem _ h)) (fun h => h2 (List.mem_cons_of_mem _ h))]
theorem run_write (x : List UInt8) (h : wrt x = true) : run (write x) false = some false := by
  unfold write
  by_cases hw : wants x = true
  · rw [if_pos hw]
    have e : (34 : UInt8) :: (x ++ [34]) = [34] ++ (x ++ [34]) := rfl
    have h1 : run [34] false = some true := by decide
    have h2 : run [34] true = some false := by decide
    rw [e, run_app, h1, Option.bind_some, run_app, run_q x h, Option.bind_some, h2]
  · rw [if_neg hw]
    have h2 : x.isEmpty = false ∧ x.contains 32 = false ∧ x.contains 35 = false := by unfold wants at hw; simpa [and_assoc] using hw
    exact run_p x h (by simpa using h2.2.1) (by simpa using h2.2.2)
theorem run_line1 (R : List (List UInt8)) : ∀ (x : List UInt8) (_h : ∀ q ∈ x :: R, wrt q = true), run (line (x :: R)) false = some false := by
  induction R with
  | nil =>
    intro x h
    have e : line [x] = write x := by unfold line; rw [List.map_cons, List.map_nil, Lib.join_one]
    rw [e, run_write x (h x (List.mem_cons_self ..))]
  | cons y R ih =>
    intro x h
    have h1 : run [32] false = some false := by decide
    rw [line_cons, run_app, run_write x (h x (List.mem_cons_self ..)), Option.bind_some, show (32 : UInt8) :: line (y :: R) = [32] ++ line (y :: R) from rfl, run_app, h1, Option.bind_some, ih y (fun q hq => h q (List.mem_cons_of_mem _ hq))]
theorem run_line (Q : List (List UInt8)) (h : ∀ q ∈ Q, wrt q = true) : run (line Q) false = some false := by
  cases Q with
  | nil => simp [line, Lib.join_nil, run]
  | cons x R => exact run_line1 R x h
theorem wrong1 (Q : List (List UInt8)) (h : ∀ q ∈ Q, wrt q = true) : scan (line Q ++ [32, 34, 120]) [] [] false false = none := by
  obtain ⟨F, L, o, e⟩ := run_scan _ _ _ (run_line Q h) [32, 34, 120] [] [] false
  rw [e, scan3 (by decide), scan2 (by decide)]
  show scan [120] _ _ true true = none
  rw [scan1 (by decide)]; rfl
theorem fine2 (Q : List (List UInt8)) (h : ∀ q ∈ Q, wrt q = true) (c : UInt8) : scan (line Q ++ [32, 35, 32, 34] ++ [c]) [] [] false false = some Q := by
  have := back4 Q h [34, c]
  have e : line Q ++ [32, 35, 32, 34] ++ [c] = line Q ++ [32, 35, 32] ++ [34, c] := by simp
  rw [e, this]
theorem wrong3 (Q : List (List UInt8)) (h : ∀ q ∈ Q, wrt q = true) (c : UInt8) (hc : (c.toNat < 32 ∧ c.toNat ≠ 9) ∨ 126 < c.toNat) (k : Nat) : scan ((line Q).take k ++ [c] ++ (line Q).drop k) [] [] false false = none := by
  have hr := run_line Q h
  rw [← List.take_append_drop k (line Q), run_app] at hr
  cases hq : run ((line Q).take k) false with
  | none => rw [hq] at hr; cases hr
  | some q =>
    obtain ⟨F, L, o, e⟩ := run_scan _ _ _ hq ([c] ++ (line Q).drop k) [] [] false
    rw [List.append_assoc, e, List.singleton_append]
    have hk : kind c q = 0 := by
      cases q with
      | false => rcases kindF c with ⟨_, _⟩ | ⟨_, _⟩ | ⟨_, _⟩ | ⟨_, _⟩ | ⟨_, ⟨_, e⟩ | ⟨_, e⟩ | ⟨_, _, e⟩⟩ <;> first | exact e | omega
      | true => rcases kindT c with ⟨_, _⟩ | ⟨_, _, _, _⟩ | ⟨_, e⟩ <;> first | exact e | omega
    rw [scan0 hk]
/-- a field more: x and a byte -/
theorem more_bad (Q : List (List UInt8)) (c : UInt8) (hc : c.toNat < 32 ∨ 126 < c.toNat ∨ c.toNat = 34) : jn (Q ++ [[120, c]]) = (⟨#[]⟩, 2) := by
  unfold jn
  rw [if_neg]
  intro h
  rw [List.all_append, Bool.and_eq_true] at h
  have h2 := h.2
  have : okb c = false := by
    rw [Bool.eq_false_iff]
    intro h3
    have := (okb_iff c).1 h3
    omega
  unfold wrt at h2
  simp [this] at h2
theorem more_fine (Q : List (List UInt8)) (h : ∀ q ∈ Q, wrt q = true ∧ q.length ≤ 12) (hl : Q.length ≤ 6) (c : UInt8) (hc : 32 ≤ c.toNat ∧ c.toNat ≤ 126 ∧ c.toNat ≠ 34) : jn (Q ++ [[120, c]]) = (bs (line (Q ++ [[120, c]])), 0) ∧ line (Q ++ [[120, c]]) ≠ [] := by
  have hw : ∀ q ∈ Q ++ [[120, c]], wrt q = true ∧ q.length ≤ 12 := by
    intro q hq
    rcases List.mem_append.1 hq with hq | hq
    · exact h q hq
    · rw [List.mem_singleton.1 hq]
      refine ⟨?_, by simp⟩
      have h1 : okb c = true := (okb_iff c).2 hc
      have h2 : okb 120 = true := by decide
      unfold wrt; simp [h1, h2]
  have hlen := line_short (Q ++ [[120, c]]) 12 fun q hq => (hw q hq).2
  have hl2 : (Q ++ [[120, c]]).length ≤ 7 := by simp; omega
  refine ⟨jn_ok _ (fun q hq => (hw q hq).1) (by have : (Q ++ [[120, c]]).length * (12 + 3) ≤ 7 * 15 := Nat.mul_le_mul_right 15 hl2; omega), ?_⟩
  rw [line_snoc]
  have hwr := (write_len [120, c]).1
  split
  · intro e; rw [e] at hwr; simp at hwr
  · simp
end Go.Proofs.YtlekbbggbfhgaaaDoor.Lx
