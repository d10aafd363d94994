/- The lists of words of the statements about layer 8, by number: the words, what finds them, the first number. -/
import Derived.Test.YtiompmplnmkakaaDoorLaw08
import Derived.Test.YtiompmplnmkakaaDoorRef08c
namespace Go.Proofs.YtiompmplnmkakaaDoor
open Go.RowKit
/-- the words of a list -/
def RQ : Nat → List ByteArray
  | 0 => rlinesL
  | 1 => rmonthsL
  | 2 => rweeksL
  | _ => ryearsL
/-- the words of a list, at their numbers -/
def LQ : Nat → List ByteArray
  | 0 => linesL
  | 1 => monthsL
  | 2 => weeksL
  | _ => yearsL
/-- what finds them -/
def FQ : Nat → Nat
  | 0 => 11
  | 1 => 13
  | 2 => 15
  | _ => 17
/-- the first number -/
def NQ : Nat → Int
  | 0 => 1
  | 1 => 1
  | 2 => 0
  | _ => 1
theorem q_split (q : Nat) (h : q < 4) : q = 0 ∨ q = 1 ∨ q = 2 ∨ q = 3 := by omega
theorem enters_q (q : Nat) (h : q < 4) (args : Array Value) (w : World) : (callFunc (FQ q) args).run Tryd.prog w = .ok (.enter (FQ q) args) w := by
  rcases q_split q h with rfl | rfl | rfl | rfl
  · exact enters_line args w
  · exact enters_month args w
  · exact enters_week args w
  · exact enters_to args w
theorem find_q (q : Nat) (h : q < 4) {W0 w : World} (s : ByteArray) (r1 r2 : Int) (hr : Hid (Wd.fnd (wl (LQ q)) (Wd.low s.data.toList) = (r1, r2))) (HC : Hid (Wo W0 w)) : Calls Tryd.prog (FQ q) #[.string s] w fun e w' => e = .returned (.tuple #[.int .i64 r1, .int .i64 r2]) ∧ Below w.heap.size w w' ∧ Hid (Wo W0 w') := by
  rcases q_split q h with rfl | rfl | rfl | rfl
  · exact wLine_s s r1 r2 hr HC
  · exact wMonth_s s r1 r2 hr HC
  · exact wWeek_s s r1 r2 hr HC
  · exact wTo_s s r1 r2 hr HC
/-- the lists lie in memory, from block h on -/
structure Ls (h : Nat) (w : World) : Prop where
  words : ∀ q, q < 4 → Cs w (h + q) (strV (RQ q))
  l : ∀ q, q < 4 → w.cell? ⟨h + 4, q * 3, none⟩ = some (.slice (some ⟨h + q, 0, none⟩) (RQ q).length (RQ q).length)
  find : ∀ q, q < 4 → w.cell? ⟨h + 4, q * 3 + 1, none⟩ = some (.func (.func (FQ q)) #[] #[])
  first : ∀ q, q < 4 → w.cell? ⟨h + 4, q * 3 + 2, none⟩ = some (.int .i64 (NQ q))
theorem Ls.bl {h : Nat} {w w1 : World} (hl : Ls h w) (k : Below w.heap.size w w1) : Ls h w1 := ⟨fun q e => (hl.words q e).bl k, fun q e => cell_bl k (hl.l q e), fun q e => cell_bl k (hl.find q e), fun q e => cell_bl k (hl.first q e)⟩
theorem Ls.hbl {h : Nat} {w w1 : World} (hl : Hid (Ls h w)) (k : Below w.heap.size w w1) : Hid (Ls h w1) := Lib.hid (hl.out.bl k)
theorem cs_new {w : World} {l : List Value} {t : TypeId} {b : Nat} (h : b = w.heap.size) : Cs (w.alloc (.cells l.toArray t)) b l := by subst h; exact Cs.new w l t
set_option maxRecDepth 100000 in
set_option maxHeartbeats 2000000 in
theorem lists_any (w : World) : Calls Tryd.prog 23 #[] w fun e w' => e = .returned (.slice (some ⟨w.heap.size + 4, 0, none⟩) 4 4) ∧ Ls w.heap.size w' ∧ Below w.heap.size w w' ∧ w'.heap.size = w.heap.size + 5 := by
  go_enter Tryd.func23, Tryd.ntmps23
  go_wp2
  go_ret
  refine ⟨rfl, ⟨?_, ?_, ?_, ?_⟩, ?_, by simp⟩
  · intro q hq
    rcases q_split q hq with rfl | rfl | rfl | rfl
    · exact ((((cs_new (l := strV rlinesL) rfl).al _).al _).al _).al _
    · exact (((cs_new (l := strV rmonthsL) (by simp)).al _).al _).al _
    · exact ((cs_new (l := strV rweeksL) (by simp)).al _).al _
    · exact (cs_new (l := strV ryearsL) (by simp)).al _
  · intro q hq
    rcases q_split q hq with rfl | rfl | rfl | rfl <;> exact row_cell (row_new (by simp)) rfl
  · intro q hq
    rcases q_split q hq with rfl | rfl | rfl | rfl <;> exact row_cell (row_new (by simp)) rfl
  · intro q hq
    rcases q_split q hq with rfl | rfl | rfl | rfl <;> exact row_cell (row_new (by simp)) rfl
  · exact (((((Below.refl _ w).alloc (Nat.le_refl _) _).alloc (by simp) _).alloc (by simp; omega) _).alloc (by simp; omega) _).alloc (by simp; omega) _
end Go.Proofs.YtiompmplnmkakaaDoor
