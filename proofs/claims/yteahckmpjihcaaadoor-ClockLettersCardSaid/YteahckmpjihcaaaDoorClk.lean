/- Package clock: the contracts of split, Check, Parse, Print. -/
import Derived.Test.YteahckmpjihcaaaDoorOfn
import Derived.Test.YteahckmpjihcaaaDoorCl
import Derived.Laws.RangeString
import Derived.LoopTactic
namespace Go.Proofs.YteahckmpjihcaaaDoor
open Go.RowKit
/-- the table of the letters, and that of the letters of canonical strings, lie in their blocks -/
def LetW (w : World) : Prop := ∀ j, j < 3 → w.cell? ⟨1, j, none⟩ = some (.string ([⟨#[119]⟩, ⟨#[115]⟩, ⟨#[117, 103, 122]⟩].getD j ⟨#[]⟩))
def CanW (w : World) : Prop := ∀ j, j < 3 → w.cell? ⟨0, j, none⟩ = some (.string ([⟨#[]⟩, ⟨#[115]⟩, ⟨#[117]⟩].getD j ⟨#[]⟩))
theorem LetW.bl {w w1 : World} (h : LetW w) (k : Below w.heap.size w w1) : LetW w1 := fun j hj => cell_bl k (h j hj)
theorem CanW.bl {w w1 : World} (h : CanW w) (k : Below w.heap.size w w1) : CanW w1 := fun j hj => cell_bl k (h j hj)
/-- the state of a walk -/
def Ks (w0 w : World) : Prop := Below w0.heap.size w0 w ∧ (CtsW w ∧ PowW w) ∧ LetW w ∧ CanW w
theorem Ks.mk0 {w : World} (h : (CtsW w ∧ PowW w) ∧ LetW w ∧ CanW w) : Ks w w := ⟨Below.refl _ w, h.1, h.2.1, h.2.2⟩
theorem Ks.bl {w0 w w1 : World} (h : Ks w0 w) (k : Below w.heap.size w w1) : Ks w0 w1 := ⟨Below.trans h.1 (k.mono h.1.size), ⟨h.2.1.1.bl k, h.2.1.2.bl k⟩, h.2.2.1.bl k, h.2.2.2.bl k⟩
theorem Ks.hbl {w0 w w1 : World} (h : Hid (Ks w0 w)) (k : Below w.heap.size w w1) : Hid (Ks w0 w1) := Lib.hid (h.out.bl k)
theorem Ks.hal {w0 w : World} (h : Hid (Ks w0 w)) (A : Obj) : Hid (Ks w0 (w.alloc A)) := Lib.hid (h.out.bl (Below.alloc (Below.refl _ w) (Nat.le_refl _) A))
theorem Ks.hdr {w0 w : World} (h : Hid (Ks w0 w)) : Hid (Ks w0 w.drew) := Lib.hid (h.out.bl (Below.drew (Below.refl _ w)))
theorem Ks.hdn {w0 w : World} (h : Hid (Ks w0 w)) (n : Nat) : Hid (Ks w0 (w.drewN n)) := Ks.hbl h (Dw.below (w := w) (w' := w.drewN n) ⟨n, rfl⟩)
theorem ret_sI {k : IntKind} {a b : ByteArray} {c d : Int} (h : a = b) (g : c = d) : Ending.returned (.tuple #[.string a, .int k c]) = .returned (.tuple #[.string b, .int k d]) := by rw [h, g]
theorem bs_ext {a : ByteArray} {l : List UInt8} (h : a.data.toList = l) : a = ⟨l.toArray⟩ := by
  obtain ⟨⟨x⟩⟩ := a; simp at h; rw [h]
/-- the last byte of a string -/
theorem last_snoc (s : ByteArray) (m : Nat) (h : m < s.size) (hm : s.size = m + 1) : s.data.toList = (s.extract 0 m).data.toList ++ [s[m]] := by
  rw [Lib.extract_data]
  have h1 : s.data.toList[m]? = some s[m] := byte_at s m h
  have h2 : s.data.toList.length = m + 1 := by simpa using hm
  rw [Nat.sub_zero, List.drop_zero]
  have := List.take_append_drop m s.data.toList
  rw [List.drop_eq_getElem_cons (by omega), List.drop_eq_nil_of_le (by omega)] at this
  rw [List.getElem?_eq_getElem (by omega)] at h1
  rw [Option.some.inj h1] at this
  exact this.symm
theorem below_iter (w : World) (s : ByteArray) (i : Nat) : Below w.heap.size w (w.iter s i) := (Below.refl _ w).alloc (Nat.le_refl _) _
/-- a round over one of the letters' strings -/
def NxW (P : Program) : Prop :=
  (∀ (w : World) (ty : TypeId), (Instr.next (.pointer (some ⟨w.heap.size, 0, none⟩)) true ty).run P (w.iter ⟨#[119]⟩ 0) = .ok (.tuple #[.bool true, .int .i64 0, .int .i32 119]) (w.iter ⟨#[119]⟩ 1)) ∧
  (∀ (w : World) (ty : TypeId), (Instr.next (.pointer (some ⟨w.heap.size, 0, none⟩)) true ty).run P (w.iter ⟨#[119]⟩ 1) = .ok (.tuple #[.bool false]) (w.iter ⟨#[119]⟩ 1)) ∧
  (∀ (w : World) (ty : TypeId), (Instr.next (.pointer (some ⟨w.heap.size, 0, none⟩)) true ty).run P (w.iter ⟨#[115]⟩ 0) = .ok (.tuple #[.bool true, .int .i64 0, .int .i32 115]) (w.iter ⟨#[115]⟩ 1)) ∧
  (∀ (w : World) (ty : TypeId), (Instr.next (.pointer (some ⟨w.heap.size, 0, none⟩)) true ty).run P (w.iter ⟨#[115]⟩ 1) = .ok (.tuple #[.bool false]) (w.iter ⟨#[115]⟩ 1)) ∧
  (∀ (w : World) (ty : TypeId), (Instr.next (.pointer (some ⟨w.heap.size, 0, none⟩)) true ty).run P (w.iter ⟨#[117, 103, 122]⟩ 0) = .ok (.tuple #[.bool true, .int .i64 0, .int .i32 117]) (w.iter ⟨#[117, 103, 122]⟩ 1)) ∧
  (∀ (w : World) (ty : TypeId), (Instr.next (.pointer (some ⟨w.heap.size, 0, none⟩)) true ty).run P (w.iter ⟨#[117, 103, 122]⟩ 1) = .ok (.tuple #[.bool true, .int .i64 1, .int .i32 103]) (w.iter ⟨#[117, 103, 122]⟩ 2)) ∧
  (∀ (w : World) (ty : TypeId), (Instr.next (.pointer (some ⟨w.heap.size, 0, none⟩)) true ty).run P (w.iter ⟨#[117, 103, 122]⟩ 2) = .ok (.tuple #[.bool true, .int .i64 2, .int .i32 122]) (w.iter ⟨#[117, 103, 122]⟩ 3)) ∧
  (∀ (w : World) (ty : TypeId), (Instr.next (.pointer (some ⟨w.heap.size, 0, none⟩)) true ty).run P (w.iter ⟨#[117, 103, 122]⟩ 3) = .ok (.tuple #[.bool false]) (w.iter ⟨#[117, 103, 122]⟩ 3))
theorem nx_all (P : Program) : NxW P :=
  ⟨fun w ty => run_next_ascii w ⟨#[119]⟩ 0 ty (by decide) (by decide), fun w ty => run_next_end w ⟨#[119]⟩ 1 ty (by decide),
   fun w ty => run_next_ascii w ⟨#[115]⟩ 0 ty (by decide) (by decide), fun w ty => run_next_end w ⟨#[115]⟩ 1 ty (by decide),
   fun w ty => run_next_ascii w ⟨#[117, 103, 122]⟩ 0 ty (by decide) (by decide), fun w ty => run_next_ascii w ⟨#[117, 103, 122]⟩ 1 ty (by decide) (by decide), fun w ty => run_next_ascii w ⟨#[117, 103, 122]⟩ 2 ty (by decide) (by decide), fun w ty => run_next_end w ⟨#[117, 103, 122]⟩ 3 ty (by decide)⟩
set_option maxHeartbeats 2000000 in
theorem split_no (s : ByteArray) (m : Nat) (h : m < s.size) (hm : s.size = m + 1) (hs : s.size ≤ maxLen) (c : Int) (hc : (s[m].toNat : Int) = c) (q1 : (c == 119) = false) (q2 : (c == 115) = false) (q3 : (c == 117) = false) (q4 : (c == 103) = false) (q5 : (c == 122) = false) (w : World) (hT : LetW w) :
    Calls Tryd.prog 21 #[.string s] w fun e w' => e = .returned (.tuple #[.string s, .int .i64 0]) ∧ Below w.heap.size w w' := by
  have c0 : w.cell? ⟨1, 0, none⟩ = some (.string ⟨#[119]⟩) := hT 0 (by omega)
  have c1 : w.cell? ⟨1, 1, none⟩ = some (.string ⟨#[115]⟩) := hT 1 (by omega)
  have c2 : w.cell? ⟨1, 2, none⟩ = some (.string ⟨#[117, 103, 122]⟩) := hT 2 (by omega)
  have i0 : ∀ w, (Instr.index 51 (.agg #[.string ⟨#[119]⟩, .string ⟨#[115]⟩, .string ⟨#[117, 103, 122]⟩]) (.int .i64 0)).run Tryd.prog w = .ok (.string ⟨#[119]⟩) w := fun _ => by kernel_rfl
  have i1 : ∀ w, (Instr.index 51 (.agg #[.string ⟨#[119]⟩, .string ⟨#[115]⟩, .string ⟨#[117, 103, 122]⟩]) (.int .i64 1)).run Tryd.prog w = .ok (.string ⟨#[115]⟩) w := fun _ => by kernel_rfl
  have i2 : ∀ w, (Instr.index 51 (.agg #[.string ⟨#[119]⟩, .string ⟨#[115]⟩, .string ⟨#[117, 103, 122]⟩]) (.int .i64 2)).run Tryd.prog w = .ok (.string ⟨#[117, 103, 122]⟩) w := fun _ => by kernel_rfl
  have hc0 : 0 ≤ c := by omega
  have hc1 : c < 256 := by have := s[m].toNat_lt; omega
  unfold maxLen at hs
  obtain ⟨n1, n2, n3, n4, n5, n6, n7, n8⟩ := nx_all Tryd.prog
  clear hT
  go_enter Tryd.func21, Tryd.ntmps21
  go_wp2
  refine wp_loop_rounds 4 ?_
  rw [rounds_succ]
  go_wp2
  refine wp_loop_rounds 5 ?_
  rw [rounds_succ]
  go_wp2
  rw [rounds_succ]
  go_wp2
  rw [rounds_succ]
  go_wp2
  refine wp_loop_rounds 5 ?_
  rw [rounds_succ]
  go_wp2
  rw [rounds_succ]
  go_wp2
  rw [rounds_succ]
  go_wp2
  refine wp_loop_rounds 5 ?_
  rw [rounds_succ]
  go_wp2
  rw [rounds_succ]
  go_wp2
  rw [rounds_succ]
  go_wp2
  rw [rounds_succ]
  go_wp2
  rw [rounds_succ]
  go_wp2
  go_ret2
  exact ⟨rfl, by repeat (first | exact below_iter _ _ _ | exact Below.refl _ _ | refine Below.trans (below_iter _ _ _) ((below_iter _ _ _).mono (below_iter _ _ _).size) | refine Below.trans ?_ ((below_iter _ _ _).mono (by simp [World.iter] <;> omega)))⟩
set_option maxHeartbeats 2000000 in
theorem split_w (s : ByteArray) (m : Nat) (h : m < s.size) (hm : s.size = m + 1) (hs : s.size ≤ maxLen) (c : Int) (hc : (s[m].toNat : Int) = c) (q1 : (c == 119) = true) (w : World) (hT : LetW w) :
    Calls Tryd.prog 21 #[.string s] w fun e w' => e = .returned (.tuple #[.string (s.extract 0 m), .int .i64 0]) ∧ Below w.heap.size w w' := by
  have c0 : w.cell? ⟨1, 0, none⟩ = some (.string ⟨#[119]⟩) := hT 0 (by omega)
  have c1 : w.cell? ⟨1, 1, none⟩ = some (.string ⟨#[115]⟩) := hT 1 (by omega)
  have c2 : w.cell? ⟨1, 2, none⟩ = some (.string ⟨#[117, 103, 122]⟩) := hT 2 (by omega)
  have i0 : ∀ w, (Instr.index 51 (.agg #[.string ⟨#[119]⟩, .string ⟨#[115]⟩, .string ⟨#[117, 103, 122]⟩]) (.int .i64 0)).run Tryd.prog w = .ok (.string ⟨#[119]⟩) w := fun _ => by kernel_rfl
  have i1 : ∀ w, (Instr.index 51 (.agg #[.string ⟨#[119]⟩, .string ⟨#[115]⟩, .string ⟨#[117, 103, 122]⟩]) (.int .i64 1)).run Tryd.prog w = .ok (.string ⟨#[115]⟩) w := fun _ => by kernel_rfl
  have i2 : ∀ w, (Instr.index 51 (.agg #[.string ⟨#[119]⟩, .string ⟨#[115]⟩, .string ⟨#[117, 103, 122]⟩]) (.int .i64 2)).run Tryd.prog w = .ok (.string ⟨#[117, 103, 122]⟩) w := fun _ => by kernel_rfl
  have hc0 : 0 ≤ c := by omega
  have hc1 : c < 256 := by have := s[m].toNat_lt; omega
  unfold maxLen at hs
  obtain ⟨n1, n2, n3, n4, n5, n6, n7, n8⟩ := nx_all Tryd.prog
  clear hT
  go_enter Tryd.func21, Tryd.ntmps21
  go_wp2
  refine wp_loop_rounds 4 ?_
  rw [rounds_succ]
  go_wp2
  refine wp_loop_rounds 5 ?_
  rw [rounds_succ]
  go_wp2
  go_ret2
  exact ⟨rfl, by repeat (first | exact below_iter _ _ _ | exact Below.refl _ _ | refine Below.trans (below_iter _ _ _) ((below_iter _ _ _).mono (below_iter _ _ _).size) | refine Below.trans ?_ ((below_iter _ _ _).mono (by simp [World.iter] <;> omega)))⟩
set_option maxHeartbeats 2000000 in
theorem split_s (s : ByteArray) (m : Nat) (h : m < s.size) (hm : s.size = m + 1) (hs : s.size ≤ maxLen) (c : Int) (hc : (s[m].toNat : Int) = c) (q1 : (c == 119) = false) (q2 : (c == 115) = true) (w : World) (hT : LetW w) :
    Calls Tryd.prog 21 #[.string s] w fun e w' => e = .returned (.tuple #[.string (s.extract 0 m), .int .i64 1]) ∧ Below w.heap.size w w' := by
  have c0 : w.cell? ⟨1, 0, none⟩ = some (.string ⟨#[119]⟩) := hT 0 (by omega)
  have c1 : w.cell? ⟨1, 1, none⟩ = some (.string ⟨#[115]⟩) := hT 1 (by omega)
  have c2 : w.cell? ⟨1, 2, none⟩ = some (.string ⟨#[117, 103, 122]⟩) := hT 2 (by omega)
  have i0 : ∀ w, (Instr.index 51 (.agg #[.string ⟨#[119]⟩, .string ⟨#[115]⟩, .string ⟨#[117, 103, 122]⟩]) (.int .i64 0)).run Tryd.prog w = .ok (.string ⟨#[119]⟩) w := fun _ => by kernel_rfl
  have i1 : ∀ w, (Instr.index 51 (.agg #[.string ⟨#[119]⟩, .string ⟨#[115]⟩, .string ⟨#[117, 103, 122]⟩]) (.int .i64 1)).run Tryd.prog w = .ok (.string ⟨#[115]⟩) w := fun _ => by kernel_rfl
  have i2 : ∀ w, (Instr.index 51 (.agg #[.string ⟨#[119]⟩, .string ⟨#[115]⟩, .string ⟨#[117, 103, 122]⟩]) (.int .i64 2)).run Tryd.prog w = .ok (.string ⟨#[117, 103, 122]⟩) w := fun _ => by kernel_rfl
  have hc0 : 0 ≤ c := by omega
  have hc1 : c < 256 := by have := s[m].toNat_lt; omega
  unfold maxLen at hs
  obtain ⟨n1, n2, n3, n4, n5, n6, n7, n8⟩ := nx_all Tryd.prog
  clear hT
  go_enter Tryd.func21, Tryd.ntmps21
  go_wp2
  refine wp_loop_rounds 4 ?_
  rw [rounds_succ]
  go_wp2
  refine wp_loop_rounds 5 ?_
  rw [rounds_succ]
  go_wp2
  rw [rounds_succ]
  go_wp2
  rw [rounds_succ]
  go_wp2
  refine wp_loop_rounds 5 ?_
  rw [rounds_succ]
  go_wp2
  go_ret2
  exact ⟨rfl, by repeat (first | exact below_iter _ _ _ | exact Below.refl _ _ | refine Below.trans (below_iter _ _ _) ((below_iter _ _ _).mono (below_iter _ _ _).size) | refine Below.trans ?_ ((below_iter _ _ _).mono (by simp [World.iter] <;> omega)))⟩
set_option maxHeartbeats 2000000 in
theorem split_u (s : ByteArray) (m : Nat) (h : m < s.size) (hm : s.size = m + 1) (hs : s.size ≤ maxLen) (c : Int) (hc : (s[m].toNat : Int) = c) (q1 : (c == 119) = false) (q2 : (c == 115) = false) (q3 : (c == 117) = true) (w : World) (hT : LetW w) :
    Calls Tryd.prog 21 #[.string s] w fun e w' => e = .returned (.tuple #[.string (s.extract 0 m), .int .i64 2]) ∧ Below w.heap.size w w' := by
  have c0 : w.cell? ⟨1, 0, none⟩ = some (.string ⟨#[119]⟩) := hT 0 (by omega)
  have c1 : w.cell? ⟨1, 1, none⟩ = some (.string ⟨#[115]⟩) := hT 1 (by omega)
  have c2 : w.cell? ⟨1, 2, none⟩ = some (.string ⟨#[117, 103, 122]⟩) := hT 2 (by omega)
  have i0 : ∀ w, (Instr.index 51 (.agg #[.string ⟨#[119]⟩, .string ⟨#[115]⟩, .string ⟨#[117, 103, 122]⟩]) (.int .i64 0)).run Tryd.prog w = .ok (.string ⟨#[119]⟩) w := fun _ => by kernel_rfl
  have i1 : ∀ w, (Instr.index 51 (.agg #[.string ⟨#[119]⟩, .string ⟨#[115]⟩, .string ⟨#[117, 103, 122]⟩]) (.int .i64 1)).run Tryd.prog w = .ok (.string ⟨#[115]⟩) w := fun _ => by kernel_rfl
  have i2 : ∀ w, (Instr.index 51 (.agg #[.string ⟨#[119]⟩, .string ⟨#[115]⟩, .string ⟨#[117, 103, 122]⟩]) (.int .i64 2)).run Tryd.prog w = .ok (.string ⟨#[117, 103, 122]⟩) w := fun _ => by kernel_rfl
  have hc0 : 0 ≤ c := by omega
  have hc1 : c < 256 := by have := s[m].toNat_lt; omega
  unfold maxLen at hs
  obtain ⟨n1, n2, n3, n4, n5, n6, n7, n8⟩ := nx_all Tryd.prog
  clear hT
  go_enter Tryd.func21, Tryd.ntmps21
  go_wp2
  refine wp_loop_rounds 4 ?_
  rw [rounds_succ]
  go_wp2
  refine wp_loop_rounds 5 ?_
  rw [rounds_succ]
  go_wp2
  rw [rounds_succ]
  go_wp2
  rw [rounds_succ]
  go_wp2
  refine wp_loop_rounds 5 ?_
  rw [rounds_succ]
  go_wp2
  rw [rounds_succ]
  go_wp2
  rw [rounds_succ]
  go_wp2
  refine wp_loop_rounds 5 ?_
  rw [rounds_succ]
  go_wp2
  go_ret2
  exact ⟨rfl, by repeat (first | exact below_iter _ _ _ | exact Below.refl _ _ | refine Below.trans (below_iter _ _ _) ((below_iter _ _ _).mono (below_iter _ _ _).size) | refine Below.trans ?_ ((below_iter _ _ _).mono (by simp [World.iter] <;> omega)))⟩
set_option maxHeartbeats 2000000 in
theorem split_g (s : ByteArray) (m : Nat) (h : m < s.size) (hm : s.size = m + 1) (hs : s.size ≤ maxLen) (c : Int) (hc : (s[m].toNat : Int) = c) (q1 : (c == 119) = false) (q2 : (c == 115) = false) (q3 : (c == 117) = false) (q4 : (c == 103) = true) (w : World) (hT : LetW w) :
    Calls Tryd.prog 21 #[.string s] w fun e w' => e = .returned (.tuple #[.string (s.extract 0 m), .int .i64 2]) ∧ Below w.heap.size w w' := by
  have c0 : w.cell? ⟨1, 0, none⟩ = some (.string ⟨#[119]⟩) := hT 0 (by omega)
  have c1 : w.cell? ⟨1, 1, none⟩ = some (.string ⟨#[115]⟩) := hT 1 (by omega)
  have c2 : w.cell? ⟨1, 2, none⟩ = some (.string ⟨#[117, 103, 122]⟩) := hT 2 (by omega)
  have i0 : ∀ w, (Instr.index 51 (.agg #[.string ⟨#[119]⟩, .string ⟨#[115]⟩, .string ⟨#[117, 103, 122]⟩]) (.int .i64 0)).run Tryd.prog w = .ok (.string ⟨#[119]⟩) w := fun _ => by kernel_rfl
  have i1 : ∀ w, (Instr.index 51 (.agg #[.string ⟨#[119]⟩, .string ⟨#[115]⟩, .string ⟨#[117, 103, 122]⟩]) (.int .i64 1)).run Tryd.prog w = .ok (.string ⟨#[115]⟩) w := fun _ => by kernel_rfl
  have i2 : ∀ w, (Instr.index 51 (.agg #[.string ⟨#[119]⟩, .string ⟨#[115]⟩, .string ⟨#[117, 103, 122]⟩]) (.int .i64 2)).run Tryd.prog w = .ok (.string ⟨#[117, 103, 122]⟩) w := fun _ => by kernel_rfl
  have hc0 : 0 ≤ c := by omega
  have hc1 : c < 256 := by have := s[m].toNat_lt; omega
  unfold maxLen at hs
  obtain ⟨n1, n2, n3, n4, n5, n6, n7, n8⟩ := nx_all Tryd.prog
  clear hT
  go_enter Tryd.func21, Tryd.ntmps21
  go_wp2
  refine wp_loop_rounds 4 ?_
  rw [rounds_succ]
  go_wp2
  refine wp_loop_rounds 5 ?_
  rw [rounds_succ]
  go_wp2
  rw [rounds_succ]
  go_wp2
  rw [rounds_succ]
  go_wp2
  refine wp_loop_rounds 5 ?_
  rw [rounds_succ]
  go_wp2
  rw [rounds_succ]
  go_wp2
  rw [rounds_succ]
  go_wp2
  refine wp_loop_rounds 5 ?_
  rw [rounds_succ]
  go_wp2
  rw [rounds_succ]
  go_wp2
  go_ret2
  exact ⟨rfl, by repeat (first | exact below_iter _ _ _ | exact Below.refl _ _ | refine Below.trans (below_iter _ _ _) ((below_iter _ _ _).mono (below_iter _ _ _).size) | refine Below.trans ?_ ((below_iter _ _ _).mono (by simp [World.iter] <;> omega)))⟩
set_option maxHeartbeats 2000000 in
theorem split_z (s : ByteArray) (m : Nat) (h : m < s.size) (hm : s.size = m + 1) (hs : s.size ≤ maxLen) (c : Int) (hc : (s[m].toNat : Int) = c) (q1 : (c == 119) = false) (q2 : (c == 115) = false) (q3 : (c == 117) = false) (q4 : (c == 103) = false) (q5 : (c == 122) = true) (w : World) (hT : LetW w) :
    Calls Tryd.prog 21 #[.string s] w fun e w' => e = .returned (.tuple #[.string (s.extract 0 m), .int .i64 2]) ∧ Below w.heap.size w w' := by
  have c0 : w.cell? ⟨1, 0, none⟩ = some (.string ⟨#[119]⟩) := hT 0 (by omega)
  have c1 : w.cell? ⟨1, 1, none⟩ = some (.string ⟨#[115]⟩) := hT 1 (by omega)
  have c2 : w.cell? ⟨1, 2, none⟩ = some (.string ⟨#[117, 103, 122]⟩) := hT 2 (by omega)
  have i0 : ∀ w, (Instr.index 51 (.agg #[.string ⟨#[119]⟩, .string ⟨#[115]⟩, .string ⟨#[117, 103, 122]⟩]) (.int .i64 0)).run Tryd.prog w = .ok (.string ⟨#[119]⟩) w := fun _ => by kernel_rfl
  have i1 : ∀ w, (Instr.index 51 (.agg #[.string ⟨#[119]⟩, .string ⟨#[115]⟩, .string ⟨#[117, 103, 122]⟩]) (.int .i64 1)).run Tryd.prog w = .ok (.string ⟨#[115]⟩) w := fun _ => by kernel_rfl
  have i2 : ∀ w, (Instr.index 51 (.agg #[.string ⟨#[119]⟩, .string ⟨#[115]⟩, .string ⟨#[117, 103, 122]⟩]) (.int .i64 2)).run Tryd.prog w = .ok (.string ⟨#[117, 103, 122]⟩) w := fun _ => by kernel_rfl
  have hc0 : 0 ≤ c := by omega
  have hc1 : c < 256 := by have := s[m].toNat_lt; omega
  unfold maxLen at hs
  obtain ⟨n1, n2, n3, n4, n5, n6, n7, n8⟩ := nx_all Tryd.prog
  clear hT
  go_enter Tryd.func21, Tryd.ntmps21
  go_wp2
  refine wp_loop_rounds 4 ?_
  rw [rounds_succ]
  go_wp2
  refine wp_loop_rounds 5 ?_
  rw [rounds_succ]
  go_wp2
  rw [rounds_succ]
  go_wp2
  rw [rounds_succ]
  go_wp2
  refine wp_loop_rounds 5 ?_
  rw [rounds_succ]
  go_wp2
  rw [rounds_succ]
  go_wp2
  rw [rounds_succ]
  go_wp2
  refine wp_loop_rounds 5 ?_
  rw [rounds_succ]
  go_wp2
  rw [rounds_succ]
  go_wp2
  rw [rounds_succ]
  go_wp2
  go_ret2
  exact ⟨rfl, by repeat (first | exact below_iter _ _ _ | exact Below.refl _ _ | refine Below.trans (below_iter _ _ _) ((below_iter _ _ _).mono (below_iter _ _ _).size) | refine Below.trans ?_ ((below_iter _ _ _).mono (by simp [World.iter] <;> omega)))⟩
/-- split -/
def spl (s : ByteArray) : ByteArray × Int := (⟨(Cl.cut s.data.toList).1.toArray⟩, (Cl.cut s.data.toList).2)
theorem spl_of {s A : ByteArray} {b : Int} (h : Cl.cut s.data.toList = (A.data.toList, b)) : spl s = (A, b) := by
  unfold spl; rw [h]
theorem byte_num {c : UInt8} {k : Nat} (hk : k < 256) : ((c.toNat : Int) == (k : Int)) = decide (c = UInt8.ofNat k) := by
  have h : (c = UInt8.ofNat k) ↔ ((c.toNat : Int) = (k : Int)) := by
    constructor
    · intro e; rw [e, UInt8.toNat_ofNat']; omega
    · intro e; apply UInt8.toNat_inj.1; rw [UInt8.toNat_ofNat']; omega
  by_cases e : c = UInt8.ofNat k
  · simp only [e, decide_true]; rw [← e, h.1 e]; exact beq_self_eq_true _
  · simp only [e, decide_false]; simp only [beq_eq_false_iff_ne]; exact fun g => e (h.2 g)
theorem lsplit_any (s : ByteArray) (hs : s.size ≤ maxLen) (A : ByteArray) (b : Int) (hr : spl s = (A, b)) (w : World) (hT : LetW w) :
    Calls Tryd.prog 21 #[.string s] w fun e w' => e = .returned (.tuple #[.string A, .int .i64 b]) ∧ Below w.heap.size w w' := by
  by_cases h0 : s.size = 0
  · have hl : s.data.toList = [] := List.eq_nil_of_length_eq_zero (by simpa using h0)
    have : spl s = (s, 0) := spl_of (by rw [hl]; rfl)
    rw [this] at hr
    obtain ⟨rfl, rfl⟩ := Prod.mk.inj hr
    clear hr this hl hs hT
    go_enter Tryd.func21, Tryd.ntmps21
    go_wp2
    go_ret2
    exact ⟨rfl, Below.refl _ _⟩
  · obtain ⟨m, hm⟩ : ∃ m, s.size = m + 1 := ⟨s.size - 1, by omega⟩
    have h : m < s.size := by omega
    have hl := last_snoc s m h hm
    have key : ∀ k : Nat, k < 256 → s[m] = UInt8.ofNat k → ((s[m].toNat : Int) == (k : Int)) = true := fun k hk e => by rw [byte_num hk, e]; exact decide_eq_true rfl
    have kno : ∀ k : Nat, k < 256 → s[m] ≠ UInt8.ofNat k → ((s[m].toNat : Int) == (k : Int)) = false := fun k hk e => by rw [byte_num hk]; exact decide_eq_false e
    have fin : ∀ c : UInt8, s[m] = c → ∀ b0 : Int, Cl.letB c = some b0 → spl s = (s.extract 0 m, b0) := fun c e b0 hb => spl_of (by rw [hl, e]; exact Cl.cut_let _ _ _ hb)
    by_cases e1 : s[m] = 119
    · have := fin _ e1 0 rfl
      rw [this] at hr
      obtain ⟨rfl, rfl⟩ := Prod.mk.inj hr
      exact split_w s m h hm hs _ rfl (key 119 (by omega) e1) w hT
    by_cases e2 : s[m] = 115
    · have := fin _ e2 1 rfl
      rw [this] at hr
      obtain ⟨rfl, rfl⟩ := Prod.mk.inj hr
      exact split_s s m h hm hs _ rfl (kno 119 (by omega) e1) (key 115 (by omega) e2) w hT
    by_cases e3 : s[m] = 117
    · have := fin _ e3 2 rfl
      rw [this] at hr
      obtain ⟨rfl, rfl⟩ := Prod.mk.inj hr
      exact split_u s m h hm hs _ rfl (kno 119 (by omega) e1) (kno 115 (by omega) e2) (key 117 (by omega) e3) w hT
    by_cases e4 : s[m] = 103
    · have := fin _ e4 2 rfl
      rw [this] at hr
      obtain ⟨rfl, rfl⟩ := Prod.mk.inj hr
      exact split_g s m h hm hs _ rfl (kno 119 (by omega) e1) (kno 115 (by omega) e2) (kno 117 (by omega) e3) (key 103 (by omega) e4) w hT
    by_cases e5 : s[m] = 122
    · have := fin _ e5 2 rfl
      rw [this] at hr
      obtain ⟨rfl, rfl⟩ := Prod.mk.inj hr
      exact split_z s m h hm hs _ rfl (kno 119 (by omega) e1) (kno 115 (by omega) e2) (kno 117 (by omega) e3) (kno 103 (by omega) e4) (key 122 (by omega) e5) w hT
    have : spl s = (s, 0) := spl_of (by
      have hn : Cl.letB s[m] = none := by
        unfold Cl.letB
        rw [if_neg e1, if_neg e2, if_neg (by simp [e3, e4, e5])]
      have := Cl.cut_no (s.extract 0 m).data.toList _ hn
      rw [hl]; exact this)
    rw [this] at hr
    obtain ⟨rfl, rfl⟩ := Prod.mk.inj hr
    exact split_no s m h hm hs _ rfl (kno 119 (by omega) e1) (kno 115 (by omega) e2) (kno 117 (by omega) e3) (kno 103 (by omega) e4) (kno 122 (by omega) e5) w hT
theorem chk_no {x b : Int} (h : ¬ ((-604799 ≤ x ∧ x ≤ 604799) ∧ (0 ≤ b ∧ b ≤ 2))) : Cl.chk x b = 2 := by
  unfold Cl.chk Cl.ok; rw [decide_eq_false h]; rfl
theorem chk_yes {x b : Int} (h : (-604799 ≤ x ∧ x ≤ 604799) ∧ (0 ≤ b ∧ b ≤ 2)) : Cl.chk x b = 0 := by
  unfold Cl.chk Cl.ok; rw [decide_eq_true h]; rfl
theorem check_any (x b r : Int) (hx : -9223372036854775808 ≤ x ∧ x ≤ 9223372036854775807) (hb : -9223372036854775808 ≤ b ∧ b ≤ 9223372036854775807) (hr : Cl.chk x b = r) (w : World) :
    Calls Tryd.prog 14 #[.agg #[.int .i64 x, .int .i64 b]] w fun e w' => e = .returned (.int .i64 r) ∧ Below w.heap.size w w' := by
  obtain ⟨hx1, hx2⟩ := hx
  obtain ⟨hb1, hb2⟩ := hb
  by_cases g1 : x < -604799
  · rw [chk_no (by omega)] at hr
    subst hr
    go_enter Tryd.func14, Tryd.ntmps14
    go_wp2
    go_ret
    exact ⟨rfl, (Below.refl _ _).alloc (Nat.le_refl _) _⟩
  by_cases g2 : 604799 < x
  · rw [chk_no (by omega)] at hr
    subst hr
    go_enter Tryd.func14, Tryd.ntmps14
    go_wp2
    go_ret
    exact ⟨rfl, (Below.refl _ _).alloc (Nat.le_refl _) _⟩
  by_cases g3 : b < 0
  · rw [chk_no (by omega)] at hr
    subst hr
    go_enter Tryd.func14, Tryd.ntmps14
    go_wp2
    go_ret
    exact ⟨rfl, (Below.refl _ _).alloc (Nat.le_refl _) _⟩
  by_cases g4 : 2 < b
  · rw [chk_no (by omega)] at hr
    subst hr
    go_enter Tryd.func14, Tryd.ntmps14
    go_wp2
    go_ret
    exact ⟨rfl, (Below.refl _ _).alloc (Nat.le_refl _) _⟩
  · rw [chk_yes (by omega)] at hr
    subst hr
    go_enter Tryd.func14, Tryd.ntmps14
    go_wp2
    go_ret
    exact ⟨rfl, (Below.refl _ _).alloc (Nat.le_refl _) _⟩
theorem of_parse_at (s : ByteArray) (hs : s.size ≤ maxLen) (y f : Int) (h : Of.parse s.data.toList = (y, f)) (w : World) (hT : CtsW w) : Calls Tryd.prog 22 #[.string s] w fun e w' => e = .returned (.tuple #[.int .i64 y, .int .i64 f]) ∧ Below w.heap.size w w' := by
  have := parse_any s w hs hT
  rw [h] at this
  exact this
theorem cut_le (l : List UInt8) : (Cl.cut l).1.length ≤ l.length := by
  unfold Cl.cut
  split
  · exact Nat.le_refl _
  · split
    · simp
    · exact Nat.le_refl _
theorem spl_size (s : ByteArray) : (spl s).1.size ≤ s.size := by
  have := cut_le s.data.toList
  unfold spl
  rw [bs_size]
  simpa using this
theorem row_bl {w w1 : World} {b : Nat} {X : Obj} (hb : Below w.heap.size w w1) (h : w.heap[b]? = some X) : w1.heap[b]? = some X := by
  have hlt : b < w.heap.size := by
    rcases Nat.lt_or_ge b w.heap.size with e | e
    · exact e
    · rw [Array.getElem?_eq_none e] at h; cases h
  rw [hb.block b hlt]; exact h
theorem clkInfo : (Tryd.prog.info? 24).map (·.size) = some 2 := by kernel_rfl
theorem clk_load {w : World} {g : Nat} {cs : Array Value} (h : w.heap[g]? = some (.cells cs 24 (0, 0))) (hs : cs.size = 2) : (loadVar 24 ⟨g, 0, none⟩).run Tryd.prog w = .ok (.agg cs) w :=
  run_loadVar_row w g _ _ cs _ _ h Tryd.underlying24 rfl (by rw [clkInfo, hs])
theorem clk_res {fn : Func} (hfn : fn.results = #[.cell 2 24, .tmp 3]) {w : World} {g : Nat} {tmps : Array Value} {f : Int} (h : w.heap[g]? = some (.cells #[.int .i64 0, .int .i64 0] 24 (0, 0))) (hp : tmps.getD 2 undef = .pointer (some ⟨g, 0, none⟩)) (hf : tmps.getD 3 undef = .int .i64 f) (x b : Int) :
    (results fn tmps).run Tryd.prog ((w.setCell ⟨g, 0, none⟩ (.int .i64 x)).setCell ⟨g, 1, none⟩ (.int .i64 b)) = .ok (.tuple #[.agg #[.int .i64 x, .int .i64 b], .int .i64 f]) ((w.setCell ⟨g, 0, none⟩ (.int .i64 x)).setCell ⟨g, 1, none⟩ (.int .i64 b)) := by
  have h2 := heap_setCell_same _ g 1 _ _ (.int .i64 b) (heap_setCell_same w g 0 _ _ (.int .i64 x) h)
  have h3 := clk_load (cs := #[.int .i64 x, .int .i64 b]) h2 rfl
  rw [results_cell_tmp hfn, hp, hf]
  simp only [asAddr, Sem.run_pure, Result.andThen_ok, h3]
theorem cparse_any (s : ByteArray) (hs : s.size ≤ maxLen) (x b f : Int) (hr : Cl.parse s.data.toList = (x, b, f)) (w : World) (hT : CtsW w) (hL : LetW w) :
    Calls Tryd.prog 10 #[.string s] w fun e w' => e = .returned (.tuple #[.agg #[.int .i64 x, .int .i64 b], .int .i64 f]) ∧ Below w.heap.size w w' := by
  obtain ⟨A, b0, hA⟩ : ∃ A b0, spl s = (A, b0) := ⟨_, _, rfl⟩
  have hsz := spl_size s
  rw [hA] at hsz
  have hAs : A.size ≤ maxLen := Nat.le_trans hsz hs
  have hc := fun w hL => lsplit_any s hs A b0 hA w hL
  obtain ⟨y, g, hp⟩ : ∃ y g, Of.parse A.data.toList = (y, g) := ⟨_, _, rfl⟩
  have hr2 : Cl.fin (y, g) b0 = (x, b, f) := by
    rw [← hr]
    unfold Cl.parse
    unfold spl at hA
    obtain ⟨e1, e2⟩ := Prod.mk.inj hA
    rw [← e2, ← hp, ← e1]
  unfold Cl.fin at hr2
  have HP := Lib.hid hp
  have HT := Lib.hid hT
  have HC := Lib.hid hc
  have HL := Lib.hid hL
  have HB0 := Lib.hid ((Below.refl w.heap.size w).alloc (Nat.le_refl _) (.cells #[.int .i64 0, .int .i64 0] 24))
  clear hr hp hT hL hA hsz hc hs
  by_cases hg : g = 0
  · rw [if_pos hg] at hr2
    obtain ⟨rfl, h2⟩ := Prod.mk.inj hr2
    obtain ⟨rfl, rfl⟩ := Prod.mk.inj h2
    clear hr2 h2
    subst hg
    go_enter Tryd.func10, Tryd.ntmps10
    go_wp2_with fail
    refine (HC.out _ (HL.out.bl HB0.out)).mono ?_
    rintro e w1 ⟨rfl, hb⟩
    have hrow := row_bl hb (row_new (w := w) (A := .cells #[.int .i64 0, .int .i64 0] 24) rfl)
    have HR := Lib.hid hrow
    clear hrow
    have HB := Lib.hid (HB0.out.trans (hb.mono HB0.out.size))
    clear hb
    go_wp2_with fail
    refine (of_parse_at A hAs y 0 HP.out _ (HT.out.bl HB.out)).mono ?_
    rintro e w2 ⟨rfl, hb⟩
    have hrow := row_bl hb HR.out
    have z0 := frozen_of_row _ _ 0 _ _ hrow
    have z1 := frozen_of_row _ _ 1 _ _ hrow
    have p0 := row_cell (o := 0) hrow rfl
    have p1 := row_cell (o := 1) hrow rfl
    replace HR := Lib.hid hrow
    clear hrow
    have HB2 := Lib.hid (HB.out.trans (hb.mono HB.out.size))
    clear hb
    go_wp2
    exact bodyPost_ret (clk_res Tryd.results10 HR.out rfl rfl _ _) rfl ⟨rfl, (HB2.out.setCell (p := ⟨w.heap.size, 0, none⟩) (Nat.le_refl _) _).setCell (p := ⟨w.heap.size, 1, none⟩) (Nat.le_refl _) _⟩
  · rw [if_neg hg] at hr2
    obtain ⟨rfl, h2⟩ := Prod.mk.inj hr2
    obtain ⟨rfl, rfl⟩ := Prod.mk.inj h2
    clear hr2 h2
    have hge : (g == 0) = false := by simpa using hg
    have hge2 : (g != 0) = true := by simpa using hg
    clear hg
    go_enter Tryd.func10, Tryd.ntmps10
    go_wp2_with fail
    refine (HC.out _ (HL.out.bl HB0.out)).mono ?_
    rintro e w1 ⟨rfl, hb⟩
    have hrow := row_bl hb (row_new (w := w) (A := .cells #[.int .i64 0, .int .i64 0] 24) rfl)
    have HR := Lib.hid hrow
    clear hrow
    have HB := Lib.hid (HB0.out.trans (hb.mono HB0.out.size))
    clear hb
    go_wp2_with fail
    refine (of_parse_at A hAs y g HP.out _ (HT.out.bl HB.out)).mono ?_
    rintro e w2 ⟨rfl, hb⟩
    have hrow := row_bl hb HR.out
    have z0 := frozen_of_row _ _ 0 _ _ hrow
    have z1 := frozen_of_row _ _ 1 _ _ hrow
    have p0 := row_cell (o := 0) hrow rfl
    have p1 := row_cell (o := 1) hrow rfl
    replace HR := Lib.hid hrow
    clear hrow
    have HB2 := Lib.hid (HB.out.trans (hb.mono HB.out.size))
    clear hb
    go_wp2
    exact bodyPost_ret (clk_res Tryd.results10 HR.out rfl rfl _ _) rfl ⟨rfl, (HB2.out.setCell (p := ⟨w.heap.size, 0, none⟩) (Nat.le_refl _) _).setCell (p := ⟨w.heap.size, 1, none⟩) (Nat.le_refl _) _⟩
theorem cprs_no {x b : Int} (h : ¬ ((-604799 ≤ x ∧ x ≤ 604799) ∧ (0 ≤ b ∧ b ≤ 2))) : Cl.prs x b = (⟨#[]⟩, 2) := by
  unfold Cl.prs Cl.ok; rw [decide_eq_false h]; rfl
theorem cprs_yes {x b : Int} (h : (-604799 ≤ x ∧ x ≤ 604799) ∧ (0 ≤ b ∧ b ≤ 2)) : Cl.prs x b = (⟨(Cl.prt x b).toArray⟩, 0) := by
  unfold Cl.prs Cl.ok; rw [decide_eq_true h]; rfl
theorem of_prs_yes {x : Int} (h1 : -604799 ≤ x) (h2 : x ≤ 604799) : prs x = (⟨(Of.prt x).toArray⟩, 0) := by unfold prs; rw [if_pos ⟨h1, h2⟩]
theorem cprint_yes (x b : Int) (k : Nat) (hk : b = (k : Int)) (h1 : -604799 ≤ x) (h2 : x ≤ 604799) (hk2 : k ≤ 2) (C : ByteArray) (w : World) (hT : CtsW w ∧ PowW w) (hC : CanW w) (hCC : ([⟨#[]⟩, ⟨#[115]⟩, ⟨#[117]⟩] : List ByteArray).getD k ⟨#[]⟩ = C) (hCs : C.size ≤ 1) (S : ByteArray) (hS : ⟨(Of.prt x).toArray⟩ ++ C = S) :
    Calls Tryd.prog 12 #[.agg #[.int .i64 x, .int .i64 b]] w fun e w' => e = .returned (.tuple #[.string S, .int .i64 0]) ∧ Below w.heap.size w w' := by
  have hcan : w.cell? ⟨0, k, none⟩ = some (.string C) := by rw [← hCC]; exact hC k (by omega)
  have HCan := Lib.hid hcan
  have HT := Lib.hid hT
  have hp := of_prs_yes h1 h2
  have hl := (Of.prt_len x).2
  have hq : ¬ 9223372036854775807 < (⟨(Of.prt x).toArray⟩ : ByteArray).size + C.size := by rw [bs_size]; omega
  have HS := Lib.hid hS
  have HX := Lib.hid (show -9223372036854775808 ≤ x ∧ x ≤ 9223372036854775807 by omega)
  have HK := Lib.hid (chk_yes (x := x) (b := b) (by omega))
  have HK2 := Lib.hid (show -9223372036854775808 ≤ b ∧ b ≤ 9223372036854775807 by omega)
  generalize (⟨(Of.prt x).toArray⟩ : ByteArray) = P at *
  have HP := Lib.hid hp
  have hk3 : (k : Int) < 3 := by omega
  subst hk
  clear hT hC hCC hl hcan hS hp h1 h2
  go_enter Tryd.func12, Tryd.ntmps12
  go_wp2_with fail
  have HB0 := Lib.hid ((Below.refl w.heap.size w).alloc (Nat.le_refl _) (.cells #[.int .i64 x, .int .i64 k] 24))
  refine (check_any x k 0 HX.out HK2.out HK.out _).mono ?_
  rintro e w1 ⟨rfl, hb⟩
  have p0 : w1.cell? ⟨w.heap.size, 0, none⟩ = some (.int .i64 x) := cell_bl hb (new_cell _ _ _ _ _ rfl)
  have p1 : w1.cell? ⟨w.heap.size, 1, none⟩ = some (.int .i64 k) := cell_bl hb (new_cell _ _ _ _ _ rfl)
  have HB := Lib.hid (HB0.out.trans (hb.mono HB0.out.size))
  clear hb
  go_wp2_with fail
  refine (print_at x HX.out P 0 HP.out _ (HT.out.1.bl HB.out) (HT.out.2.bl HB.out)).mono ?_
  rintro e w2 ⟨rfl, hb⟩
  replace p0 := cell_bl hb p0
  replace p1 := cell_bl hb p1
  have HB2 := Lib.hid (HB.out.trans (hb.mono HB.out.size))
  have hcan := cell_bl HB2.out HCan.out
  clear hb
  go_wp2
  go_ret2
  exact ⟨ret_si HS.out rfl, HB2.out⟩
theorem cprint_any (x b : Int) (hx : -9223372036854775808 ≤ x ∧ x ≤ 9223372036854775807) (hb : -9223372036854775808 ≤ b ∧ b ≤ 9223372036854775807) (S : ByteArray) (f : Int) (hS : Cl.prs x b = (S, f)) (w : World) (hT : CtsW w ∧ PowW w) (hC : CanW w) :
    Calls Tryd.prog 12 #[.agg #[.int .i64 x, .int .i64 b]] w fun e w' => e = .returned (.tuple #[.string S, .int .i64 f]) ∧ Below w.heap.size w w' := by
  by_cases h : (-604799 ≤ x ∧ x ≤ 604799) ∧ (0 ≤ b ∧ b ≤ 2)
  · rw [cprs_yes h] at hS
    obtain ⟨rfl, rfl⟩ := Prod.mk.inj hS
    obtain ⟨⟨h1, h2⟩, h3, h4⟩ := h
    have e : ∀ c : List UInt8, (⟨(Of.prt x).toArray⟩ ++ ⟨c.toArray⟩ : ByteArray) = ⟨(Of.prt x ++ c).toArray⟩ := fun c => app_bs _ _
    have : b = 0 ∨ b = 1 ∨ b = 2 := by omega
    rcases this with rfl | rfl | rfl
    · exact cprint_yes x 0 0 rfl h1 h2 (by omega) ⟨#[]⟩ w hT hC rfl (by decide) _ (e [])
    · exact cprint_yes x 1 1 rfl h1 h2 (by omega) ⟨#[115]⟩ w hT hC rfl (by decide) _ (e [115])
    · exact cprint_yes x 2 2 rfl h1 h2 (by omega) ⟨#[117]⟩ w hT hC rfl (by decide) _ (e [117])
  · rw [cprs_no h] at hS
    obtain ⟨rfl, rfl⟩ := Prod.mk.inj hS
    have HX := Lib.hid hx
    have HB := Lib.hid hb
    have HK := Lib.hid (chk_no h)
    clear hS hT hC h hx hb
    go_enter Tryd.func12, Tryd.ntmps12
    go_wp2_with fail
    have HB0 := Lib.hid ((Below.refl w.heap.size w).alloc (Nat.le_refl _) (.cells #[.int .i64 x, .int .i64 b] 24))
    refine (check_any x b 2 HX.out HB.out HK.out _).mono ?_
    rintro e w1 ⟨rfl, hb⟩
    have HB1 := Lib.hid (HB0.out.trans (hb.mono HB0.out.size))
    clear hb
    go_wp2
    go_ret2
    exact ⟨rfl, HB1.out⟩
end Go.Proofs.YteahckmpjihcaaaDoor
