/- The examples of chapter 3 hold: the function works of the statements about layer 3 returns true. -/
import Derived.Test.YtejdeaacpjgjiaaChs
import Derived.Deep.LoopGhost
namespace Go.Proofs.Ytejdeaacpjgjiaa
open Go.RowKit

/-- the cells of the examples: row i, field j -/
def exCell (i j : Nat) : Value := match j with
  | 0 => .func (.func (exRow i).1) #[] #[]
  | 1 => .int .i64 (exRow i).2.1
  | 2 => .int .i64 (exRow i).2.2.1
  | 3 => .int .i64 (exRow i).2.2.2.1
  | _ => .bool (exRow i).2.2.2.2
theorem ex_split (i : Nat) (hi : i < 19) : i = 0 ∨ i = 1 ∨ i = 2 ∨ i = 3 ∨ i = 4 ∨ i = 5 ∨ i = 6 ∨ i = 7 ∨ i = 8 ∨ i = 9 ∨ i = 10 ∨ i = 11 ∨ i = 12 ∨ i = 13 ∨ i = 14 ∨ i = 15 ∨ i = 16 ∨ i = 17 ∨ i = 18 := by omega
/-- each example is true; the functions that the examples name are there -/
theorem ex_enters (i : Nat) (hi : i < 19) : ∀ args w, (callFunc (exRow i).1 args).run Try.prog w = .ok (.enter (exRow i).1 args) w := by
  rcases ex_split i hi with rfl | rfl | rfl | rfl | rfl | rfl | rfl | rfl | rfl | rfl | rfl | rfl | rfl | rfl | rfl | rfl | rfl | rfl | rfl
  all_goals first
    | exact enters_of Try.func9 (by kernel_rfl) rfl
    | exact enters_of Try.func11 (by kernel_rfl) rfl
    | exact enters_of Try.func13 (by kernel_rfl) rfl
    | exact enters_of Try.func15 (by kernel_rfl) rfl
    | exact enters_of Try.func17 (by kernel_rfl) rfl
theorem ints_new (w : World) (t : TypeId) (x y z : Int) : Ints (w.alloc (.cells #[.int .i64 x, .int .i64 y, .int .i64 z] t)) (.slice (some ⟨w.heap.size, 0, none⟩) 3 3) [x, y, z] := by
  refine .inr ⟨_, 0, 3, rfl, by simp, by simp, fun j hj => ?_⟩
  have : j = 0 ∨ j = 1 ∨ j = 2 := by simp at hj; omega
  rcases this with rfl | rfl | rfl <;> exact new_cell _ _ _ _ _ rfl
theorem ints_nil (w : World) : Ints w (.slice none 0 0) [] := .inl ⟨_, _, rfl, rfl⟩
theorem sum_at (sv : Value) (zs : List Int) (r : Int) (c : Bool) {w : World} (hI : Ints w sv zs) (hl : zs.length ≤ 1000 ∧ ∀ n ∈ zs, Ck.fit n = true) (h : Ck.okS (nth zs) zs.length = c ∧ (if c then Ck.S (nth zs) zs.length else 0) = r) :
    Calls Try.prog 22 #[sv] w fun e w' => e = .returned (.tuple #[.int .i64 r, .bool c]) ∧ Below w.heap.size w w' := by
  obtain ⟨rfl, rfl⟩ := h
  exact sum_any sv zs (by omega) hl.2 w hI
theorem szEx : (Try.prog.info? 41).map (·.size) = some 5 := by kernel_rfl
set_option maxRecDepth 100000 in
set_option maxHeartbeats 4000000 in
theorem works3_any (w : World) : Calls Try.prog 20 #[] w fun e w' => e = .returned (.bool true) ∧ Below w.heap.size w w' := by
  go_enter Try.func20, Try.ntmps20
  go_wp2
  generalize hW : World.alloc w _ = W1
  have hc : ∀ i j, i < 19 → j < 5 → W1.cell? ⟨w.heap.size, i * 5 + j, none⟩ = some (exCell i j) := by
    intro i j hi hj
    rw [← hW]
    refine new_cell _ _ _ _ _ ?_
    have h5 : j = 0 ∨ j = 1 ∨ j = 2 ∨ j = 3 ∨ j = 4 := by omega
    rcases ex_split i hi with rfl | rfl | rfl | rfl | rfl | rfl | rfl | rfl | rfl | rfl | rfl | rfl | rfl | rfl | rfl | rfl | rfl | rfl | rfl <;> rcases h5 with rfl | rfl | rfl | rfl | rfl <;> rfl
  have hB : Below w.heap.size w W1 := by rw [← hW]; exact (Below.refl _ w).alloc (Nat.le_refl _) _
  have hz : w.heap.size < W1.heap.size := by rw [← hW]; simp
  have HC := Lib.hid hc
  have HB := Lib.hid hB
  clear hc hB hW
  go_loopw [32] (fun i wr => ∃ k : Nat, k ≤ 19 ∧ i = .int .i64 k ∧ Below W1.heap.size W1 wr) (fun i _ => 19 - (intOf i).toNat)
  case atStart => exact ⟨0, by omega, rfl, Below.refl _ _⟩
  case round =>
    obtain ⟨k, hk, rfl, hb⟩ := hrel
    by_cases hk3 : k < 19
    · have cs : ∀ j, j < 5 → wr.cell? ⟨w.heap.size, k * 5 + j, none⟩ = some (exCell k j) := fun j hj => (hb.cell (p := ⟨w.heap.size, k * 5 + j, none⟩) hz).trans (HC.out k j hk3 hj)
      have hE := ex_enters k hk3
      have hX := Lib.hid (ex_calls k hk3)
      have c0 : wr.cell? ⟨w.heap.size, k * 5, none⟩ = some (.func (.func (exRow k).1) #[] #[]) := cs 0 (by omega)
      have c1 : wr.cell? ⟨w.heap.size, k * 5 + 1, none⟩ = some (.int .i64 (exRow k).2.1) := cs 1 (by omega)
      have c2 : wr.cell? ⟨w.heap.size, k * 5 + 2, none⟩ = some (.int .i64 (exRow k).2.2.1) := cs 2 (by omega)
      have c3 : wr.cell? ⟨w.heap.size, k * 5 + 3, none⟩ = some (.int .i64 (exRow k).2.2.2.1) := cs 3 (by omega)
      have c4 : wr.cell? ⟨w.heap.size, k * 5 + 4, none⟩ = some (.bool (exRow k).2.2.2.2) := cs 4 (by omega)
      generalize (exRow k).1 = F at *
      generalize (exRow k).2.1 = a at *
      generalize (exRow k).2.2.1 = b at *
      generalize (exRow k).2.2.2.1 = v at *
      generalize (exRow k).2.2.2.2 = o at *
      have HB2 := Lib.hid hb
      clear cs hb
      go_wp2_with (first | (go_at_fn F; refine (hX.out _).mono ?_; rintro e w' ⟨rfl, rfl⟩) | (go_at_call 19; refine (is_yes _ _ _ _ rfl rfl _).mono ?_; rintro e w' ⟨rfl, rfl⟩) | (refine wpList_store_row rfl 41 _ _ rfl wr.heap.size #[.func (.func F) #[] #[], .int .i64 a, .int .i64 b, .int .i64 v, .bool o] rfl rfl _ _ (heap_alloc_last wr _) szEx rfl (by simp [Value.oneCell']) ?_; rw [World.setRow_alloc_new]))
      go_roundw
      case rel => exact ⟨k + 1, by omega, by go_num, HB2.out.alloc HB2.out.size _⟩
      case measure => simp [intOf]; omega
    · obtain rfl : k = 19 := by omega
      have HW : Hid (Bs w wr) := Lib.hid (Below.trans HB.out (hb.mono HB.out.size))
      clear hb
      go_wp2_with fail
      refine (sum_at _ _ 0 false (ints_new wr _ 9223372036854775807 1 (-1)) (by decide) (by decide)).mono ?_; rintro e w1 ⟨rfl, hd⟩; replace HW := Bs.hbl (Bs.hal HW _) hd; clear hd
      go_wp2_with fail
      refine (sum_at _ _ 9223372036854775807 true (ints_new w1 _ 9223372036854775807 (-1) 1) (by decide) (by decide)).mono ?_; rintro e w2 ⟨rfl, hd⟩; replace HW := Bs.hbl (Bs.hal HW _) hd; clear hd
      go_wp2_with fail
      refine (sum_at _ _ 0 true (ints_nil w2) (by decide) (by decide)).mono ?_; rintro e w3 ⟨rfl, hd⟩; replace HW := Bs.hbl HW hd; clear hd
      go_wp2_with (go_at_call 19; refine (is_yes _ _ _ _ rfl rfl _).mono ?_; rintro e w' ⟨rfl, rfl⟩)
      go_ret
      exact ⟨rfl, HW.out⟩
end Go.Proofs.Ytejdeaacpjgjiaa
