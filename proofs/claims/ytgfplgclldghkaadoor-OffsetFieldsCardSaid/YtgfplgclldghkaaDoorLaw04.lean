/- The examples of chapter 4 hold: the function works of the statements about layer 4 returns true. -/
import Derived.Test.YtgfplgclldghkaaDoorOfn
import Derived.Deep.LoopGhost
import Derived.Deep.WholeRow
namespace Go.Proofs.YtgfplgclldghkaaDoor
open Go.RowKit
theorem parse_at (s : ByteArray) (hs : s.size ≤ maxLen) (y f : Int) (h : Of.parse s.data.toList = (y, f)) (w : World) (hT : CtsW w) : Calls Tryd.prog 11 #[.string s] w fun e w' => e = .returned (.tuple #[.int .i64 y, .int .i64 f]) ∧ Below w.heap.size w w' := by
  have := parse_any s w hs hT
  rw [h] at this
  exact this
/-- the examples: a string, what it is read as, the error -/
def ex1 (i : Nat) : List UInt8 × Int × Int := [([48], 0, 0), ([49], 3600, 0), ([49, 58, 51, 48], 5400, 0), ([45, 49, 58, 51, 48], -5400, 0), ([48, 58, 48, 48, 58, 48, 49], 1, 0), ([45, 48, 58, 48, 48, 58, 48, 49], -1, 0), ([49, 54, 55, 58, 53, 57, 58, 53, 57], 604799, 0), ([49, 54, 56], 0, 3), ([57, 57, 57, 58, 53, 57, 58, 53, 57], 0, 3), ([], 0, 5), ([45], 0, 5), ([45, 48], 0, 5), ([45, 48, 58, 48, 48], 0, 5), ([48, 49], 0, 5), ([49, 58, 53], 0, 5), ([49, 58, 54, 48], 0, 5), ([49, 58, 48, 48, 58], 0, 5), ([43, 49], 0, 5), ([49, 48, 48, 48], 0, 5), ([49, 58, 48, 48, 58, 48, 48, 58, 48, 48], 0, 5)].getD i ([], 0, 5)
/-- a number, its string, the error -/
def ex2 (i : Nat) : Int × List UInt8 × Int := [(0, [48, 58, 48, 48], 0), (3600, [49, 58, 48, 48], 0), (-5400, [45, 49, 58, 51, 48], 0), (1, [48, 58, 48, 48, 58, 48, 49], 0), (-604799, [45, 49, 54, 55, 58, 53, 57, 58, 53, 57], 0), (604800, [], 3), (-9223372036854775808, [], 3)].getD i (0, [], 0)
theorem ex1_split (i : Nat) (hi : i < 20) : i = 0 ∨ i = 1 ∨ i = 2 ∨ i = 3 ∨ i = 4 ∨ i = 5 ∨ i = 6 ∨ i = 7 ∨ i = 8 ∨ i = 9 ∨ i = 10 ∨ i = 11 ∨ i = 12 ∨ i = 13 ∨ i = 14 ∨ i = 15 ∨ i = 16 ∨ i = 17 ∨ i = 18 ∨ i = 19 := by omega
theorem ex2_split (i : Nat) (hi : i < 7) : i = 0 ∨ i = 1 ∨ i = 2 ∨ i = 3 ∨ i = 4 ∨ i = 5 ∨ i = 6 := by omega
theorem ex1_true (i : Nat) (hi : i < 20) : Of.parse (ex1 i).1 = ((ex1 i).2.1, (ex1 i).2.2) ∧ (ex1 i).1.length ≤ 10 := by
  rcases ex1_split i hi with rfl | rfl | rfl | rfl | rfl | rfl | rfl | rfl | rfl | rfl | rfl | rfl | rfl | rfl | rfl | rfl | rfl | rfl | rfl | rfl <;> decide +kernel
theorem ex2_true (i : Nat) (hi : i < 7) : prs (ex2 i).1 = (⟨(ex2 i).2.1.toArray⟩, (ex2 i).2.2) ∧ (-9223372036854775808 ≤ (ex2 i).1 ∧ (ex2 i).1 ≤ 9223372036854775807) := by
  rcases ex2_split i hi with rfl | rfl | rfl | rfl | rfl | rfl | rfl <;> decide +kernel
def cell1 (i j : Nat) : Value := match j with
  | 0 => .string ⟨(ex1 i).1.toArray⟩
  | 1 => .int .i64 (ex1 i).2.1
  | _ => .int .i64 (ex1 i).2.2
def cell2 (i j : Nat) : Value := match j with
  | 0 => .int .i64 (ex2 i).1
  | 1 => .string ⟨(ex2 i).2.1.toArray⟩
  | _ => .int .i64 (ex2 i).2.2
theorem szE1 : (Tryd.prog.info? 43).map (·.size) = some 3 := by kernel_rfl
theorem szE2 : (Tryd.prog.info? 45).map (·.size) = some 3 := by kernel_rfl
set_option maxRecDepth 100000 in
set_option maxHeartbeats 4000000 in
theorem works4_any (W0 : World) (hT : CtsW W0) (hP : PowW W0) : Calls Tryd.prog 10 #[] W0 fun e w' => e = .returned (.bool true) ∧ Below W0.heap.size W0 w' := by
  have HS := Lib.hid (Ps.mk0 hT hP)
  clear hT hP
  go_enter Tryd.func10, Tryd.ntmps10
  go_wp2
  generalize hW : World.alloc W0 _ = W1
  have hc : ∀ i j, i < 20 → j < 3 → W1.cell? ⟨W0.heap.size, i * 3 + j, none⟩ = some (cell1 i j) := by
    intro i j hi hj
    rw [← hW]
    refine new_cell _ _ _ _ _ ?_
    have h3 : j = 0 ∨ j = 1 ∨ j = 2 := by omega
    rcases ex1_split i hi with rfl | rfl | rfl | rfl | rfl | rfl | rfl | rfl | rfl | rfl | rfl | rfl | rfl | rfl | rfl | rfl | rfl | rfl | rfl | rfl <;> rcases h3 with rfl | rfl | rfl <;> rfl
  have HS1 : Hid (Ps W0 W1) := by rw [← hW]; exact Ps.hal HS _
  have hz : W0.heap.size < W1.heap.size := by rw [← hW]; simp
  have HC := Lib.hid hc
  clear hc hW HS
  go_loopw [31] (fun i wr => ∃ k : Nat, k ≤ 20 ∧ i = .int .i64 k ∧ Below W1.heap.size W1 wr) (fun i _ => 20 - (intOf i).toNat)
  case atStart => exact ⟨0, by omega, rfl, Below.refl _ _⟩
  case round =>
    obtain ⟨k, hk, rfl, hb⟩ := hrel
    have HP := Lib.hid (HS1.out.bl hb)
    by_cases hk3 : k < 20
    · have cs : ∀ j, j < 3 → wr.cell? ⟨W0.heap.size, k * 3 + j, none⟩ = some (cell1 k j) := fun j hj => (hb.cell (p := ⟨W0.heap.size, k * 3 + j, none⟩) hz).trans (HC.out k j hk3 hj)
      obtain ⟨hx, hl⟩ := ex1_true k hk3
      have hls : (⟨(ex1 k).1.toArray⟩ : ByteArray).size ≤ maxLen := by rw [bs_size]; unfold maxLen; omega
      have hx2 : Of.parse (⟨(ex1 k).1.toArray⟩ : ByteArray).data.toList = ((ex1 k).2.1, (ex1 k).2.2) := hx
      have HX := Lib.hid hx2
      have HL := Lib.hid hls
      have c0 : wr.cell? ⟨W0.heap.size, k * 3, none⟩ = some (.string ⟨(ex1 k).1.toArray⟩) := cs 0 (by omega)
      have c1 : wr.cell? ⟨W0.heap.size, k * 3 + 1, none⟩ = some (.int .i64 (ex1 k).2.1) := cs 1 (by omega)
      have c2 : wr.cell? ⟨W0.heap.size, k * 3 + 2, none⟩ = some (.int .i64 (ex1 k).2.2) := cs 2 (by omega)
      clear cs hx hl hx2 hls
      generalize (⟨(ex1 k).1.toArray⟩ : ByteArray) = S at *
      generalize (ex1 k).2.1 = v at *
      generalize (ex1 k).2.2 = f at *
      have HB2 := Lib.hid hb
      clear hb
      go_wp2_with fail
      refine (parse_at S HL.out v f HX.out _ (Ps.hal HP _).out.2.1).mono ?_
      rintro e w2 ⟨rfl, hb⟩
      have d1 : w2.cell? ⟨wr.heap.size, 1, none⟩ = some (.int .i64 v) := cell_bl hb (new_cell _ _ _ _ _ rfl)
      have d2 : w2.cell? ⟨wr.heap.size, 2, none⟩ = some (.int .i64 f) := cell_bl hb (new_cell _ _ _ _ _ rfl)
      have HB3 := Lib.hid (((HB2.out.alloc HB2.out.size _).trans (hb.mono (by have := HB2.out.size; simp; omega)) : Below W1.heap.size W1 w2))
      clear hb
      go_wp2
      go_roundw
      case rel => exact ⟨k + 1, by omega, by go_num, HB3.out⟩
      case measure => simp [intOf]; omega
    · obtain rfl : k = 20 := by omega
      clear hb HC hz HS1
      go_wp2
      generalize hW : World.alloc wr _ = W2
      have hc : ∀ i j, i < 7 → j < 3 → W2.cell? ⟨wr.heap.size, i * 3 + j, none⟩ = some (cell2 i j) := by
        intro i j hi hj
        rw [← hW]
        refine new_cell _ _ _ _ _ ?_
        have h3 : j = 0 ∨ j = 1 ∨ j = 2 := by omega
        rcases ex2_split i hi with rfl | rfl | rfl | rfl | rfl | rfl | rfl <;> rcases h3 with rfl | rfl | rfl <;> rfl
      have HS1 : Hid (Ps W0 W2) := by rw [← hW]; exact Ps.hal HP _
      have hz : wr.heap.size < W2.heap.size := by rw [← hW]; simp
      have HC := Lib.hid hc
      clear hc hW HP
      generalize wr.heap.size = b1 at *
      go_loopw [61] (fun i wr => ∃ k : Nat, k ≤ 7 ∧ i = .int .i64 k ∧ Below W2.heap.size W2 wr) (fun i _ => 7 - (intOf i).toNat)
      case atStart => exact ⟨0, by omega, rfl, Below.refl _ _⟩
      case round =>
        obtain ⟨k, hk, rfl, hb⟩ := hrel
        have HP := Lib.hid (HS1.out.bl hb)
        by_cases hk3 : k < 7
        · have cs : ∀ j, j < 3 → wr.cell? ⟨b1, k * 3 + j, none⟩ = some (cell2 k j) := fun j hj => (hb.cell (p := ⟨b1, k * 3 + j, none⟩) hz).trans (HC.out k j hk3 hj)
          obtain ⟨hx, hl⟩ := ex2_true k hk3
          have HX := Lib.hid hx
          have HL := Lib.hid hl
          have c0 : wr.cell? ⟨b1, k * 3, none⟩ = some (.int .i64 (ex2 k).1) := cs 0 (by omega)
          have c1 : wr.cell? ⟨b1, k * 3 + 1, none⟩ = some (.string ⟨(ex2 k).2.1.toArray⟩) := cs 1 (by omega)
          have c2 : wr.cell? ⟨b1, k * 3 + 2, none⟩ = some (.int .i64 (ex2 k).2.2) := cs 2 (by omega)
          clear cs hx hl
          generalize (⟨(ex2 k).2.1.toArray⟩ : ByteArray) = S at *
          generalize (ex2 k).1 = v at *
          generalize (ex2 k).2.2 = f at *
          have HB2 := Lib.hid hb
          clear hb
          go_wp2_with fail
          refine (print_at v HL.out S f HX.out _ (Ps.hal HP _).out.2.1 (Ps.hal HP _).out.2.2).mono ?_
          rintro e w2 ⟨rfl, hb⟩
          have d1 : w2.cell? ⟨wr.heap.size, 1, none⟩ = some (.string S) := cell_bl hb (new_cell _ _ _ _ _ rfl)
          have d2 : w2.cell? ⟨wr.heap.size, 2, none⟩ = some (.int .i64 f) := cell_bl hb (new_cell _ _ _ _ _ rfl)
          have HB3 := Lib.hid (((HB2.out.alloc HB2.out.size _).trans (hb.mono (by have := HB2.out.size; simp; omega)) : Below W2.heap.size W2 w2))
          clear hb
          go_wp2
          go_roundw
          case rel => (repeat apply Exists.intro); exact ⟨⟨k + 1, by omega, by go_num, HB3.out⟩, rfl⟩
          case measure => simp [intOf]; omega
        · obtain rfl : k = 7 := by omega
          clear hb
          go_wp2
          go_ret
          exact ⟨rfl, HP.out.1⟩
end Go.Proofs.YtgfplgclldghkaaDoor
