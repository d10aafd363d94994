/- The examples of chapter 9 hold: the function works of the statements about layer 9 returns true. -/
import Derived.Test.YtedcfnaphfgfjaaDoorDyg
import Derived.Deep.LoopGhost
namespace Go.Proofs.YtedcfnaphfgfjaaDoor
open Go.RowKit Go.Shelf
/-- the examples: a string, what is wanted -/
def exRow : Nat → ByteArray × (Int × Int × Int) × Int
  | 0 => (⟨#[49, 53]⟩, (1, 0, 15), 0)
  | 1 => (⟨#[108, 97, 115, 116, 83, 117, 110]⟩, (2, 0, 0), 0)
  | 2 => (⟨#[83, 117, 110, 62, 61, 56]⟩, (3, 0, 8), 0)
  | 3 => (⟨#[115, 117, 110, 100, 97, 121, 60, 61, 50, 53]⟩, (4, 0, 25), 0)
  | 4 => (⟨#[76, 65, 83, 84, 109]⟩, (2, 1, 0), 0)
  | 5 => (⟨#[48]⟩, (0, 0, 0), 5)
  | 6 => (⟨#[48, 53]⟩, (0, 0, 0), 5)
  | 7 => (⟨#[51, 50]⟩, (0, 0, 0), 3)
  | 8 => (⟨#[83, 117, 110]⟩, (0, 0, 0), 5)
  | 9 => (⟨#[]⟩, (0, 0, 0), 5)
  | 10 => (⟨#[83, 117, 110, 61, 56]⟩, (0, 0, 0), 5)
  | 11 => (⟨#[108, 97, 115, 116]⟩, (0, 0, 0), 8)
  | 12 => (⟨#[108, 97, 115, 116, 83]⟩, (0, 0, 0), 8)
  | 13 => (⟨#[62, 61, 56]⟩, (0, 0, 0), 8)
  | 14 => (⟨#[83, 117, 110, 62, 61]⟩, (0, 0, 0), 5)
  | 15 => (⟨#[83, 117, 110, 62, 56]⟩, (0, 0, 0), 5)
  | _ => (⟨#[83, 62, 61, 57, 57]⟩, (0, 0, 0), 8)
def exCell (i j : Nat) : Value := match j with
  | 0 => .string (exRow i).1
  | 1 => .int .i64 (exRow i).2.1.1
  | 2 => .int .i64 (exRow i).2.1.2.1
  | 3 => .int .i64 (exRow i).2.1.2.2
  | _ => .int .i64 (exRow i).2.2
theorem ex_split (i : Nat) (hi : i < 17) : i = 0 ∨ i = 1 ∨ i = 2 ∨ i = 3 ∨ i = 4 ∨ i = 5 ∨ i = 6 ∨ i = 7 ∨ i = 8 ∨ i = 9 ∨ i = 10 ∨ i = 11 ∨ i = 12 ∨ i = 13 ∨ i = 14 ∨ i = 15 ∨ i = 16 := by omega
theorem ex_parse : ∀ i : Nat, i < 17 → Dy.parse (exRow i).1.data.toList = ((exRow i).2.1, (exRow i).2.2) ∧ (exRow i).1.size < 4294967281 := by decide +kernel
theorem szEx : (Tryd.prog.info? 45).map (·.size) = some 5 := by kernel_rfl
theorem beq_selfI (a : Int) : (a == a) = true := by simp
theorem neq_self (a : Int) : (a != a) = false := by simp
set_option maxRecDepth 100000 in
set_option maxHeartbeats 8000000 in
theorem works9_s {W0 w : World} (HC : Hid (Ys W0 w)) : Calls Tryd.prog 7 #[] w fun e w' => e = .returned (.bool true) ∧ Below w.heap.size w w' ∧ Hid (Ys W0 w') := by
  have HC0 : Hid (Ys w w) := Lib.hid ⟨Below.refl _ w, HC.out.2⟩
  have HCC := HC
  clear HC
  go_enter Tryd.func7, Tryd.ntmps7
  go_wp2
  generalize hW : World.alloc w _ = W1
  have hc : ∀ i j, i < 17 → j < 5 → W1.cell? ⟨w.heap.size, i * 5 + j, none⟩ = some (exCell i j) := by
    intro i j hi hj
    rw [← hW]
    refine new_cell _ _ _ _ _ ?_
    have h5 : j = 0 ∨ j = 1 ∨ j = 2 ∨ j = 3 ∨ j = 4 := by omega
    rcases ex_split i hi with rfl | rfl | rfl | rfl | rfl | rfl | rfl | rfl | rfl | rfl | rfl | rfl | rfl | rfl | rfl | rfl | rfl <;> rcases h5 with rfl | rfl | rfl | rfl | rfl <;> rfl
  have HC1 : Hid (Ys w W1) := by rw [← hW]; exact Ys.hal HC0 _
  have hz : w.heap.size < W1.heap.size := by rw [← hW]; simp
  have H := Lib.hid hc
  clear hc hW HC0
  go_loopw [45] (fun i wr => ∃ k : Nat, k ≤ 17 ∧ i = .int .i64 k ∧ Below W1.heap.size W1 wr ∧ Hid (Ys w wr)) (fun i _ => 17 - (intOf i).toNat)
  case atStart => exact ⟨0, by omega, rfl, Below.refl _ _, HC1⟩
  case round =>
    obtain ⟨k, hk, rfl, hb, HR⟩ := hrel
    by_cases hk3 : k < 17
    · have cs : ∀ j, j < 5 → wr.cell? ⟨w.heap.size, k * 5 + j, none⟩ = some (exCell k j) := fun j hj => (hb.cell (p := ⟨w.heap.size, k * 5 + j, none⟩) hz).trans (H.out k j hk3 hj)
      have hX := ex_parse k hk3
      have c0 : wr.cell? ⟨w.heap.size, k * 5, none⟩ = some (.string (exRow k).1) := cs 0 (by omega)
      have c1 : wr.cell? ⟨w.heap.size, k * 5 + 1, none⟩ = some (.int .i64 (exRow k).2.1.1) := cs 1 (by omega)
      have c2 : wr.cell? ⟨w.heap.size, k * 5 + 2, none⟩ = some (.int .i64 (exRow k).2.1.2.1) := cs 2 (by omega)
      have c3 : wr.cell? ⟨w.heap.size, k * 5 + 3, none⟩ = some (.int .i64 (exRow k).2.1.2.2) := cs 3 (by omega)
      have c4 : wr.cell? ⟨w.heap.size, k * 5 + 4, none⟩ = some (.int .i64 (exRow k).2.2) := cs 4 (by omega)
      generalize exRow k = R at *
      obtain ⟨s, ⟨a, b, c⟩, e⟩ := R
      dsimp only at hX c0 c1 c2 c3 c4
      have HX := Lib.hid hX.1
      have HS := Lib.hid hX.2
      have HB2 := Lib.hid hb
      have ha := beq_selfI a
      have hbb := beq_selfI b
      have hcc := beq_selfI c
      have ho := neq_self e
      clear cs hb hX
      go_wp2_with (first | (refine wpList_store_row rfl 45 _ _ rfl wr.heap.size #[.string s, .int .i64 a, .int .i64 b, .int .i64 c, .int .i64 e] rfl rfl _ _ (heap_alloc_last wr _) szEx rfl (by simp [Value.oneCell']) ?_; rw [World.setRow_alloc_new]) | (go_at_call 8; refine (yParse_s s HS.out a b c e HX (Ys.hal HR _)).mono ?_; rintro x w' ⟨rfl, hd, HR2⟩; have t1 := cell_bl hd (new_cell wr #[.string s, .int .i64 a, .int .i64 b, .int .i64 c, .int .i64 e] 45 1 _ rfl); have t2 := cell_bl hd (new_cell wr #[.string s, .int .i64 a, .int .i64 b, .int .i64 c, .int .i64 e] 45 2 _ rfl); have t3 := cell_bl hd (new_cell wr #[.string s, .int .i64 a, .int .i64 b, .int .i64 c, .int .i64 e] 45 3 _ rfl); have t4 := cell_bl hd (new_cell wr #[.string s, .int .i64 a, .int .i64 b, .int .i64 c, .int .i64 e] 45 4 _ rfl); have u1 := fun O => cell_al (A := O) t1; have u2 := fun O => cell_al (A := O) t2; have u3 := fun O => cell_al (A := O) t3; have u4 := fun O => cell_al (A := O) t4))
      go_roundw
      case rel => exact ⟨k + 1, by omega, by go_num, ((HB2.out.alloc HB2.out.size _).trans (hd.mono (by simp; have := HB2.out.size; omega))).alloc (by have := hd.size; simp at this; have := HB2.out.size; omega) _, Ys.hal HR2 _⟩
      case measure => simp [intOf]; omega
    · obtain rfl : k = 17 := by omega
      clear H HC1 hb
      have hE := str_refl ⟨#[83, 117, 110, 60, 61, 50, 53]⟩
      go_wp2_with fail
      refine (yPrint_s 4 0 25 ⟨#[83, 117, 110, 60, 61, 50, 53]⟩ 0 (Lib.hid (by decide +kernel)) HR).mono ?_; rintro e w1 ⟨rfl, _, HR⟩
      go_wp2_with fail
      refine (yPrint_s 1 0 0 ⟨#[]⟩ 2 (Lib.hid (by decide +kernel)) HR).mono ?_; rintro e w2 ⟨rfl, _, HR⟩
      go_wp2
      go_ret
      exact ⟨rfl, HR.out.1, Ys.hbl HCC HR.out.1⟩
end Go.Proofs.YtedcfnaphfgfjaaDoor
