/- The examples of chapter 8 hold: the function works of the statements about layer 8 returns true. -/
import Derived.Test.YtiompmplnmkakaaDoorWdf
import Derived.Deep.LoopGhost
namespace Go.Proofs.YtiompmplnmkakaaDoor
open Go.RowKit
/-- the examples: a function, a string, what is wanted -/
def exRow : Nat → Nat × ByteArray × Int × Int
  | 0 => (11, ⟨#[82, 117, 108, 101]⟩, 1, 0)
  | 1 => (11, ⟨#[122]⟩, 2, 0)
  | 2 => (11, ⟨#[76, 73]⟩, 3, 0)
  | 3 => (11, ⟨#[114, 117, 108, 101, 115]⟩, 0, 8)
  | 4 => (11, ⟨#[]⟩, 0, 8)
  | 5 => (13, ⟨#[74, 97, 110]⟩, 1, 0)
  | 6 => (13, ⟨#[106, 97]⟩, 1, 0)
  | 7 => (13, ⟨#[106]⟩, 0, 8)
  | 8 => (13, ⟨#[106, 117, 110]⟩, 6, 0)
  | 9 => (13, ⟨#[106, 117]⟩, 0, 8)
  | 10 => (13, ⟨#[109, 97]⟩, 0, 8)
  | 11 => (13, ⟨#[109, 97, 121]⟩, 5, 0)
  | 12 => (13, ⟨#[68]⟩, 12, 0)
  | 13 => (15, ⟨#[83, 85, 78]⟩, 0, 0)
  | 14 => (15, ⟨#[115]⟩, 0, 8)
  | 15 => (15, ⟨#[116]⟩, 0, 8)
  | 16 => (15, ⟨#[116, 104]⟩, 4, 0)
  | 17 => (15, ⟨#[109]⟩, 1, 0)
  | 18 => (15, ⟨#[115, 117, 110, 100, 97, 121, 115]⟩, 0, 8)
  | 19 => (17, ⟨#[111, 110, 108, 121]⟩, 1, 0)
  | 20 => (17, ⟨#[109, 97, 120]⟩, 2, 0)
  | 21 => (17, ⟨#[109]⟩, 2, 0)
  | _ => (17, ⟨#[109, 105, 110, 105, 109, 117, 109]⟩, 0, 8)
def exCell (i j : Nat) : Value := match j with
  | 0 => .func (.func (exRow i).1) #[] #[]
  | 1 => .string (exRow i).2.1
  | 2 => .int .i64 (exRow i).2.2.1
  | _ => .int .i64 (exRow i).2.2.2
theorem ex_split (i : Nat) (hi : i < 23) : i = 0 ∨ i = 1 ∨ i = 2 ∨ i = 3 ∨ i = 4 ∨ i = 5 ∨ i = 6 ∨ i = 7 ∨ i = 8 ∨ i = 9 ∨ i = 10 ∨ i = 11 ∨ i = 12 ∨ i = 13 ∨ i = 14 ∨ i = 15 ∨ i = 16 ∨ i = 17 ∨ i = 18 ∨ i = 19 ∨ i = 20 ∨ i = 21 ∨ i = 22 := by omega
theorem enters_line (args : Array Value) (w : World) : (callFunc 11 args).run Tryd.prog w = .ok (.enter 11 args) w := enters_of Tryd.func11 (by kernel_rfl) rfl args w
theorem enters_month (args : Array Value) (w : World) : (callFunc 13 args).run Tryd.prog w = .ok (.enter 13 args) w := enters_of Tryd.func13 (by kernel_rfl) rfl args w
theorem enters_week (args : Array Value) (w : World) : (callFunc 15 args).run Tryd.prog w = .ok (.enter 15 args) w := enters_of Tryd.func15 (by kernel_rfl) rfl args w
theorem enters_to (args : Array Value) (w : World) : (callFunc 17 args).run Tryd.prog w = .ok (.enter 17 args) w := enters_of Tryd.func17 (by kernel_rfl) rfl args w
theorem ex_enters (i : Nat) (hi : i < 23) : ∀ args w, (callFunc (exRow i).1 args).run Tryd.prog w = .ok (.enter (exRow i).1 args) w := by
  rcases ex_split i hi with rfl | rfl | rfl | rfl | rfl | rfl | rfl | rfl | rfl | rfl | rfl | rfl | rfl | rfl | rfl | rfl | rfl | rfl | rfl | rfl | rfl | rfl | rfl
  · exact enters_line
  · exact enters_line
  · exact enters_line
  · exact enters_line
  · exact enters_line
  · exact enters_month
  · exact enters_month
  · exact enters_month
  · exact enters_month
  · exact enters_month
  · exact enters_month
  · exact enters_month
  · exact enters_month
  · exact enters_week
  · exact enters_week
  · exact enters_week
  · exact enters_week
  · exact enters_week
  · exact enters_week
  · exact enters_to
  · exact enters_to
  · exact enters_to
  · exact enters_to
theorem ex_calls (i : Nat) (hi : i < 23) {W0 w : World} (HC : Hid (Wo W0 w)) : Calls Tryd.prog (exRow i).1 #[.string (exRow i).2.1] w fun e w' => e = .returned (.tuple #[.int .i64 (exRow i).2.2.1, .int .i64 (exRow i).2.2.2]) ∧ Below w.heap.size w w' ∧ Hid (Wo W0 w') := by
  rcases ex_split i hi with rfl | rfl | rfl | rfl | rfl | rfl | rfl | rfl | rfl | rfl | rfl | rfl | rfl | rfl | rfl | rfl | rfl | rfl | rfl | rfl | rfl | rfl | rfl
  · exact wLine_s ⟨#[82, 117, 108, 101]⟩ 1 0 (Lib.hid (by decide +kernel)) HC
  · exact wLine_s ⟨#[122]⟩ 2 0 (Lib.hid (by decide +kernel)) HC
  · exact wLine_s ⟨#[76, 73]⟩ 3 0 (Lib.hid (by decide +kernel)) HC
  · exact wLine_s ⟨#[114, 117, 108, 101, 115]⟩ 0 8 (Lib.hid (by decide +kernel)) HC
  · exact wLine_s ⟨#[]⟩ 0 8 (Lib.hid (by decide +kernel)) HC
  · exact wMonth_s ⟨#[74, 97, 110]⟩ 1 0 (Lib.hid (by decide +kernel)) HC
  · exact wMonth_s ⟨#[106, 97]⟩ 1 0 (Lib.hid (by decide +kernel)) HC
  · exact wMonth_s ⟨#[106]⟩ 0 8 (Lib.hid (by decide +kernel)) HC
  · exact wMonth_s ⟨#[106, 117, 110]⟩ 6 0 (Lib.hid (by decide +kernel)) HC
  · exact wMonth_s ⟨#[106, 117]⟩ 0 8 (Lib.hid (by decide +kernel)) HC
  · exact wMonth_s ⟨#[109, 97]⟩ 0 8 (Lib.hid (by decide +kernel)) HC
  · exact wMonth_s ⟨#[109, 97, 121]⟩ 5 0 (Lib.hid (by decide +kernel)) HC
  · exact wMonth_s ⟨#[68]⟩ 12 0 (Lib.hid (by decide +kernel)) HC
  · exact wWeek_s ⟨#[83, 85, 78]⟩ 0 0 (Lib.hid (by decide +kernel)) HC
  · exact wWeek_s ⟨#[115]⟩ 0 8 (Lib.hid (by decide +kernel)) HC
  · exact wWeek_s ⟨#[116]⟩ 0 8 (Lib.hid (by decide +kernel)) HC
  · exact wWeek_s ⟨#[116, 104]⟩ 4 0 (Lib.hid (by decide +kernel)) HC
  · exact wWeek_s ⟨#[109]⟩ 1 0 (Lib.hid (by decide +kernel)) HC
  · exact wWeek_s ⟨#[115, 117, 110, 100, 97, 121, 115]⟩ 0 8 (Lib.hid (by decide +kernel)) HC
  · exact wTo_s ⟨#[111, 110, 108, 121]⟩ 1 0 (Lib.hid (by decide +kernel)) HC
  · exact wTo_s ⟨#[109, 97, 120]⟩ 2 0 (Lib.hid (by decide +kernel)) HC
  · exact wTo_s ⟨#[109]⟩ 2 0 (Lib.hid (by decide +kernel)) HC
  · exact wTo_s ⟨#[109, 105, 110, 105, 109, 117, 109]⟩ 0 8 (Lib.hid (by decide +kernel)) HC
theorem szEx : (Tryd.prog.info? 43).map (·.size) = some 4 := by kernel_rfl
theorem neq_self (a : Int) : (a != a) = false := by simp
set_option maxRecDepth 100000 in
set_option maxHeartbeats 4000000 in
theorem works8_s {W0 w : World} (HC : Hid (Wo W0 w)) : Calls Tryd.prog 10 #[] w fun e w' => e = .returned (.bool true) ∧ Hid (Wo W0 w') := by
  go_enter Tryd.func10, Tryd.ntmps10
  go_wp2
  generalize hW : World.alloc w _ = W1
  have hc : ∀ i j, i < 23 → j < 4 → W1.cell? ⟨w.heap.size, i * 4 + j, none⟩ = some (exCell i j) := by
    intro i j hi hj
    rw [← hW]
    refine new_cell _ _ _ _ _ ?_
    have h5 : j = 0 ∨ j = 1 ∨ j = 2 ∨ j = 3 := by omega
    rcases ex_split i hi with rfl | rfl | rfl | rfl | rfl | rfl | rfl | rfl | rfl | rfl | rfl | rfl | rfl | rfl | rfl | rfl | rfl | rfl | rfl | rfl | rfl | rfl | rfl <;> rcases h5 with rfl | rfl | rfl | rfl <;> rfl
  have HC1 : Hid (Wo W0 W1) := by rw [← hW]; exact Wo.hal HC _
  have hz : w.heap.size < W1.heap.size := by rw [← hW]; simp
  have H := Lib.hid hc
  clear hc hW HC
  go_loopw [30] (fun i wr => ∃ k : Nat, k ≤ 23 ∧ i = .int .i64 k ∧ Below W1.heap.size W1 wr ∧ Hid (Wo W0 wr)) (fun i _ => 23 - (intOf i).toNat)
  case atStart => exact ⟨0, by omega, rfl, Below.refl _ _, HC1⟩
  case round =>
    obtain ⟨k, hk, rfl, hb, HR⟩ := hrel
    by_cases hk3 : k < 23
    · have cs : ∀ j, j < 4 → wr.cell? ⟨w.heap.size, k * 4 + j, none⟩ = some (exCell k j) := fun j hj => (hb.cell (p := ⟨w.heap.size, k * 4 + j, none⟩) hz).trans (H.out k j hk3 hj)
      have hE := ex_enters k hk3
      have hX : Hid (∀ (wx : World), Hid (Wo W0 wx) → Calls Tryd.prog (exRow k).1 #[.string (exRow k).2.1] wx fun e w' => e = .returned (.tuple #[.int .i64 (exRow k).2.2.1, .int .i64 (exRow k).2.2.2]) ∧ Below wx.heap.size wx w' ∧ Hid (Wo W0 w')) := Lib.hid (fun wx h => ex_calls k hk3 h)
      have c0 : wr.cell? ⟨w.heap.size, k * 4, none⟩ = some (.func (.func (exRow k).1) #[] #[]) := cs 0 (by omega)
      have c1 : wr.cell? ⟨w.heap.size, k * 4 + 1, none⟩ = some (.string (exRow k).2.1) := cs 1 (by omega)
      have c2 : wr.cell? ⟨w.heap.size, k * 4 + 2, none⟩ = some (.int .i64 (exRow k).2.2.1) := cs 2 (by omega)
      have c3 : wr.cell? ⟨w.heap.size, k * 4 + 3, none⟩ = some (.int .i64 (exRow k).2.2.2) := cs 3 (by omega)
      generalize (exRow k).1 = F at *
      generalize (exRow k).2.1 = a at *
      generalize (exRow k).2.2.1 = v at *
      generalize (exRow k).2.2.2 = o at *
      have HB2 := Lib.hid hb
      have hv := neq_self v
      have ho := neq_self o
      clear cs hb
      go_wp2_with (first | (go_at_fn F; refine (hX.out _ (Wo.hal HR _)).mono ?_; rintro e w' ⟨rfl, hd, HR2⟩; have t0 := cell_bl hd (new_cell wr #[.func (.func F) #[] #[], .string a, .int .i64 v, .int .i64 o] 43 2 _ rfl); have t1 := cell_bl hd (new_cell wr #[.func (.func F) #[] #[], .string a, .int .i64 v, .int .i64 o] 43 3 _ rfl)) | (refine wpList_store_row rfl 43 _ _ rfl wr.heap.size #[.func (.func F) #[] #[], .string a, .int .i64 v, .int .i64 o] rfl rfl _ _ (heap_alloc_last wr _) szEx rfl (by simp [Value.oneCell']) ?_; rw [World.setRow_alloc_new]))
      go_roundw
      case rel => exact ⟨k + 1, by omega, by go_num, (HB2.out.alloc HB2.out.size _).trans (hd.mono (by simp; have := HB2.out.size; omega)), HR2⟩
      case measure => simp [intOf]; omega
    · obtain rfl : k = 23 := by omega
      clear H HC1 hb
      have hE : (⟨#[]⟩ : ByteArray).toList.isEmpty = true := by rw [isEmpty_of]; rfl
      go_wp2_with fail
      refine (wMonthText_s 9 ⟨#[83, 101, 112]⟩ (Lib.hid (by decide +kernel)) HR).mono ?_; rintro e w1 ⟨rfl, _, HR⟩
      go_wp2_with fail
      refine (wWeekText_s 0 ⟨#[83, 117, 110]⟩ (Lib.hid (by decide +kernel)) HR).mono ?_; rintro e w2 ⟨rfl, _, HR⟩
      go_wp2_with fail
      refine (wMonthText_s 0 ⟨#[]⟩ (Lib.hid (by decide +kernel)) HR).mono ?_; rintro e w3 ⟨rfl, _, HR⟩
      go_wp2_with fail
      refine (wWeekText_s 7 ⟨#[]⟩ (Lib.hid (by decide +kernel)) HR).mono ?_; rintro e w4 ⟨rfl, _, HR⟩
      go_wp2
      go_ret
      exact ⟨rfl, HR⟩
end Go.Proofs.YtiompmplnmkakaaDoor
