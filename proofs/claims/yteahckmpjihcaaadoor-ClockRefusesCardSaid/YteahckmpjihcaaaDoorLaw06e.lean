/- The walk of ClockRefuses. -/
import Derived.Test.YteahckmpjihcaaaDoorLaw06c
import Derived.Deep.LoopGhost
namespace Go.Proofs.YteahckmpjihcaaaDoor
open Go.RowKit
/-- the times of day that are refused -/
def LR (x b f : Int) (k : Nat) : Int × Int := [(604800 + f, b), (-604800 - f, b), (x, 3 + f), (x, -1 - f)].getD k (0, 0)
theorem LR_no {x b f : Int} (hx : -604799 ≤ x ∧ x ≤ 604799) (hb : 0 ≤ b ∧ b ≤ 2) (hf : 0 ≤ f ∧ f < 4294967296) (k : Nat) (hk : k < 4) : Cl.prs (LR x b f k).1 (LR x b f k).2 = (⟨#[]⟩, 2) ∧ Cl.chk (LR x b f k).1 (LR x b f k).2 = 2 ∧ (-9223372036854775808 ≤ (LR x b f k).1 ∧ (LR x b f k).1 ≤ 9223372036854775807) ∧ (-9223372036854775808 ≤ (LR x b f k).2 ∧ (LR x b f k).2 ≤ 9223372036854775807) := by
  have h4 : k = 0 ∨ k = 1 ∨ k = 2 ∨ k = 3 := by omega
  rcases h4 with rfl | rfl | rfl | rfl
  · show Cl.prs (604800 + f) b = _ ∧ Cl.chk (604800 + f) b = 2 ∧ (-9223372036854775808 ≤ 604800 + f ∧ 604800 + f ≤ 9223372036854775807) ∧ (-9223372036854775808 ≤ b ∧ b ≤ 9223372036854775807)
    exact ⟨cprs_no (by omega), chk_no (by omega), by omega, by omega⟩
  · show Cl.prs (-604800 - f) b = _ ∧ Cl.chk (-604800 - f) b = 2 ∧ (-9223372036854775808 ≤ -604800 - f ∧ -604800 - f ≤ 9223372036854775807) ∧ (-9223372036854775808 ≤ b ∧ b ≤ 9223372036854775807)
    exact ⟨cprs_no (by omega), chk_no (by omega), by omega, by omega⟩
  · show Cl.prs x (3 + f) = _ ∧ Cl.chk x (3 + f) = 2 ∧ (-9223372036854775808 ≤ x ∧ x ≤ 9223372036854775807) ∧ (-9223372036854775808 ≤ 3 + f ∧ 3 + f ≤ 9223372036854775807)
    exact ⟨cprs_no (by omega), chk_no (by omega), by omega, by omega⟩
  · show Cl.prs x (-1 - f) = _ ∧ Cl.chk x (-1 - f) = 2 ∧ (-9223372036854775808 ≤ x ∧ x ≤ 9223372036854775807) ∧ (-9223372036854775808 ≤ -1 - f ∧ -1 - f ≤ 9223372036854775807)
    exact ⟨cprs_no (by omega), chk_no (by omega), by omega, by omega⟩
def cellR (x b f : Int) (k j : Nat) : Value := match j with
  | 0 => .int .i64 (LR x b f k).1
  | _ => .int .i64 (LR x b f k).2
set_option maxHeartbeats 4000000 in
theorem crefuses_core (m a f x b : Int) (hm : -2147483648 ≤ m ∧ m ≤ 2147483647) (ha : 0 ≤ a ∧ a < 256) (hf : 0 ≤ f ∧ f < 4294967296)
    (hx : Hid (m.tmod 604800 = x)) (hb : Hid (a % 3 = b)) (bx1 : -604799 ≤ x) (bx2 : x ≤ 604799) (bb1 : 0 ≤ b) (bb2 : b ≤ 2)
    (W0 : World) (hTT : Tabs W0) : Calls Tryd.prog 8 #[.int .i32 m, .int .u8 a, .int .u32 f] W0 fun e w' => e = .returned (.bool true) ∧ Below W0.heap.size W0 w' := by
  have HC := Lib.hid (Ks.mk0 hTT)
  have HF := Lib.hid hf
  have HL := Lib.hid (LR_no ⟨bx1, bx2⟩ ⟨bb1, bb2⟩ hf)
  have hf1 := hf.1
  have hf2 := hf.2
  clear hTT hf
  go_enter Tryd.func8, Tryd.ntmps8
  go_wp2_with fail
  refine (made_s m a x b hm ha hx hb HC).mono ?_; rintro e w1 ⟨rfl, HC⟩
  have p0 := new_cell w1 #[.int .i64 x, .int .i64 b] 24 0 (.int .i64 x) rfl
  have p1 := new_cell w1 #[.int .i64 x, .int .i64 b] 24 1 (.int .i64 b) rfl
  replace HC := Ks.hal HC (.cells #[.int .i64 x, .int .i64 b] 24)
  go_wp2
  generalize hW : (w1.alloc (.cells #[.int .i64 x, .int .i64 b] 24)).alloc _ = W1
  have hc : ∀ i j, i < 4 → j < 2 → W1.cell? ⟨w1.heap.size + 1, i * 2 + j, none⟩ = some (cellR x b f i j) := by
    intro i j hi hj
    rw [← hW]
    have h3 : i = 0 ∨ i = 1 ∨ i = 2 ∨ i = 3 := by omega
    have h2 : j = 0 ∨ j = 1 := by omega
    rcases h3 with rfl | rfl | rfl | rfl <;> rcases h2 with rfl | rfl <;> exact row_cell (row_new (by simp)) rfl
  have hg0 : W1.cell? ⟨w1.heap.size, 0, none⟩ = some (.int .i64 x) := by rw [← hW]; exact cell_al p0
  have hg1 : W1.cell? ⟨w1.heap.size, 1, none⟩ = some (.int .i64 b) := by rw [← hW]; exact cell_al p1
  have HS1 : Hid (Ks W0 W1) := by rw [← hW]; exact Ks.hal HC _
  have hz : w1.heap.size + 1 < W1.heap.size := by rw [← hW]; simp
  have HK := Lib.hid hc
  clear hc hW HC p0 p1
  generalize w1.heap.size = g at *
  go_loopw [42] (fun i wr => ∃ k : Nat, k ≤ 4 ∧ i = .int .i64 k ∧ Below W1.heap.size W1 wr) (fun i _ => 4 - (intOf i).toNat)
  case atStart => exact ⟨0, by omega, rfl, Below.refl _ _⟩
  case round =>
    obtain ⟨k, hk, rfl, hb⟩ := hrel
    have HP := Lib.hid (HS1.out.bl hb)
    by_cases hk3 : k < 4
    · have cs : ∀ j, j < 2 → wr.cell? ⟨g + 1, k * 2 + j, none⟩ = some (cellR x b f k j) := fun j hj => (hb.cell (p := ⟨g + 1, k * 2 + j, none⟩) hz).trans (HK.out k j hk3 hj)
      have c0 : wr.cell? ⟨g + 1, k * 2, none⟩ = some (.int .i64 (LR x b f k).1) := cs 0 (by omega)
      have c1 : wr.cell? ⟨g + 1, k * 2 + 1, none⟩ = some (.int .i64 (LR x b f k).2) := cs 1 (by omega)
      have HX := Lib.hid (HL.out k hk3)
      have HB2 := Lib.hid hb
      clear hb cs hg0 hg1
      generalize (LR x b f k).1 = u at *
      generalize (LR x b f k).2 = v at *
      go_wp2_with fail
      have d0 := new_cell wr #[.int .i64 u, .int .i64 v] 24 0 (.int .i64 u) rfl
      have d1 := new_cell wr #[.int .i64 u, .int .i64 v] 24 1 (.int .i64 v) rfl
      replace HP := Ks.hal HP (.cells #[.int .i64 u, .int .i64 v] 24)
      refine (cprint_any u v HX.out.2.2.1 HX.out.2.2.2 ⟨#[]⟩ 2 HX.out.1 _ HP.out.2.1 HP.out.2.2.2).mono ?_
      rintro e w2 ⟨rfl, hb⟩
      replace d0 := cell_bl hb d0
      replace d1 := cell_bl hb d1
      have HB3 := Lib.hid (((HB2.out.alloc HB2.out.size _).trans (hb.mono (by have := HB2.out.size; simp; omega)) : Below W1.heap.size W1 w2))
      clear hb
      go_wp2_with fail
      refine (check_any u v 2 HX.out.2.2.1 HX.out.2.2.2 HX.out.2.1 _).mono ?_
      rintro e w3 ⟨rfl, hb⟩
      have HB4 := Lib.hid ((HB3.out.trans (hb.mono HB3.out.size) : Below W1.heap.size W1 w3))
      clear hb
      go_wp2
      go_roundw
      case rel => first | exact ⟨k + 1, by omega, by go_num, HB4.out⟩ | ((repeat apply Exists.intro); exact ⟨⟨k + 1, by omega, by go_num, HB4.out⟩, rfl⟩)
      case measure => simp [intOf]; omega
    · obtain rfl : k = 4 := by omega
      have p0 := (hb.cell (p := ⟨g, 0, none⟩) (by simp; omega)).trans hg0
      have p1 := (hb.cell (p := ⟨g, 1, none⟩) (by simp; omega)).trans hg1
      have HY := Lib.hid (chk_yes (x := x) (b := b) ⟨⟨bx1, bx2⟩, bb1, bb2⟩)
      have HX := Lib.hid (show -9223372036854775808 ≤ x ∧ x ≤ 9223372036854775807 by omega)
      have HB := Lib.hid (show -9223372036854775808 ≤ b ∧ b ≤ 9223372036854775807 by omega)
      clear hb hg0 hg1 HK HL
      go_wp2_with fail
      refine (kcheck_s x b 0 HX HB HY HP).mono ?_
      rintro e w3 ⟨rfl, HP⟩
      go_wp2_with fail
      refine (works6_s HP).mono ?_; rintro e w9 ⟨rfl, HP⟩
      go_wp2
      go_ret
      exact ⟨rfl, HP.out.1⟩
theorem crefuses_walk (m : Int) (hm : (Lit.int .i32 m).wf = true) (a : Int) (ha : (Lit.int .u8 a).wf = true) (f : Int) (hf : (Lit.int .u32 f).wf = true) (W0 : World) (hT : Tabs W0) : Calls Tryd.prog 8 #[.int .i32 m, .int .u8 a, .int .u32 f] W0 fun e w' => e = .returned (.bool true) ∧ Below W0.heap.size W0 w' := by
  have g1 := bounds_i32 hm
  have g2 := bounds_u8 ha
  have g3 := bounds_u32 hf
  have m1 : -2147483648 ≤ m ∧ m ≤ 2147483647 := by omega
  have bx := made_bd (a := a) m1
  exact crefuses_core m a f _ _ m1 (by omega) (by omega) (Lib.hid rfl) (Lib.hid rfl) bx.1.1 bx.1.2 bx.2.1 bx.2.2 W0 hT
end Go.Proofs.YteahckmpjihcaaaDoor
