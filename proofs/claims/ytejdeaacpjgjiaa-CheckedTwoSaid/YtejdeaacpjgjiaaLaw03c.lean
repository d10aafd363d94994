/- The walk of CheckedTwo: for any two numbers it returns true. -/
import Derived.Test.YtejdeaacpjgjiaaLaw03b
import Derived.Test.YtejdeaacpjgjiaaRef03
namespace Go.Proofs.Ytejdeaacpjgjiaa
open Go.RowKit

/-- the pairs of functions -/
def two (i : Nat) : Nat × Nat := [(9, 10), (11, 12), (13, 14), (15, 16), (17, 18)].getD i (0, 0)
/-- what they return for two numbers -/
def twoR (a b : Int) (i : Nat) : Int × Bool := [(Ck.rs (a + b), Ck.fit (a + b)), (Ck.rs (a - b), Ck.fit (a - b)), (Ck.rs (a * b), Ck.fit (a * b)), (if Ck.dok a b then Ck.dv a b else 0, Ck.dok a b), (if decide (b ≠ 0) then Ck.md a b else 0, decide (b ≠ 0))].getD i (0, false)
theorem two_split (i : Nat) (hi : i < 5) : i = 0 ∨ i = 1 ∨ i = 2 ∨ i = 3 ∨ i = 4 := by omega
theorem two_code (a b : Int) (i : Nat) (hi : i < 5) (ha : -9223372036854775808 ≤ a ∧ a ≤ 9223372036854775807) (hb : -9223372036854775808 ≤ b ∧ b ≤ 9223372036854775807) (w : World) : Calls Try.prog (two i).1 #[.int .i64 a, .int .i64 b] w fun e w' => e = .returned (.tuple #[.int .i64 (twoR a b i).1, .bool (twoR a b i).2]) ∧ w = w' := by
  rcases two_split i hi with rfl | rfl | rfl | rfl | rfl
  · exact add_any a b w ha hb
  · exact sub_any a b w ha hb
  · exact mul_any a b w ha hb
  · exact div_any a b w ha hb
  · exact mod_any a b w hb
theorem same_dw {P : Program} {f : FuncId} {args : Array Value} {w : World} {X : Ending} (h : Calls P f args w fun e w' => e = X ∧ w = w') : Calls P f args w fun e w' => e = X ∧ Dw w w' :=
  h.mono fun _ _ ⟨he, hw⟩ => ⟨he, hw ▸ Dw.refl _⟩
theorem two_doc (a b : Int) (i : Nat) (hi : i < 5) (ha : -9223372036854775808 ≤ a ∧ a ≤ 9223372036854775807) (hb : -9223372036854775808 ≤ b ∧ b ≤ 9223372036854775807) (w : World) : Calls Try.prog (two i).2 #[.int .i64 a, .int .i64 b] w fun e w' => e = .returned (.tuple #[.int .i64 (twoR a b i).1, .bool (twoR a b i).2]) ∧ Dw w w' := by
  rcases two_split i hi with rfl | rfl | rfl | rfl | rfl
  · exact same_dw (radd_any a b w ha hb)
  · exact same_dw (rsub_any a b w ha hb)
  · exact same_dw (rmul_any a b w ha hb)
  · exact rdiv_any a b w ha hb
  · exact rmod_any a b w ha hb
theorem two_enters (i : Nat) (hi : i < 5) : (∀ args w, (callFunc (two i).1 args).run Try.prog w = .ok (.enter (two i).1 args) w) ∧ (∀ args w, (callFunc (two i).2 args).run Try.prog w = .ok (.enter (two i).2 args) w) := by
  rcases two_split i hi with rfl | rfl | rfl | rfl | rfl
  · exact ⟨enters_of Try.func9 (by kernel_rfl) rfl, enters_of Try.func10 (by kernel_rfl) rfl⟩
  · exact ⟨enters_of Try.func11 (by kernel_rfl) rfl, enters_of Try.func12 (by kernel_rfl) rfl⟩
  · exact ⟨enters_of Try.func13 (by kernel_rfl) rfl, enters_of Try.func14 (by kernel_rfl) rfl⟩
  · exact ⟨enters_of Try.func15 (by kernel_rfl) rfl, enters_of Try.func16 (by kernel_rfl) rfl⟩
  · exact ⟨enters_of Try.func17 (by kernel_rfl) rfl, enters_of Try.func18 (by kernel_rfl) rfl⟩
theorem szTwo : (Try.prog.info? 23).map (·.size) = some 2 := by kernel_rfl
set_option maxRecDepth 100000 in
set_option maxHeartbeats 4000000 in
theorem two_walk (a : Int) (wa : (Lit.int .i64 a).wf = true) (b : Int) (wb : (Lit.int .i64 b).wf = true) (W : World) :
    Calls Try.prog 3 #[.int .i64 a, .int .i64 b] W fun e w' => e = .returned (.bool true) ∧ Below W.heap.size W w' := by
  have A := Lib.hid (bd_i64 wa)
  have B := Lib.hid (bd_i64 wb)
  clear wa wb
  go_enter Try.func3, Try.ntmps3
  go_wp2
  generalize hW : World.alloc W _ = W1
  have hc : ∀ i, i < 5 → W1.cell? ⟨W.heap.size, i * 2, none⟩ = some (.func (.func (two i).1) #[] #[]) ∧ W1.cell? ⟨W.heap.size, i * 2 + 1, none⟩ = some (.func (.func (two i).2) #[] #[]) := by
    intro i hi
    rw [← hW]
    rcases two_split i hi with rfl | rfl | rfl | rfl | rfl <;> exact ⟨new_cell _ _ _ _ _ rfl, new_cell _ _ _ _ _ rfl⟩
  have hB : Below W.heap.size W W1 := by rw [← hW]; exact (Below.refl _ W).alloc (Nat.le_refl _) _
  have hz : W.heap.size < W1.heap.size := by rw [← hW]; simp
  have HC := Lib.hid hc
  have HB := Lib.hid hB
  clear hc hB hW
  go_loopw [18] (fun i wr => ∃ k : Nat, k ≤ 5 ∧ i = .int .i64 k ∧ Below W1.heap.size W1 wr) (fun i _ => 5 - (intOf i).toNat)
  case atStart => exact ⟨0, by omega, rfl, Below.refl _ _⟩
  case round =>
    obtain ⟨k, hk, rfl, hb⟩ := hrel
    by_cases hk3 : k < 5
    · have c0 := (hb.cell (p := ⟨W.heap.size, k * 2, none⟩) hz).trans (HC.out k hk3).1
      have c1 := (hb.cell (p := ⟨W.heap.size, k * 2 + 1, none⟩) hz).trans (HC.out k hk3).2
      obtain ⟨e0, e1⟩ := two_enters k hk3
      have h0 := fun w => Lib.hid (two_code a b k hk3 A.out B.out w)
      have h1 := fun w => Lib.hid (two_doc a b k hk3 A.out B.out w)
      generalize (two k).1 = F at *
      generalize (two k).2 = G at *
      generalize (twoR a b k).1 = r at *
      generalize (twoR a b k).2 = o at *
      have HB2 : Hid (Bs W1 wr) := Lib.hid hb
      have H0 := Lib.hid h0
      have H1 := Lib.hid h1
      clear hb h0 h1
      go_wp2_with (refine wpList_store_row rfl 23 _ _ rfl wr.heap.size #[.func (.func F) #[] #[], .func (.func G) #[] #[]] rfl rfl _ _ (heap_alloc_last wr _) szTwo rfl (by simp [Value.oneCell']) ?_; rw [World.setRow_alloc_new])
      refine (H0.out _).out.mono ?_; rintro e w1 ⟨rfl, rfl⟩
      go_wp2_with fail
      refine (H1.out _).out.mono ?_; rintro e w1 ⟨rfl, hd⟩; replace HB2 := Bs.hdw (Bs.hal HB2 _) hd; clear hd
      go_wp2_with fail
      refine (is_yes _ _ _ _ rfl rfl _).mono ?_; rintro e w2 ⟨rfl, rfl⟩
      go_wp2
      go_roundw
      case rel => exact ⟨k + 1, by omega, by go_num, HB2.out⟩
      case measure => simp [intOf]; omega
    · obtain rfl : k = 5 := by omega
      have HW : Hid (Bs W wr) := Lib.hid (Below.trans HB.out (hb.mono HB.out.size))
      clear hb
      go_wp2_with fail
      refine (works3_any _).mono ?_; rintro e w2 ⟨rfl, hd⟩; replace HW := Bs.hbl HW hd; clear hd
      go_wp2
      go_ret
      exact ⟨rfl, HW.out⟩
end Go.Proofs.Ytejdeaacpjgjiaa
