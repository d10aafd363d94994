/- Package name: contracts. -/
import Derived.Test.YtndpoijmkdephaaDoorNm
import Derived.Test.YtndpoijmkdephaaDoorStr
import Derived.Test.YtndpoijmkdephaaDoorShelf
import Derived.WalkLawsBesides
import Derived.Deep.LoopGhost
namespace Go.Proofs.YtndpoijmkdephaaDoor
open Go.RowKit
/-- the table of the kinds of bytes lies in its block -/
def KdW (w : World) : Prop := ∀ j, j < 128 → w.cell? ⟨0, j, none⟩ = some (.int .u8 (Nm.kd j : Int))
theorem KdW.bl {w w1 : World} (h : KdW w) (k : Below w.heap.size w w1) : KdW w1 := fun j hj => cell_bl k (h j hj)
theorem is_any (c : UInt8) (m : Nat) (hm : m = 1 ∨ m = 15 ∨ m = 23 ∨ m = 63) (r : Bool) (hr : Nm.isK m c.toNat = r) (w : World) (hK : KdW w) :
    Calls Tryd.prog 38 #[.int .u8 (c.toNat : Int), .int .u8 (m : Int)] w fun e w' => e = .returned (.bool r) ∧ w = w' := by
  have hc := c.toNat_lt
  generalize c.toNat = x at *
  by_cases hx : x < 128
  · have c0 := hK x hx
    have hx0 : (0 : Int) ≤ (x : Int) := by omega
    have hx1 : (x : Int) < 128 := by omega
    unfold Nm.isK at hr
    clear hK hc
    rcases Nm.kd_le x with h | h | h | h | h | h | h <;> rw [h] at c0 hr <;> rcases hm with rfl | rfl | rfl | rfl <;> subst hr
    all_goals
      clear h
      go_enter Tryd.func38, Tryd.ntmps38
      go_wp2
      go_ret
      exact ⟨rfl, rfl⟩
  · have hx1 : ¬ (x : Int) < 128 := by omega
    have hr0 : r = false := by rw [← hr]; unfold Nm.isK; rw [Nm.kd_high (by omega), Nat.zero_and]; rfl
    subst hr0
    clear hr hK hm
    go_enter Tryd.func38, Tryd.ntmps38
    go_wp2
    go_ret
    exact ⟨rfl, rfl⟩
theorem KdW.set {w : World} (h : KdW w) {b o : Nat} (v : Value) (hb : b ≠ 0) : KdW (w.setCell ⟨b, o, none⟩ v) := fun j hj => cell_set (h j hj) (Ne.symm hb)
theorem zst_any (c : UInt8) (k : Nat) (hk : k < 1000000000000) (r : Bool) (k2 : Nat) (hr : Nm.zst k c = (r, k2)) (b : Nat) (hb : b ≠ 0) (w : World) (hK : KdW w) (hA : w.heap[b]? = some (.cells #[.int .i64 (k : Int)] 3 (0, 0))) :
    Calls Tryd.prog 37 #[.int .u8 (c.toNat : Int), .pointer (some ⟨b, 0, none⟩)] w fun e w' => e = .returned (.bool r) ∧ w.setCell ⟨b, 0, none⟩ (.int .i64 (k2 : Int)) = w' := by
  have cA := cell_of_one hA
  have fA := free_of_one hA
  have HA := Lib.hid hA
  have HK := Lib.hid hK
  unfold Nm.zst at hr
  have hc := c.toNat_lt
  have hc0 : (0 : Int) ≤ (c.toNat : Int) := by omega
  have hc1 : (c.toNat : Int) < 256 := by omega
  clear hA hK hc
  by_cases h47 : c = 47
  · rw [if_pos h47] at hr
    obtain ⟨rfl, rfl⟩ := Prod.mk.inj hr
    subst h47
    clear hr
    by_cases h0 : 0 < k
    · have h1 : (0 : Int) < (k : Int) := by omega
      rw [decide_eq_true h0]
      go_enter Tryd.func37, Tryd.ntmps37
      go_wp2
      go_ret
      exact ⟨rfl, rfl⟩
    · have h1 : ¬ (0 : Int) < (k : Int) := by omega
      rw [decide_eq_false h0]
      go_enter Tryd.func37, Tryd.ntmps37
      go_wp2
      go_ret
      exact ⟨rfl, rfl⟩
  · rw [if_neg h47] at hr
    have h1 : ((c.toNat : Int) == 47) = false := by
      simp only [beq_eq_false_iff_ne, ne_eq]
      intro h
      exact h47 (UInt8.toNat_inj.1 (by show c.toNat = 47; omega))
    have ec : (.int .i64 ((k + 1 : Nat) : Int) : Value) = .int .i64 ((k : Int) + 1) := by rw [Int.natCast_add]; rfl
    have rA := one_setCell (u := .int .i64 ((k : Int) + 1)) HA.out
    have cA2 := cell_of_one rA
    have HK2 := Lib.hid (HK.out.set (o := 0) (.int .i64 ((k : Int) + 1)) hb)
    clear h47 rA
    by_cases h0 : k = 0
    · rw [if_pos h0] at hr
      obtain ⟨h2, rfl⟩ := Prod.mk.inj hr
      have HR := Lib.hid h2
      subst h0
      clear hr h2
      go_enter Tryd.func37, Tryd.ntmps37
      go_wp2_with fail
      refine (is_any c 23 (by simp) r HR.out _ HK2.out).mono ?_
      rintro e w1 ⟨rfl, rfl⟩
      go_wp2
      go_ret
      exact ⟨rfl, rfl⟩
    · rw [if_neg h0] at hr
      obtain ⟨h2, rfl⟩ := Prod.mk.inj hr
      have h3 : ((k : Int) + 1 == 1) = false := by simp; omega
      rw [ec]
      clear hr h0 ec
      by_cases h14 : k + 1 ≤ 14
      · have h4 : (k : Int) + 1 ≤ 14 := by omega
        rw [decide_eq_true h14, Bool.true_and] at h2
        have HR := Lib.hid h2
        clear h2 h14
        go_enter Tryd.func37, Tryd.ntmps37
        go_wp2_with fail
        refine (is_any c 63 (by simp) r HR.out _ HK2.out).mono ?_
        rintro e w1 ⟨rfl, rfl⟩
        go_wp2
        go_ret
        exact ⟨rfl, rfl⟩
      · have h4 : ¬ (k : Int) + 1 ≤ 14 := by omega
        rw [decide_eq_false h14, Bool.false_and] at h2
        subst h2
        clear h14
        go_enter Tryd.func37, Tryd.ntmps37
        go_wp2
        go_ret
        exact ⟨rfl, rfl⟩
end Go.Proofs.YtndpoijmkdephaaDoor
