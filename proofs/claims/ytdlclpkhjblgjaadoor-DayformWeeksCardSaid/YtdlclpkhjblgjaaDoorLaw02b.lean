/- Drafts and years of the statements about layer 2. -/
import Derived.Test.YtdlclpkhjblgjaaDoorLaw02
import Derived.WalkLawsBesides
namespace Go.Proofs.YtdlclpkhjblgjaaDoor
open Go.RowKit

theorem below_dn {B : Nat} {a w : World} (h : Below B a w) (n : Nat) : Below B a (w.drewN n) := h.trans ⟨rfl, rfl, rfl, Nat.le_refl _, fun _ _ => rfl⟩
theorem year2_at (y r : Int) (hr : Dfm.cl y = r) (hb : -2147483648 ≤ y ∧ y ≤ 2147483647) (w : World) : Calls Tryd.prog 17 #[.int .i32 y] w fun e w' => e = .returned (.int .i64 r) ∧ w = w' := by
  have HR := Lib.hid hr
  clear hr
  have hy : y < -2000000000 ∨ (-2000000000 ≤ y ∧ y ≤ 2000000000) ∨ 2000000000 < y := by omega
  rcases hy with h1 | h1 | h1
  all_goals
    go_enter Tryd.func17, Tryd.ntmps17
    go_wp2
    all_goals
      go_ret
      refine ⟨ret_int ?_, rfl⟩
      rw [← HR.out]
      unfold Dfm.cl
      (repeat' split)
      all_goals (first | omega | (simp_all; done) | (simp_all; omega))
theorem made_at (K W D k wk d : Int) (hK : 0 ≤ K ∧ K ≤ 255) (hW : 0 ≤ W ∧ W ≤ 255) (hD : 0 ≤ D ∧ D ≤ 255) (h1 : Dfm.mK K = k) (h2 : Dfm.mW K W = wk) (h3 : Dfm.mD K D = d) (w : World) : Calls Tryd.prog 16 #[.agg #[.int .u8 K, .int .u8 W, .int .u8 D]] w fun e w' => e = .returned (.agg #[.int .i64 k, .int .i64 wk, .int .i64 d]) ∧ Below w.heap.size w w' := by
  have h : ((K % 4 == 0) = true ∧ k = 1 ∧ wk = 0 ∧ d = 1 + D % 31) ∨ (((K % 4 == 0) = false ∧ (K % 4 == 1) = true) ∧ k = 2 ∧ wk = W % 7 ∧ d = 0) ∨ (((K % 4 == 0) = false ∧ (K % 4 == 1) = false ∧ (K % 4 == 2) = true) ∧ k = 3 ∧ wk = W % 7 ∧ d = 1 + D % 31) ∨ (((K % 4 == 0) = false ∧ (K % 4 == 1) = false ∧ (K % 4 == 2) = false) ∧ k = 4 ∧ wk = W % 7 ∧ d = 1 + D % 31) := by
    subst h1 h2 h3
    have hq : K % 4 = 0 ∨ K % 4 = 1 ∨ K % 4 = 2 ∨ K % 4 = 3 := by omega
    rcases hq with e | e | e | e <;> simp [Dfm.mK, Dfm.mW, Dfm.mD, e]
  have hb7 : 0 ≤ W % 7 ∧ W % 7 ≤ 6 := by omega
  have hb31 : 0 ≤ D % 31 ∧ D % 31 ≤ 30 := by omega
  have hb4 : 0 ≤ K % 4 ∧ K % 4 ≤ 3 := by omega
  clear h1 h2 h3
  rcases h with ⟨q, rfl, rfl, rfl⟩ | ⟨⟨q1, q⟩, rfl, rfl, rfl⟩ | ⟨⟨q1, q2, q⟩, rfl, rfl, rfl⟩ | ⟨⟨q1, q2, q⟩, rfl, rfl, rfl⟩
  all_goals
    go_enter Tryd.func16, Tryd.ntmps16
    go_wp2
    go_quiet (fail)
    go_wp2_with fail
    first | (go_at_call 24; refine (fixed_any _ _).mono ?_) | (go_at_call 22; refine (last_any _ _).mono ?_) | (go_at_call 21; refine (from_any _ _ _).mono ?_) | (go_at_call 23; refine (to_any _ _ _).mono ?_)
    rintro e w1 ⟨rfl, rfl⟩
    go_wp2
    refine bodyPost_ret (v := .agg #[.int .i64 _, .int .i64 _, .int .i64 _]) (by simp [results, Tryd.results16, go_sem]) rfl ⟨rfl, ?_⟩
    (repeat' (first | (with_reducible exact Below.refl _ _) | (with_reducible refine Below.setCell ?_ ?_ _) | (with_reducible refine Below.alloc ?_ ?_ _) | (with_reducible refine below_dn ?_ _)))
    all_goals (simp; try omega)
end Go.Proofs.YtdlclpkhjblgjaaDoor
