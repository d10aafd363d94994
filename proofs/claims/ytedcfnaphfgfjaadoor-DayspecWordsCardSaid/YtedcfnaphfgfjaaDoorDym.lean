/- The contract of Made of the statements about layer 9. -/
import Derived.Test.YtedcfnaphfgfjaaDoorDyf
import Derived.Test.YtedcfnaphfgfjaaDoorDfm
namespace Go.Proofs.YtedcfnaphfgfjaaDoor
open Go.RowKit Go.Shelf
theorem dy_ntDay : ∃ fs, Tryd.prog.underlying 23 = some (.struct fs) := ⟨_, Tryd.underlying23⟩
set_option maxHeartbeats 2000000 in
theorem ymade_at (K W D k wk d : Int) (hK : 0 ≤ K ∧ K ≤ 255) (hW : 0 ≤ W ∧ W ≤ 255) (hD : 0 ≤ D ∧ D ≤ 255) (h1 : Dfm.mK K = k) (h2 : Dfm.mW K W = wk) (h3 : Dfm.mD K D = d) (w : World) : Calls Tryd.prog 12 #[.int .u8 K, .int .u8 W, .int .u8 D] w fun e w' => e = .returned (.agg #[.int .i64 k, .int .i64 wk, .int .i64 d]) ∧ Below w.heap.size w w' := by
  obtain ⟨a, ha⟩ : ∃ a : Nat, W % 7 = (a : Int) := ⟨(W % 7).toNat, by omega⟩
  obtain ⟨b, hb⟩ : ∃ b : Nat, D % 31 = (b : Int) := ⟨(D % 31).toNat, by omega⟩
  have ha2 : (a : Int) ≤ 6 := by omega
  have hb2 : (b : Int) ≤ 30 := by omega
  have h : (K % 4 = 0 ∧ k = 1 ∧ wk = 0 ∧ d = 1 + (b : Int)) ∨ (K % 4 = 1 ∧ k = 2 ∧ wk = (a : Int) ∧ d = 0) ∨ (K % 4 = 2 ∧ k = 3 ∧ wk = (a : Int) ∧ d = 1 + (b : Int)) ∨ (K % 4 = 3 ∧ k = 4 ∧ wk = (a : Int) ∧ d = 1 + (b : Int)) := by
    subst h1 h2 h3
    have hq : K % 4 = 0 ∨ K % 4 = 1 ∨ K % 4 = 2 ∨ K % 4 = 3 := by omega
    rcases hq with e | e | e | e <;> simp [Dfm.mK, Dfm.mW, Dfm.mD, e, ha, hb]
  clear h1 h2 h3
  rcases h with ⟨q, rfl, rfl, rfl⟩ | ⟨q, rfl, rfl, rfl⟩ | ⟨q, rfl, rfl, rfl⟩ | ⟨q, rfl, rfl, rfl⟩
  all_goals
    go_enter Tryd.func12, Tryd.ntmps12
    go_wp2
    exact bodyPost_ret (results_cell_row Tryd.results12 _ _ w.heap.size _ _ (0, 0) _ rfl (row_al (heap_alloc_last w _)) Tryd.underlying23 rfl dyInfo) rfl ⟨rfl, ((Below.refl _ w).alloc (Nat.le_refl _) _).alloc (by simp) _⟩
end Go.Proofs.YtedcfnaphfgfjaaDoor
