/- The contracts of package dayform: Check, On, Always. -/
import Derived.Test.YtedcfnaphfgfjaaDoorDform
namespace Go.Proofs.YtedcfnaphfgfjaaDoor
open Go.RowKit

theorem check_at (k wk d r : Int) (hr : (if Dfm.okD k wk d = true then 0 else 2) = r) (w : World) : Calls Tryd.prog 13 #[.agg #[.int .i64 k, .int .i64 wk, .int .i64 d]] w fun e w' => e = .returned (.int .i64 r) ∧ Below w.heap.size w w' := by
  have HR := Lib.hid hr
  clear hr
  by_cases hk : 1 ≤ k ∧ k ≤ 4
  · have HK := Lib.hid hk
    clear hk
    generalize ho : Dfm.okD k wk d = ok at *
    generalize ha : Dfm.KW k = a at *
    generalize hb : Dfm.KL k = b at *
    generalize hc : Dfm.KM k = c at *
    generalize hf : KF k = f at *
    have H := Lib.hid (And.intro ho (And.intro ha (And.intro hb (And.intro hc hf))))
    clear ho ha hb hc hf
    cases ok
    all_goals
      go_enter Tryd.func13, Tryd.ntmps13
      go_wp2_with fail
      refine (kof_at k wk d a b c f _ HK.out H.out.1 H.out.2.1 H.out.2.2.1 H.out.2.2.2.1 H.out.2.2.2.2 _).mono ?_; rintro e w1 ⟨rfl, hb1⟩
      have HB := Lib.hid hb1
      clear hb1
      go_wp2
      go_ret
      exact ⟨ret_int (by simpa using HR.out), ((Below.refl _ _).alloc (Nat.le_refl _) _).trans ((HB.out.mono (by simp)).alloc (by have := HB.out.size; simp at this; omega) _)⟩
  · have hno : Dfm.okD k wk d = false := by
      cases h : Dfm.okD k wk d
      · rfl
      · have := Dfm.ok_bd _ _ _ h; omega
    have HN := Lib.hid hno
    have HK : Hid (k < 1 ∨ 4 < k) := Lib.hid (by omega)
    clear hno hk
    go_enter Tryd.func13, Tryd.ntmps13
    go_wp2_with fail
    refine (kof_no k wk d _ HK.out).mono ?_; rintro e w1 ⟨rfl, hb1⟩
    have HB := Lib.hid hb1
    clear hb1
    go_wp2
    go_ret
    exact ⟨ret_int (by have := HR.out; rw [HN.out] at this; simpa using this), ((Below.refl _ _).alloc (Nat.le_refl _) _).trans ((HB.out.mono (by simp)).alloc (by have := HB.out.size; simp at this; omega) _)⟩
theorem kk (k : Int) (h : 1 ≤ k ∧ k ≤ 4) : k = 1 ∨ k = 2 ∨ k = 3 ∨ k = 4 := by omega
end Go.Proofs.YtedcfnaphfgfjaaDoor
