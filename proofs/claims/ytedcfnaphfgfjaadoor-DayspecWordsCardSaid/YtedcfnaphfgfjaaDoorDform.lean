/- The contracts of package dayform: each function returns what XDfm says. -/
import Derived.Test.YtedcfnaphfgfjaaDoorGs
import Derived.Test.YtedcfnaphfgfjaaDoorDfm
import Derived.Deep.RegionHeld3
import Derived.Deep.RegionWith
import Derived.StillTailTactics
import Derived.Laws.EntriesVeiled
import Derived.Deep.WholeRow
import Derived.Deep.DeepCutAuto
import Derived.BigRegion
namespace Go.Proofs.YtedcfnaphfgfjaaDoor
open Go.RowKit

theorem ob_at (n wk r : Int) (hr : Dfm.ob n wk = r) (w : World) (hn : -800000000000 ≤ n ∧ n ≤ 800000000000) (hw : 0 ≤ wk ∧ wk ≤ 6) : Calls Tryd.prog 65 #[.int .i64 n, .int .i64 wk] w fun e w' => e = .returned (.int .i64 r) ∧ w = w' := by
  subst hr
  have hd : 0 ≤ Cal.wd n ∧ Cal.wd n ≤ 6 := by unfold Cal.wd; omega
  have h1 : Dfm.ob n wk = n - (Cal.wd n - wk + 7) % 7 := rfl
  have H1 := Lib.hid h1
  clear h1
  generalize hq : Cal.wd n = q at *
  have HQ := Lib.hid hq
  clear hq
  go_enter Tryd.func65, Tryd.ntmps65
  go_wp2_with fail
  refine (weekday_at _ _ HQ.out _).mono ?_; rintro e w' ⟨rfl, rfl⟩
  go_wp2
  go_ret
  exact ⟨ret_int (by rw [H1.out]; omega), rfl⟩
theorem k1_any (a b c : Int) (w : World) : Calls Tryd.prog 63 #[.int .i64 a, .int .i64 b, .int .i64 c] w fun e w' => e = .returned (.int .i64 a) ∧ w = w' := by
  go_enter Tryd.func63, Tryd.ntmps63
  go_wp2
  go_ret
  exact ⟨rfl, rfl⟩
theorem k2_at (a b c r : Int) (hr : Dfm.ob b c = r) (w : World) (hn : -800000000000 ≤ b ∧ b ≤ 800000000000) (hw : 0 ≤ c ∧ c ≤ 6) : Calls Tryd.prog 64 #[.int .i64 a, .int .i64 b, .int .i64 c] w fun e w' => e = .returned (.int .i64 r) ∧ w = w' := by
  have HR := Lib.hid hr; clear hr
  go_enter Tryd.func64, Tryd.ntmps64
  go_wp2_with fail
  refine (ob_at _ _ _ HR.out _ (by omega) (by omega)).mono ?_; rintro e w' ⟨rfl, rfl⟩
  go_wp2
  go_ret
  exact ⟨rfl, rfl⟩
theorem k3_at (a b c r : Int) (hr : Dfm.ob (a + 6) c = r) (w : World) (hn : -790000000000 ≤ a ∧ a ≤ 790000000000) (hw : 0 ≤ c ∧ c ≤ 6) : Calls Tryd.prog 66 #[.int .i64 a, .int .i64 b, .int .i64 c] w fun e w' => e = .returned (.int .i64 r) ∧ w = w' := by
  have hr2 : Dfm.ob (a + 7 - 1) c = r := by rw [← hr]; congr 1; omega
  have HR := Lib.hid hr2; clear hr hr2
  go_enter Tryd.func66, Tryd.ntmps66
  go_wp2_with fail
  refine (ob_at _ _ _ HR.out _ (by omega) (by omega)).mono ?_; rintro e w' ⟨rfl, rfl⟩
  go_wp2
  go_ret
  exact ⟨rfl, rfl⟩
theorem k4_at (a b c r : Int) (hr : Dfm.ob a c = r) (w : World) (hn : -800000000000 ≤ a ∧ a ≤ 800000000000) (hw : 0 ≤ c ∧ c ≤ 6) : Calls Tryd.prog 67 #[.int .i64 a, .int .i64 b, .int .i64 c] w fun e w' => e = .returned (.int .i64 r) ∧ w = w' := by
  have HR := Lib.hid hr; clear hr
  go_enter Tryd.func67, Tryd.ntmps67
  go_wp2_with fail
  refine (ob_at _ _ _ HR.out _ (by omega) (by omega)).mono ?_; rintro e w' ⟨rfl, rfl⟩
  go_wp2
  go_ret
  exact ⟨rfl, rfl⟩
/-- the table of the kinds -/
def KT : Array Value := #[Value.int .i64 0, .int .i64 0, .int .i64 0, .nilFunc, .int .i64 0, .int .i64 1, .int .i64 31, .func (.func 63) #[] #[], .int .i64 6, .int .i64 0, .int .i64 0, .func (.func 64) #[] #[], .int .i64 6, .int .i64 1, .int .i64 31, .func (.func 66) #[] #[], .int .i64 6, .int .i64 1, .int .i64 31, .func (.func 67) #[] #[]]
theorem ntKinds : Tryd.prog.underlying 84 = some (.array 5 61) := by kernel_rfl
theorem szKinds : (Tryd.prog.info? 84).map (·.size) = some KT.size := by kernel_rfl
theorem kinds_any (w : World) : Calls Tryd.prog 49 #[] w fun e w' => e = .returned (.agg KT) ∧ w.alloc (.cells KT 84) = w' := by
  go_enter Tryd.func49, Tryd.ntmps49
  go_wp2_with (refine wpList_store_row rfl 84 _ _ rfl w.heap.size KT rfl rfl _ _ (heap_alloc_last w _) szKinds (by kernel_rfl) (by kernel_rfl) ?_)
  rw [World.setRow_alloc_new]
  refine bodyPost_ret (v := .agg KT) (results_cell_row rfl _ _ w.heap.size _ KT (0, 0) _ rfl (heap_alloc_last w _) ntKinds rfl szKinds) rfl ?_
  exact ⟨rfl, rfl⟩
/-- the function of a kind -/
def KF (k : Int) : Nat := if k = 1 then 63 else if k = 2 then 64 else if k = 3 then 66 else 67
/-- a kind, as a value -/
def kval (k : Int) : Value := .agg #[.int .i64 (Dfm.KW k), .int .i64 (Dfm.KL k), .int .i64 (Dfm.KM k), .func (.func (KF k)) #[] #[]]
theorem k_ix1 (w : World) : (Instr.index 84 (.agg KT) (.int .i64 1)).run Tryd.prog w = .ok (kval 1) w := by kernel_rfl
theorem k_ix2 (w : World) : (Instr.index 84 (.agg KT) (.int .i64 2)).run Tryd.prog w = .ok (kval 2) w := by kernel_rfl
theorem k_ix3 (w : World) : (Instr.index 84 (.agg KT) (.int .i64 3)).run Tryd.prog w = .ok (kval 3) w := by kernel_rfl
theorem k_ix4 (w : World) : (Instr.index 84 (.agg KT) (.int .i64 4)).run Tryd.prog w = .ok (kval 4) w := by kernel_rfl
theorem k_ix (k : Int) (h : 1 ≤ k ∧ k ≤ 4) (w : World) : (Instr.index 84 (.agg KT) (.int .i64 k)).run Tryd.prog w = .ok (kval k) w := by
  have : k = 1 ∨ k = 2 ∨ k = 3 ∨ k = 4 := by omega
  rcases this with e | e | e | e <;> subst e
  · exact k_ix1 w
  · exact k_ix2 w
  · exact k_ix3 w
  · exact k_ix4 w
theorem kof_no (k wk d : Int) (w : World) (h : k < 1 ∨ 4 < k) : Calls Tryd.prog 30 #[.agg #[.int .i64 k, .int .i64 wk, .int .i64 d]] w fun e w' => e = .returned (.tuple #[.agg #[.int .i64 0, .int .i64 0, .int .i64 0, .nilFunc], .bool false]) ∧ Below w.heap.size w w' := by
  rcases h with h | h
  all_goals
    go_enter Tryd.func30, Tryd.ntmps30
    go_wp2
    refine bodyPost_ret (v := .tuple #[.agg #[.int .i64 0, .int .i64 0, .int .i64 0, .nilFunc], .bool false]) (by simp [results, Tryd.results30, go_sem]) rfl ⟨rfl, ?_⟩
    (repeat' (first | exact Below.refl _ _ | refine Below.setCell ?_ (by simp) _ | refine Below.alloc ?_ (by simp) _))
/-- what kindOf's memory holds behind its fourth statement -/
def KofR (w : World) (wk d a b c : Int) (f : Nat) (s4 : Value) (wx : World) : Prop := ∃ g : Nat, s4 = .pointer (some ⟨g, 0, none⟩) ∧ w.heap.size + 1 < g ∧ Below w.heap.size w wx
  ∧ wx.cell? ⟨w.heap.size, 1, none⟩ = some (.int .i64 wk) ∧ wx.cell? ⟨w.heap.size, 2, none⟩ = some (.int .i64 d)
  ∧ wx.cell? ⟨g, 0, none⟩ = some (.int .i64 a) ∧ wx.cell? ⟨g, 1, none⟩ = some (.int .i64 b) ∧ wx.cell? ⟨g, 2, none⟩ = some (.int .i64 c) ∧ wx.cell? ⟨g, 3, none⟩ = some (.func (.func f) #[] #[])
  ∧ wx.heap[w.heap.size + 1]? = some (.cells #[.int .i64 0, .int .i64 0, .int .i64 0, .nilFunc] 61 (0, 0))
theorem kof_w1 (w : World) (k wk d a b c : Int) (f : Nat) : KofR w wk d a b c f (.pointer (some ⟨w.heap.size + 1 + 1 + 1, 0, none⟩)) ((((w.alloc (.cells #[.int .i64 k, .int .i64 wk, .int .i64 d] 23)).alloc (.cells #[.int .i64 0, .int .i64 0, .int .i64 0, .nilFunc] 61)).alloc (.cells KT 84)).alloc (.cells #[.int .i64 a, .int .i64 b, .int .i64 c, .func (.func f) #[] #[]] 61)).drew := by
  have r0 := row_al (A := .cells #[.int .i64 a, .int .i64 b, .int .i64 c, .func (.func f) #[] #[]] 61) (row_al (A := .cells KT 84) (row_al (A := .cells #[.int .i64 0, .int .i64 0, .int .i64 0, .nilFunc] 61) (row_new (w := w) (A := .cells #[.int .i64 k, .int .i64 wk, .int .i64 d] 23) rfl)))
  have r1 := row_al (A := .cells #[.int .i64 a, .int .i64 b, .int .i64 c, .func (.func f) #[] #[]] 61) (row_al (A := .cells KT 84) (row_new (w := w.alloc (.cells #[.int .i64 k, .int .i64 wk, .int .i64 d] 23)) (A := .cells #[.int .i64 0, .int .i64 0, .int .i64 0, .nilFunc] 61) (b := w.heap.size + 1) (by simp)))
  have r3 := row_new (w := ((w.alloc (.cells #[.int .i64 k, .int .i64 wk, .int .i64 d] 23)).alloc (.cells #[.int .i64 0, .int .i64 0, .int .i64 0, .nilFunc] 61)).alloc (.cells KT 84)) (A := .cells #[.int .i64 a, .int .i64 b, .int .i64 c, .func (.func f) #[] #[]] 61) (b := w.heap.size + 1 + 1 + 1) (by simp)
  exact ⟨_, rfl, by omega, (((((Below.refl _ _).alloc (Nat.le_refl _) _).alloc (by simp) _).alloc (by simp; omega) _).alloc (by simp; omega) _).drew, row_cell r0 rfl, row_cell r0 rfl, row_cell r3 rfl, row_cell r3 rfl, row_cell r3 rfl, row_cell r3 rfl, r1⟩
theorem kof_w2 (w : World) (k wk d a b c : Int) (f : Nat) : KofR w wk d a b c f (.pointer (some ⟨w.heap.size + 1 + 1, 0, none⟩)) ((((w.alloc (.cells #[.int .i64 k, .int .i64 wk, .int .i64 d] 23)).alloc (.cells #[.int .i64 0, .int .i64 0, .int .i64 0, .nilFunc] 61)).alloc (.cells #[.int .i64 a, .int .i64 b, .int .i64 c, .func (.func f) #[] #[]] 61)).alloc (.cells KT 84)).drew := by
  have r0 := row_al (A := .cells KT 84) (row_al (A := .cells #[.int .i64 a, .int .i64 b, .int .i64 c, .func (.func f) #[] #[]] 61) (row_al (A := .cells #[.int .i64 0, .int .i64 0, .int .i64 0, .nilFunc] 61) (row_new (w := w) (A := .cells #[.int .i64 k, .int .i64 wk, .int .i64 d] 23) rfl)))
  have r1 := row_al (A := .cells KT 84) (row_al (A := .cells #[.int .i64 a, .int .i64 b, .int .i64 c, .func (.func f) #[] #[]] 61) (row_new (w := w.alloc (.cells #[.int .i64 k, .int .i64 wk, .int .i64 d] 23)) (A := .cells #[.int .i64 0, .int .i64 0, .int .i64 0, .nilFunc] 61) (b := w.heap.size + 1) (by simp)))
  have r3 := row_al (A := .cells KT 84) (row_new (w := (w.alloc (.cells #[.int .i64 k, .int .i64 wk, .int .i64 d] 23)).alloc (.cells #[.int .i64 0, .int .i64 0, .int .i64 0, .nilFunc] 61)) (A := .cells #[.int .i64 a, .int .i64 b, .int .i64 c, .func (.func f) #[] #[]] 61) (b := w.heap.size + 1 + 1) (by simp))
  exact ⟨_, rfl, by omega, (((((Below.refl _ _).alloc (Nat.le_refl _) _).alloc (by simp) _).alloc (by simp; omega) _).alloc (by simp; omega) _).drew, row_cell r0 rfl, row_cell r0 rfl, row_cell r3 rfl, row_cell r3 rfl, row_cell r3 rfl, row_cell r3 rfl, r1⟩
set_option maxHeartbeats 1000000 in
/-- the numbers of a form fit those of its kind, test by test -/
theorem kof_yes (k wk d : Int) (w : World) (h : 1 ≤ k ∧ k ≤ 4) : Calls Tryd.prog 30 #[.agg #[.int .i64 k, .int .i64 wk, .int .i64 d]] w fun e w' => e = .returned (.tuple #[kval k, .bool (Dfm.okD k wk d)]) ∧ Below w.heap.size w w' := by
  have hix := k_ix k h
  obtain ⟨h1, h2⟩ := h
  have hb := Dfm.K_bd k
  have ho : Dfm.okD k wk d = decide (1 ≤ k ∧ k ≤ 4 ∧ 0 ≤ wk ∧ wk ≤ Dfm.KW k ∧ Dfm.KL k ≤ d ∧ d ≤ Dfm.KM k) := rfl
  have hv : kval k = .agg #[.int .i64 (Dfm.KW k), .int .i64 (Dfm.KL k), .int .i64 (Dfm.KM k), .func (.func (KF k)) #[] #[]] := rfl
  rw [hv] at hix ⊢
  have HO := Lib.hid ho
  have HB := Lib.hid hb
  clear hv ho hb
  generalize Dfm.okD k wk d = ok at *
  generalize Dfm.KW k = a at *
  generalize Dfm.KL k = b at *
  generalize Dfm.KM k = c at *
  generalize KF k = f at *
  go_enter Tryd.func30, Tryd.ntmps30
  go_upto_region 3 with fail
  go_cut [4] (fun s4 wx => KofR w wk d a b c f s4 wx)
  case first =>
    go_region_with (first | (go_at_call 49; refine (kinds_any _).mono ?_; rintro e w1 ⟨rfl, rfl⟩))
    all_goals go_wp2_with fail
    all_goals go_meet
    all_goals (first | exact kof_w1 _ _ _ _ _ _ _ _ | exact kof_w2 _ _ _ _ _ _ _ _)
  case rest =>
    obtain ⟨g, rfl, hg, HB, c1, c2, g0, g1, g2, g3, ht⟩ := hcut
    have HBW := Lib.hid HB
    have HT := Lib.hid ht
    have t0 := row_cell ht (o := 0) rfl
    have t1 := row_cell ht (o := 1) rfl
    have t2 := row_cell ht (o := 2) rfl
    have t3 := row_cell ht (o := 3) rfl
    have z0 := frozen_of_row _ _ 0 _ _ ht
    have z1 := frozen_of_row _ _ 1 _ _ ht
    have z2 := frozen_of_row _ _ 2 _ _ ht
    have z3 := frozen_of_row _ _ 3 _ _ ht
    clear HB ht
    have hq : (0 ≤ wk ∧ wk ≤ a ∧ b ≤ d ∧ d ≤ c ∧ ok = true) ∨ (ok = false ∧ decide (0 ≤ wk) = false) ∨ (ok = false ∧ 0 ≤ wk ∧ decide (wk ≤ a) = false) ∨ (ok = false ∧ 0 ≤ wk ∧ wk ≤ a ∧ decide (b ≤ d) = false) ∨ (ok = false ∧ 0 ≤ wk ∧ wk ≤ a ∧ b ≤ d ∧ decide (d ≤ c) = false) := by
      have := HO.out
      cases ok <;> simp at this ⊢ <;> omega
    clear HO
    rcases hq with ⟨q1, q2, q3, q4, rfl⟩ | ⟨rfl, q1⟩ | ⟨rfl, q1, q2⟩ | ⟨rfl, q1, q2, q3⟩ | ⟨rfl, q1, q2, q3, q4⟩
    all_goals
      go_wp2_with fail
      go_region
      go_wp2
      refine bodyPost_ret (v := .tuple #[.agg #[.int .i64 a, .int .i64 b, .int .i64 c, .func (.func f) #[] #[]], .bool _]) (by simp [results, Tryd.results30, go_sem, t0, t1, t2, t3]) rfl ⟨rfl, ?_⟩
      exact ((((HBW.out.setCell (by simp) _).setCell (by simp) _).setCell (by simp) _).setCell (by simp) _).drew
theorem kof_at (k wk d a b c : Int) (f : Nat) (ok : Bool) (h : 1 ≤ k ∧ k ≤ 4) (ho : Dfm.okD k wk d = ok) (ha : Dfm.KW k = a) (hb : Dfm.KL k = b) (hc : Dfm.KM k = c) (hf : KF k = f) (w : World) : Calls Tryd.prog 30 #[.agg #[.int .i64 k, .int .i64 wk, .int .i64 d]] w fun e w' => e = .returned (.tuple #[.agg #[.int .i64 a, .int .i64 b, .int .i64 c, .func (.func f) #[] #[]], .bool ok]) ∧ Below w.heap.size w w' := by
  subst ho ha hb hc hf; exact kof_yes k wk d w h
end Go.Proofs.YtedcfnaphfgfjaaDoor
