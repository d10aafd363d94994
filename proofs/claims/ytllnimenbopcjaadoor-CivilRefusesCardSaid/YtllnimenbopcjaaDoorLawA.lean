/- The walks of the statements about layer 1 that call no reference: each returns true. -/
import Derived.Test.YtllnimenbopcjaaDoorLaw01
import Derived.OpenShut
namespace Go.Proofs.YtllnimenbopcjaaDoor
open Go.RowKit

theorem Dw.below {w w' : World} (h : Dw w w') : Below w.heap.size w w' := by
  obtain ⟨n, rfl⟩ := h; exact ⟨rfl, rfl, rfl, Nat.le_refl _, fun _ _ => rfl⟩
theorem bd_i64 {a : Int} (h : (Lit.int .i64 a).wf = true) : -9223372036854775808 ≤ a ∧ a ≤ 9223372036854775807 := bounds_i64 h
/-- a truth that is not opened by the walk -/
theorem beq_of {a b : Int} (h : a = b) : (a == b) = true := by rw [h]; exact beq_self_eq_true b

theorem td_bd (t : Int) (ht : -9223372036854775808 ≤ t ∧ t ≤ 9223372036854775807) : -1000000000000000 ≤ t.tdiv 86400 ∧ t.tdiv 86400 ≤ 1000000000000000 := by
  rw [Cal.td_eq t 86400 (by omega)]; split <;> omega
set_option maxHeartbeats 400000 in
theorem seconds_walk (t : Int) (wt : (Lit.int .i64 t).wf = true) (W : World) (hT : TabW W) :
    Calls Tryd.prog 9 #[.int .i64 t] W fun e w' => e = .returned (.bool true) ∧ Below W.heap.size W w' := by
  have bt := bd_i64 wt
  clear wt
  have hb := td_bd t bt
  have BT := Lib.hid bt
  have hin := Cal.date_in (t / 86400)
  have hout := Cal.date_out (t / 86400)
  have hy : Cal.yr t = if Cal.dY (t / 86400) < -2000000000 then -2000000000 else if 2000000000 < Cal.dY (t / 86400) then 2000000000 else Cal.dY (t / 86400) := rfl
  have HY := Lib.hid hy
  clear hy
  have HT := Lib.hid hT
  clear hT
  have key : ∀ q : Int, q = t / 86400 → (-730485719528 ≤ q ∧ q ≤ 730484280837 → (Cal.yr t == Cal.dY q) = true) ∧ (q < -730485719528 → t < 0 ∧ (Cal.yr t == -2000000000) = true) ∧ (730484280837 < q → ¬ t < 0 ∧ (Cal.yr t == 2000000000) = true) := by
    intro q hq
    subst hq
    refine ⟨fun h => ?_, fun h => ⟨by omega, ?_⟩, fun h => ⟨by omega, ?_⟩⟩
    · have hr := hin.1 h
      exact beq_of (by rw [HY.out, if_neg (by omega), if_neg (by omega)])
    · exact beq_of (by rw [HY.out, if_pos (hout.1 h)])
    · have := hout.2 h
      exact beq_of (by rw [HY.out, if_neg (by omega), if_pos this])
  have KEY := Lib.hid key
  clear key hin hout
  by_cases hs : t.tmod 86400 < 0
  · have k := KEY.out _ (Cal.fl_neg t 86400 (by omega) hs)
    generalize hq : t.tdiv 86400 - 1 = q at *
    have Q := Lib.hid hq
    clear hq KEY
    by_cases d : q < -730485719528
    · obtain ⟨k1, k2⟩ := k.2.1 d
      clear k
      go_enter Tryd.func9, Tryd.ntmps9
      go_wp2_with (first | (go_at_call 22; refine (year_any _ _ BT.out).mono ?_; rintro e w1 ⟨rfl, rfl⟩) | (go_at_call 18; rw [Q.out]; refine (date_no q _ (.inl d)).mono ?_; rintro e w1 ⟨rfl, rfl⟩) | (go_at_call 17; refine (works_any _ HT.out).mono ?_; rintro e w1 ⟨rfl, hw⟩; have HW := Lib.hid hw.below; clear hw))
      go_ret
      exact ⟨rfl, HW.out⟩
    · by_cases d' : 730484280837 < q
      · obtain ⟨k1, k2⟩ := k.2.2 d'
        have K1 := Lib.hid k1
        clear k k1
        go_enter Tryd.func9, Tryd.ntmps9
        go_wp2_with (first | (go_at_call 22; refine (year_any _ _ BT.out).mono ?_; rintro e w1 ⟨rfl, rfl⟩) | (go_at_call 18; rw [Q.out]; refine (date_no q _ (.inr d')).mono ?_; rintro e w1 ⟨rfl, rfl⟩; have k1 := K1.out) | (go_at_call 17; refine (works_any _ HT.out).mono ?_; rintro e w1 ⟨rfl, hw⟩; have HW := Lib.hid hw.below; clear hw))
        go_ret
        exact ⟨rfl, HW.out⟩
      · have k1 := k.1 (by omega)
        clear k
        go_enter Tryd.func9, Tryd.ntmps9
        have hq2 : -730485719528 ≤ q ∧ q ≤ 730484280837 := by omega
        clear d d'
        go_wp2_with (first | (go_at_call 22; refine (year_any _ _ BT.out).mono ?_; rintro e w1 ⟨rfl, rfl⟩) | (go_at_call 18; rw [Q.out]; refine (date_yes q _ hq2).mono ?_; rintro e w1 ⟨rfl, rfl⟩) | (go_at_call 17; refine (works_any _ HT.out).mono ?_; rintro e w1 ⟨rfl, hw⟩; have HW := Lib.hid hw.below; clear hw))
        go_ret
        exact ⟨rfl, HW.out⟩
  · have k := KEY.out _ (Cal.fl_pos t 86400 (by omega) (by omega))
    generalize hq : t.tdiv 86400 = q at *
    have Q := Lib.hid hq
    clear hq KEY
    by_cases d : q < -730485719528
    · obtain ⟨k1, k2⟩ := k.2.1 d
      clear k
      go_enter Tryd.func9, Tryd.ntmps9
      go_wp2_with (first | (go_at_call 22; refine (year_any _ _ BT.out).mono ?_; rintro e w1 ⟨rfl, rfl⟩) | (go_at_call 18; rw [Q.out]; refine (date_no q _ (.inl d)).mono ?_; rintro e w1 ⟨rfl, rfl⟩) | (go_at_call 17; refine (works_any _ HT.out).mono ?_; rintro e w1 ⟨rfl, hw⟩; have HW := Lib.hid hw.below; clear hw))
      go_ret
      exact ⟨rfl, HW.out⟩
    · by_cases d' : 730484280837 < q
      · obtain ⟨k1, k2⟩ := k.2.2 d'
        have K1 := Lib.hid k1
        clear k k1
        go_enter Tryd.func9, Tryd.ntmps9
        go_wp2_with (first | (go_at_call 22; refine (year_any _ _ BT.out).mono ?_; rintro e w1 ⟨rfl, rfl⟩) | (go_at_call 18; rw [Q.out]; refine (date_no q _ (.inr d')).mono ?_; rintro e w1 ⟨rfl, rfl⟩; have k1 := K1.out) | (go_at_call 17; refine (works_any _ HT.out).mono ?_; rintro e w1 ⟨rfl, hw⟩; have HW := Lib.hid hw.below; clear hw))
        go_ret
        exact ⟨rfl, HW.out⟩
      · have k1 := k.1 (by omega)
        clear k
        go_enter Tryd.func9, Tryd.ntmps9
        have hq2 : -730485719528 ≤ q ∧ q ≤ 730484280837 := by omega
        clear d d'
        go_wp2_with (first | (go_at_call 22; refine (year_any _ _ BT.out).mono ?_; rintro e w1 ⟨rfl, rfl⟩) | (go_at_call 18; rw [Q.out]; refine (date_yes q _ hq2).mono ?_; rintro e w1 ⟨rfl, rfl⟩) | (go_at_call 17; refine (works_any _ HT.out).mono ?_; rintro e w1 ⟨rfl, hw⟩; have HW := Lib.hid hw.below; clear hw))
        go_ret
        exact ⟨rfl, HW.out⟩
end Go.Proofs.YtllnimenbopcjaaDoor
