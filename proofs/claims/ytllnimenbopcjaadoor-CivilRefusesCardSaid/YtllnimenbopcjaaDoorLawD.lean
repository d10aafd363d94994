/- The walk of CivilCycles: it returns true. -/
import Derived.Test.YtllnimenbopcjaaDoorLawC
namespace Go.Proofs.YtllnimenbopcjaaDoor
open Go.RowKit

theorem cum_all (y m : Int) (h : 1 ≤ m ∧ m ≤ 12) : Cal.cum y (m + 1) = Cal.cum y m + Cal.len y m := by
  by_cases e : m = 12
  · subst e; simp [Cal.cum, Cal.len, Cal.tab]; omega
  · exact Cal.cum_succ y m (by omega)
theorem cum_13 (y : Int) : Cal.cum y 13 = 365 + Cal.lp y := by simp [Cal.cum, Cal.tab]
theorem cum_le (y m : Int) (h : 1 ≤ m ∧ m ≤ 13) : 0 ≤ Cal.cum y m ∧ Cal.cum y m ≤ 366 := by
  have := Cal.lp_01 y
  by_cases e : m = 13
  · subst e; rw [cum_13]; omega
  · have := Cal.cum_bd y m (by omega); have := Cal.len_bd y m (by omega); omega
theorem wd_400 (n : Int) : Cal.wd (n + 146097) = Cal.wd n := by unfold Cal.wd; omega
theorem len_400 (y m : Int) : Cal.len (y + 400) m = Cal.len y m := by unfold Cal.len; rw [Cal.lp_400]
theorem day_400 (y m d : Int) : Cal.day (y + 400) m d = Cal.day y m d + 146097 := by unfold Cal.day Cal.cum; rw [Cal.ys_400, Cal.lp_400]; omega
theorem day_first (y : Int) : Cal.day y 1 1 = Cal.ys y := by unfold Cal.day; rw [Cal.cum_one]; omega
theorem ok_28 (y m d : Int) (hy : -2000000000 ≤ y ∧ y ≤ 2000000000) (hm : 1 ≤ m ∧ m ≤ 12) (hd : 1 ≤ d ∧ d ≤ 28) : Cal.okB y m d = true := by
  have := Cal.len_bd y m hm; rw [Cal.okB_iff]; omega
/-- the relation of the loop over the months -/
def CumIs (y : Int) (s : Value) (k : Int) : Prop := s = .int .i64 (Cal.cum y k)

set_option maxHeartbeats 1000000 in
set_option maxRecDepth 100000 in
theorem cycles_core (Y M D yy mm dd n f r l : Int) (hY : Y.tmod 1999999600 = yy) (hM : 1 + M % 12 = mm) (hD : 1 + D % 28 = dd) (bM : 0 ≤ M ∧ M ≤ 255) (bD : 0 ≤ D ∧ D ≤ 255) (byy : -1999999600 < yy ∧ yy < 1999999600) (_bm : 1 ≤ mm ∧ mm ≤ 12)
    (W : World) (hT : TabW W) (bn : -800000000000 ≤ n ∧ n ≤ 800000000000) (_bf : -800000000000 ≤ f ∧ f ≤ 800000000000) (h1 : Cal.okB yy mm dd = true ∧ Cal.day yy mm dd = n) (h2 : Cal.okB (yy + 400) mm dd = true ∧ Cal.day (yy + 400) mm dd = n + 146097)
    (h3 : Cal.okB yy 1 1 = true ∧ Cal.day yy 1 1 = f) (h4 : Cal.okB (yy + 1) 1 1 = true ∧ Cal.day (yy + 1) 1 1 = f + 365 + Cal.lp yy) (hr : Cal.wd n = r ∧ Cal.wd (n + 146097) = r) (hl : Cal.len yy mm = l ∧ Cal.len (yy + 400) mm = l) :
    Calls Tryd.prog 7 #[.int .i64 Y, .int .u8 M, .int .u8 D] W fun e w' => e = .returned (.bool true) ∧ Below W.heap.size W w' := by
  have HC := Lib.hid (St.mk0 hT)
  have QY := Lib.hid hY
  have QM := Lib.hid hM
  have QD := Lib.hid hD
  have H1 := Lib.hid h1
  have H2 := Lib.hid h2
  have H3 := Lib.hid h3
  have HR := Lib.hid hr
  have HL := Lib.hid hl
  clear hT hY hM hD h1 h2 h3 hr hl
  have h5 : Cal.leapB (yy + 400) = Cal.leapB yy := Cal.leapB_400 yy
  rcases Cal.leap_cases yy with ⟨l1, l2⟩ | ⟨l1, l2⟩
  all_goals
    rw [l2] at h4
    rw [l1] at h5
    have H4 := Lib.hid h4
    have H5 := Lib.hid h5
    have L1 := Lib.hid l1
    have L2 := Lib.hid l2
    clear h4 h5 l1 l2
    go_enter Tryd.func7, Tryd.ntmps7
    go_wp2_with fail
    rw [QY.out, QM.out, QD.out]
    refine (days_at _ _ _ _ H1.out.1 H1.out.2 HC).mono ?_; rintro e w1 ⟨rfl, hd⟩; replace HC := St.hid HC hd; clear hd
    go_wp2_with fail
    refine (days_at _ _ _ _ H2.out.1 H2.out.2 HC).mono ?_; rintro e w1 ⟨rfl, hd⟩; replace HC := St.hid HC hd; clear hd
    go_wp2_with fail
    refine (days_at _ _ _ _ H3.out.1 H3.out.2 HC).mono ?_; rintro e w1 ⟨rfl, hd⟩; replace HC := St.hid HC hd; clear hd
    go_wp2_with fail
    refine (days_at _ _ _ _ H4.out.1 H4.out.2 HC).mono ?_; rintro e w1 ⟨rfl, hd⟩; replace HC := St.hid HC hd; clear hd
    go_wp2_with fail
    refine (leap_at _ _ L1.out _).mono ?_; rintro e w1 ⟨rfl, rfl⟩
    go_wp2_with fail
    go_loopw [19, 20] (fun s i wr => ∃ k : Nat, 1 ≤ k ∧ k ≤ 13 ∧ i = .int .i64 k ∧ CumIs yy s k ∧ St W wr) (fun _ i _ => 13 - (intOf i).toNat)
    case atStart => exact ⟨1, by omega, by omega, rfl, by unfold CumIs; rw [show ((1 : Nat) : Int) = 1 from rfl, Cal.cum_one], HC.out⟩
    case round =>
      clear HC
      obtain ⟨k, k1, k2, rfl, rfl, hst⟩ := hrel
      have HC := Lib.hid hst
      clear hst
      by_cases hk : k < 13
      · have cs := cum_all yy k (by omega)
        have CS := Lib.hid cs
        clear cs
        have cb := cum_le yy k (by omega)
        have lb := len_le yy k
        have lb' := Cal.len_bd yy k (by omega)
        go_wp2_with fail
        refine (len_at _ _ _ rfl HC).mono ?_; rintro e w1 ⟨rfl, hd⟩; replace HC := St.hid HC hd; clear hd
        go_wp2_with fail
        go_roundw
        case rel => exact ⟨k + 1, by omega, by omega, by go_num, by unfold CumIs; rw [show ((k + 1 : Nat) : Int) = (k : Int) + 1 from rfl, CS.out], HC.out⟩
        case measure => simp [intOf]; omega
      · obtain rfl : k = 13 := by omega
        have c13 := cum_13 yy
        rw [L2.out] at c13
        have e13 : Cal.cum yy ((13 : Nat) : Int) = Cal.cum yy 13 := rfl
        rw [e13, c13]
        clear c13 e13
        go_wp2_with fail
        refine (wd_at _ _ HR.out.1 _).mono ?_; rintro e w1 ⟨rfl, rfl⟩
        go_wp2_with fail
        refine (wd_at _ _ HR.out.2 _).mono ?_; rintro e w1 ⟨rfl, rfl⟩
        go_wp2_with fail
        refine (leap_at _ _ L1.out _).mono ?_; rintro e w1 ⟨rfl, rfl⟩
        go_wp2_with fail
        refine (leap_at _ _ H5.out _).mono ?_; rintro e w1 ⟨rfl, rfl⟩
        go_wp2_with fail
        refine (len_at _ _ _ HL.out.1 HC).mono ?_; rintro e w1 ⟨rfl, hd⟩; replace HC := St.hid HC hd; clear hd
        go_wp2_with fail
        refine (len_at _ _ _ HL.out.2 HC).mono ?_; rintro e w1 ⟨rfl, hd⟩; replace HC := St.hid HC hd; clear hd
        go_wp2_with fail
        refine (works_at HC).mono ?_; rintro e w1 ⟨rfl, hd⟩; replace HC := St.hid HC hd; clear hd
        go_wp2
        go_ret
        exact ⟨rfl, HC.out.1.below⟩
theorem cycles_walk (Y : Int) (_w1 : (Lit.int .i64 Y).wf = true) (M : Int) (w2 : (Lit.int .u8 M).wf = true) (D : Int) (w3 : (Lit.int .u8 D).wf = true) (W : World) (hT : TabW W) :
    Calls Tryd.prog 7 #[.int .i64 Y, .int .u8 M, .int .u8 D] W fun e w' => e = .returned (.bool true) ∧ Below W.heap.size W w' := by
  have hy := tm_bd Y 1999999600 (by omega)
  have b2 := bd_u8 w2
  have b3 := bd_u8 w3
  generalize hQ : Y.tmod 1999999600 = yy at *
  have k1 := ok_28 yy (1 + M % 12) (1 + D % 28) (by omega) (by omega) (by omega)
  have k2 := ok_28 (yy + 400) (1 + M % 12) (1 + D % 28) (by omega) (by omega) (by omega)
  have k3 := ok_28 yy 1 1 (by omega) (by omega) (by omega)
  have k4 := ok_28 (yy + 1) 1 1 (by omega) (by omega) (by omega)
  have i1 := Cal.day_in _ _ _ k1
  have i3 := Cal.day_in _ _ _ k3
  exact cycles_core Y M D yy _ _ _ _ _ _ hQ rfl rfl b2 b3 hy (by omega) W hT (by omega) (by omega) ⟨k1, rfl⟩ ⟨k2, day_400 _ _ _⟩ ⟨k3, rfl⟩ ⟨k4, by rw [day_first, day_first, Cal.ys_succ]⟩ ⟨rfl, wd_400 _⟩ ⟨rfl, len_400 _ _⟩
end Go.Proofs.YtllnimenbopcjaaDoor
