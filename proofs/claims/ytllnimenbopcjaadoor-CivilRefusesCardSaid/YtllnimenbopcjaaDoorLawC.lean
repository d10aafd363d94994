/- The walks of CivilBack and CivilCycles: each returns true. -/
import Derived.Test.YtllnimenbopcjaaDoorLawB
namespace Go.Proofs.YtllnimenbopcjaaDoor
open Go.RowKit

theorem bd_u8 {a : Int} (h : (Lit.int .u8 a).wf = true) : 0 ≤ a ∧ a ≤ 255 := bounds_u8 h

theorem back_core (days n y m d Y M D yy mm dd l : Int) (hq : days.tmod 700000000000 = n) (hY : Y.tmod 2000000001 = yy) (hM : M % 14 = mm) (hD : D % 34 = dd) (bM : 0 ≤ M ∧ M ≤ 255) (bD : 0 ≤ D ∧ D ≤ 255) (_bmm : 0 ≤ mm ∧ mm ≤ 13) (bdd : 0 ≤ dd ∧ dd ≤ 33) (byy : -2000000000 ≤ yy ∧ yy ≤ 2000000000)
    (W : World) (hT : TabW W) (hn : -700000000000 < n ∧ n < 700000000000) (h1 : Cal.dY n = y ∧ Cal.dM n = m ∧ Cal.dD n = d) (h2 : Cal.okB y m d = true ∧ Cal.day y m d = n) (hl : Cal.len y m = l) (bl : 1 ≤ d ∧ d ≤ l) (_hll : Cal.len yy mm ≤ 31) :
    Calls Tryd.prog 5 #[.int .i64 days, .int .i64 Y, .int .u8 M, .int .u8 D] W fun e w' => e = .returned (.bool true) ∧ Below W.heap.size W w' := by
  have HC := Lib.hid (St.mk0 hT)
  have Q := Lib.hid hq
  have QY := Lib.hid hY
  have QM := Lib.hid hM
  have QD := Lib.hid hD
  have H1 := Lib.hid h1
  have H2 := Lib.hid h2
  have HL := Lib.hid hl
  clear hT hq hY hM hD h1 h2 hl
  have hok : (dd < 1 ∧ Cal.okB yy mm dd = false) ∨ (1 ≤ dd ∧ Cal.len yy mm < dd ∧ Cal.okB yy mm dd = false) ∨ (1 ≤ dd ∧ dd ≤ Cal.len yy mm ∧ Cal.okB yy mm dd = true) := by
    unfold Cal.okB
    by_cases c : 1 ≤ dd
    · by_cases c' : dd ≤ Cal.len yy mm
      · exact .inr (.inr ⟨c, c', by simp; omega⟩)
      · exact .inr (.inl ⟨c, by omega, by simp; omega⟩)
    · exact .inl ⟨by omega, by simp; omega⟩
  have HOK := Lib.hid hok
  clear hok
  go_enter Tryd.func5, Tryd.ntmps5
  go_wp2_with fail
  rw [Q.out]
  refine (date_at n _ _ _ (by omega) H1.out.1 H1.out.2.1 H1.out.2.2 _).mono ?_; rintro e w1 ⟨rfl, rfl⟩
  go_wp2_with fail
  refine (days_at y m d n H2.out.1 H2.out.2 HC).mono ?_; rintro e w1 ⟨rfl, hd⟩; replace HC := St.hid HC hd; clear hd
  go_wp2_with fail
  refine (len_at _ _ _ HL.out HC).mono ?_; rintro e w1 ⟨rfl, hd⟩; replace HC := St.hid HC hd; clear hd
  go_wp2_with fail
  rw [QY.out, QM.out, QD.out]
  rcases HOK.out with ⟨o1, o2⟩ | ⟨o1, o2, o3⟩ | ⟨o1, o2, o3⟩
  · have O2 := Lib.hid o2
    clear o2
    refine (days_at_no yy mm dd O2.out HC).mono ?_; rintro e w1 ⟨rfl, hd⟩; replace HC := St.hid HC hd; clear hd
    go_wp2_with fail
    refine (works_at HC).mono ?_; rintro e w1 ⟨rfl, hd⟩; replace HC := St.hid HC hd; clear hd
    go_wp2
    go_ret
    exact ⟨rfl, HC.out.1.below⟩
  · have O3 := Lib.hid o3
    clear o3
    refine (days_at_no yy mm dd O3.out HC).mono ?_; rintro e w1 ⟨rfl, hd⟩; replace HC := St.hid HC hd; clear hd
    go_wp2_with fail
    refine (len_at _ _ _ rfl HC).mono ?_; rintro e w1 ⟨rfl, hd⟩; replace HC := St.hid HC hd; clear hd
    go_wp2_with fail
    refine (works_at HC).mono ?_; rintro e w1 ⟨rfl, hd⟩; replace HC := St.hid HC hd; clear hd
    go_wp2
    go_ret
    exact ⟨rfl, HC.out.1.below⟩
  · have O3 := Lib.hid o3
    have hin := Cal.day_in yy mm dd o3
    have hdd := Cal.day_date yy mm dd o3
    generalize hk : Cal.day yy mm dd = k at *
    have HK := Lib.hid hk
    have HDD := Lib.hid hdd
    clear o3 hdd hk
    refine (days_at yy mm dd k O3.out HK.out HC).mono ?_; rintro e w1 ⟨rfl, hd⟩; replace HC := St.hid HC hd; clear hd
    go_wp2_with fail
    refine (len_at _ _ _ rfl HC).mono ?_; rintro e w1 ⟨rfl, hd⟩; replace HC := St.hid HC hd; clear hd
    go_wp2_with fail
    refine (date_at k _ _ _ (by omega) HDD.out.1 HDD.out.2.1 HDD.out.2.2 _).mono ?_; rintro e w1 ⟨rfl, rfl⟩
    go_wp2_with fail
    refine (works_at HC).mono ?_; rintro e w1 ⟨rfl, hd⟩; replace HC := St.hid HC hd; clear hd
    go_wp2
    go_ret
    exact ⟨rfl, HC.out.1.below⟩
theorem back_walk (days : Int) (_w0 : (Lit.int .i64 days).wf = true) (Y : Int) (_w1 : (Lit.int .i64 Y).wf = true) (M : Int) (w2 : (Lit.int .u8 M).wf = true) (D : Int) (w3 : (Lit.int .u8 D).wf = true) (W : World) (hT : TabW W) :
    Calls Tryd.prog 5 #[.int .i64 days, .int .i64 Y, .int .u8 M, .int .u8 D] W fun e w' => e = .returned (.bool true) ∧ Below W.heap.size W w' := by
  have hb := tm_bd days 700000000000 (by omega)
  have hy := tm_bd Y 2000000001 (by omega)
  have b2 := bd_u8 w2
  have b3 := bd_u8 w3
  generalize hq : days.tmod 700000000000 = n at *
  generalize hQ : Y.tmod 2000000001 = yy at *
  obtain ⟨e, v1, v2, v3, v4⟩ := Cal.date_day n
  have hk := Cal.date_ok n (by omega)
  exact back_core days n _ _ _ Y M D yy (M % 14) (D % 34) _ hq hQ rfl rfl b2 b3 (by omega) (by omega) (by omega) W hT hb ⟨rfl, rfl, rfl⟩ ⟨hk, e⟩ rfl ⟨v3, v4⟩ (len_le _ _)
end Go.Proofs.YtllnimenbopcjaaDoor
