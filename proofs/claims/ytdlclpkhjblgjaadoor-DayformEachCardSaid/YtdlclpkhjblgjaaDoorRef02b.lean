/- The contracts of the document's own answers for layer 2: the day that a form means, found day by day; years without an end. -/
import Derived.Test.YtdlclpkhjblgjaaDoorRef02
namespace Go.Proofs.YtdlclpkhjblgjaaDoor
open Go.RowKit

theorem up_ne (n wk z : Int) (h1 : n ≤ z) (h2 : z < Dfm.ob (n + 6) wk) (hw : 0 ≤ wk ∧ wk ≤ 6) : (Cal.wd z != wk) = true := by
  have := Dfm.ob_wd (n + 6) wk hw
  rw [bne_iff_ne]; intro h
  have := Dfm.ob_uniq (n + 6) z wk h (by omega) (by omega); omega
theorem dn_ne (n wk z : Int) (h1 : z ≤ n) (h2 : Dfm.ob n wk < z) (hw : 0 ≤ wk ∧ wk ≤ 6) : (Cal.wd z != wk) = true := by
  have := Dfm.ob_wd n wk hw
  rw [bne_iff_ne]; intro h
  have := Dfm.ob_uniq n z wk h (by omega) (by omega); omega
theorem at_eq (n wk : Int) (hw : 0 ≤ wk ∧ wk ≤ 6) : (Cal.wd (Dfm.ob n wk) != wk) = false := by
  have := (Dfm.ob_wd n wk hw).1
  simp [this]
theorem rdays_at (y m d n : Int) (ho : Cal.okB y m d = true) (hn : Cal.day y m d = n) (w : World) : Calls Tryd.prog 29 #[.int .i64 y, .int .i64 m, .int .i64 d] w fun e w' => e = .returned (.tuple #[.int .i64 n, .int .i64 0]) ∧ w = w' := hn ▸ rdays_yes y m d w ho
theorem rlen_at (y m r : Int) (hr : Cal.len y m = r) (w : World) : Calls Tryd.prog 28 #[.int .i64 y, .int .i64 m] w fun e w' => e = .returned (.int .i64 r) ∧ w = w' := hr ▸ rlen_any y m w
set_option maxHeartbeats 1000000 in
theorem ron_yes (y m k wk d r : Int) (h : Cal.okB y m 1 = true) (hok : Dfm.okD k wk d = true) (hl : d ≤ Cal.len y m) (hr : Dfm.on y m k wk d = r) (w : World) : Calls Tryd.prog 10 #[.int .i64 y, .int .i64 m, .agg #[.int .i64 k, .int .i64 wk, .int .i64 d]] w fun e w' => e = .returned (.tuple #[.int .i64 r, .int .i64 0]) ∧ Below w.heap.size w w' := by
  have hm := (Dfm.ok1 y m).1 h
  have lb := Cal.len_bd y m ⟨hm.2.2.1, hm.2.2.2⟩
  have db := Dfm.day1_bd y m h
  have H : Hid (inB m 1 12 = true) := Lib.hid (by simp [inB]; omega)
  have H1 := Lib.hid h
  have h1 : decide (y < -2000000000) = false := by simp; omega
  have h2 : decide (2000000000 < y) = false := by simp; omega
  have HK : Hid ((if Dfm.okD k wk d = true then (0 : Int) else 2) = 0) := Lib.hid (by rw [hok]; rfl)
  have HS := Lib.hid (Cs.new w [.int .i64 k, .int .i64 wk, .int .i64 d] 23)
  have hb := Dfm.ok_bd _ _ _ hok
  obtain ⟨b0, b00, b1, b2, b3, b4⟩ := hb
  have e1 := Dfm.day_lin y m d
  have e2 := Dfm.day_lin y m (Cal.len y m)
  have hkk := kk k ⟨b0, b00⟩
  clear h hok hm
  generalize hq : Cal.len y m = q at *
  generalize ha : Cal.day y m 1 = a5 at *
  have HQ := Lib.hid hq
  have HA := Lib.hid ha
  have HR := Lib.hid hr
  have E := Lib.hid (And.intro e1 e2)
  clear hq ha hr e1 e2
  rcases hkk with rfl | rfl | rfl | rfl
  all_goals
    have hr := HR.out
    simp [Dfm.on, HQ.out] at hr
    simp only [E.out.1, E.out.2] at hr
    replace HR := Lib.hid hr
    clear hr
    go_enter Tryd.func10, Tryd.ntmps10
    go_wp2_with fail
    refine (rin2_at _ _ _ _ H.out _).mono ?_; rintro e w1 ⟨rfl, rfl⟩
    go_wp2_with fail
    refine (rcheck_at _ _ _ _ HK.out _).mono ?_; rintro e w1 ⟨rfl, hb⟩
    have HB : Hid (Below w.heap.size w w1) := Lib.hid (((Below.refl _ _).alloc (Nat.le_refl _) _).trans (hb.mono (by simp)))
    have hs := Cs.hbl HS hb
    have p0 := hs.out.at 0 rfl
    have p2 := hs.out.at 2 rfl
    clear hb
    go_wp2
    go_quiet ((go_at_call 28; exact dw_same (rlen_at _ _ _ HQ.out _)))
    go_wp2_with fail
    refine (rdays_at _ _ _ _ H1.out HA.out _).mono ?_; rintro e w2 ⟨rfl, rfl⟩
    go_wp2_with fail
  · go_ret2
    exact ⟨ret_two (by have := HR.out; omega) rfl, HB.out.trans (Dw.below' ⟨_, rfl⟩ _)⟩
  · refine (rlen_at _ _ _ HQ.out _).mono ?_; rintro e w2 ⟨rfl, rfl⟩
    go_wp2_with fail
    replace HR : Hid (Dfm.ob (a5 + q - 1) wk = r) := Lib.hid (by have := HR.out; rw [← this]; congr 1; omega)
    go_loopw [11] (fun x wr => ∃ z : Int, x = .int .i64 z ∧ z ≤ a5 + q - 1 ∧ Dfm.ob (a5 + q - 1) wk ≤ z ∧ Dw w1 wr) (fun x _ => (intOf x - Dfm.ob (a5 + q - 1) wk).toNat)
    case atStart => exact ⟨_, rfl, by omega, by have := Dfm.ob_wd (a5 + q - 1) wk (by omega); omega, _, rfl⟩
    case round =>
      obtain ⟨z, rfl, hz1, hz2, hdr⟩ := hrel
      have HDR := Lib.hid hdr
      have hs2 := Cs.hdw hs hdr
      have p1 := hs2.out.at 1 rfl
      have hne := dn_ne (a5 + q - 1) wk z hz1
      have HNE := Lib.hid hne
      have heq := at_eq (a5 + q - 1) wk (by omega)
      have HEQ := Lib.hid heq
      have hob := Dfm.ob_wd (a5 + q - 1) wk (by omega)
      have hob2 := hob.2
      clear hdr hne heq hob p0 p2
      generalize ht : Dfm.ob (a5 + q - 1) wk = t at *
      by_cases hlt : t < z
      · have g := HNE.out hlt (by omega)
        go_wp2
        go_quiet ((go_at_call 30; exact dw_same (rwd_any _ _)))
        go_wp2
        go_roundw
        case rel => exact ⟨z - 1, rfl, by omega, by omega, HDR.out.drewN _⟩
        case measure => simp [intOf]; omega
      · obtain rfl : z = t := by omega
        have g := HEQ.out
        clear ht
        go_wp2
        go_quiet ((go_at_call 30; exact dw_same (rwd_any _ _)))
        go_wp2
        go_ret2
        exact ⟨ret_two HR.out rfl, HB.out.trans ((HDR.out.drewN _).below' _)⟩
  · replace HR : Hid (Dfm.ob (a5 + d - 1 + 6) wk = r) := Lib.hid (by have := HR.out; rw [← this]; congr 1; omega)
    go_loopw [10] (fun x wr => ∃ z : Int, x = .int .i64 z ∧ a5 + d - 1 ≤ z ∧ z ≤ Dfm.ob (a5 + d - 1 + 6) wk ∧ Dw w1 wr) (fun x _ => (Dfm.ob (a5 + d - 1 + 6) wk - intOf x).toNat)
    case atStart => exact ⟨_, rfl, by omega, by have := Dfm.ob_wd (a5 + d - 1 + 6) wk (by omega); omega, _, rfl⟩
    case round =>
      obtain ⟨z, rfl, hz1, hz2, hdr⟩ := hrel
      have HDR := Lib.hid hdr
      have hs2 := Cs.hdw hs hdr
      have p1 := hs2.out.at 1 rfl
      have hne := up_ne (a5 + d - 1) wk z hz1
      have HNE := Lib.hid hne
      have heq := at_eq (a5 + d - 1 + 6) wk (by omega)
      have HEQ := Lib.hid heq
      have hob := Dfm.ob_wd (a5 + d - 1 + 6) wk (by omega)
      have hob2 := hob.2
      clear hdr hne heq hob p0 p2
      generalize ht : Dfm.ob (a5 + d - 1 + 6) wk = t at *
      by_cases hlt : z < t
      · have g := HNE.out hlt (by omega)
        go_wp2
        go_quiet ((go_at_call 30; exact dw_same (rwd_any _ _)))
        go_wp2
        go_roundw
        case rel => exact ⟨z + 1, rfl, by omega, by omega, HDR.out.drewN _⟩
        case measure => simp [intOf]; omega
      · obtain rfl : z = t := by omega
        have g := HEQ.out
        clear ht
        go_wp2
        go_quiet ((go_at_call 30; exact dw_same (rwd_any _ _)))
        go_wp2
        go_ret2
        exact ⟨ret_two HR.out rfl, HB.out.trans ((HDR.out.drewN _).below' _)⟩
  · replace HR : Hid (Dfm.ob (a5 + d - 1) wk = r) := Lib.hid (by have := HR.out; rw [← this]; congr 1; omega)
    go_loopw [11] (fun x wr => ∃ z : Int, x = .int .i64 z ∧ z ≤ a5 + d - 1 ∧ Dfm.ob (a5 + d - 1) wk ≤ z ∧ Dw w1 wr) (fun x _ => (intOf x - Dfm.ob (a5 + d - 1) wk).toNat)
    case atStart => exact ⟨_, rfl, by omega, by have := Dfm.ob_wd (a5 + d - 1) wk (by omega); omega, _, rfl⟩
    case round =>
      obtain ⟨z, rfl, hz1, hz2, hdr⟩ := hrel
      have HDR := Lib.hid hdr
      have hs2 := Cs.hdw hs hdr
      have p1 := hs2.out.at 1 rfl
      have hne := dn_ne (a5 + d - 1) wk z hz1
      have HNE := Lib.hid hne
      have heq := at_eq (a5 + d - 1) wk (by omega)
      have HEQ := Lib.hid heq
      have hob := Dfm.ob_wd (a5 + d - 1) wk (by omega)
      have hob2 := hob.2
      clear hdr hne heq hob p0 p2
      generalize ht : Dfm.ob (a5 + d - 1) wk = t at *
      by_cases hlt : t < z
      · have g := HNE.out hlt (by omega)
        go_wp2
        go_quiet ((go_at_call 30; exact dw_same (rwd_any _ _)))
        go_wp2
        go_roundw
        case rel => exact ⟨z - 1, rfl, by omega, by omega, HDR.out.drewN _⟩
        case measure => simp [intOf]; omega
      · obtain rfl : z = t := by omega
        have g := HEQ.out
        clear ht
        go_wp2
        go_quiet ((go_at_call 30; exact dw_same (rwd_any _ _)))
        go_wp2
        go_ret2
        exact ⟨ret_two HR.out rfl, HB.out.trans ((HDR.out.drewN _).below' _)⟩
end Go.Proofs.YtdlclpkhjblgjaaDoor
