/- The walk of DayformWeeks: it returns true. -/
import Derived.Test.YtdlclpkhjblgjaaDoorLaw02b
import Derived.OpenShut
import Derived.IntWalk
namespace Go.Proofs.YtdlclpkhjblgjaaDoor
open Go.RowKit

theorem und40 : Tryd.prog.underlying 40 = some (.slice 2) := by kernel_rfl
theorem info2 : (Tryd.prog.info? 2).map (fun i => (i.zero, i.size, i.bytes)) = some (some (.int .i64 0), 1, 8) := by kernel_rfl
/-- how many days of the weekday there are among the first i of the month: c, the first one x0 -/
def Cnt (f x0 : Int) (i c : Nat) : Prop := f + i ≤ x0 + 7 * c ∧ (c = 0 ∨ x0 + 7 * c - 7 < f + i)
/-- these days -/
def wkL (x0 : Int) (c : Nat) : List Value := (List.range c).map fun (j : Nat) => .int .i64 (x0 + 7 * (j : Int))
theorem wkL_succ (x0 : Int) (c : Nat) : wkL x0 (c + 1) = wkL x0 c ++ [.int .i64 (x0 + 7 * (c : Int))] := by simp [wkL, List.range_succ]
theorem wkL_at (x0 : Int) (c j : Nat) (h : j < c) : (wkL x0 c)[j]? = some (.int .i64 (x0 + 7 * (j : Int))) := by simp [wkL, h]
/-- these days, in cells of the call's own -/
def Wk (w : World) (g : Nat) (x0 : Int) (c : Nat) : Prop := ∀ j : Nat, j < c → w.cell? ⟨g, j, none⟩ = some (.int .i64 (x0 + 7 * (j : Int)))
theorem Wk.hbl {w w1 : World} {g c : Nat} {x0 : Int} (h : Hid (Wk w g x0 c)) (k : Below w.heap.size w w1) : Hid (Wk w1 g x0 c) := Lib.hid fun j hj => cell_bl k (h.out j hj)
theorem Wk.hale {w w1 : World} {g c : Nat} {x0 : Int} {A : Obj} (h : Hid (Wk w g x0 c)) (k : w.alloc A = w1) : Hid (Wk w1 g x0 c) := k ▸ Lib.hid fun j hj => cell_al (h.out j hj)
theorem own_row {w : World} {B c : Nat} {v : Value} {x0 : Int} (h : w.ownsRow B 2 1 v c (wkL x0 c)) (hc : 0 < c) : ∃ g cap : Nat, v = .slice (some ⟨g, 0, none⟩) c cap ∧ c ≤ cap ∧ Wk w g x0 c := by
  rcases h.2 with ⟨_, e⟩ | ⟨g, cap, cur, hv, _, _, hcap, _⟩
  · omega
  · refine ⟨g, cap, hv, hcap, fun j hj => ?_⟩
    have := h.cells (g := g) (by rw [hv]; rfl) j _ (wkL_at x0 c j hj)
    by_cases h0 : j = 0
    · subst h0; exact this
    · simpa [Addr.add, h0] using this
theorem Gs.grown {w0 w w' : World} {e : TypeId} {s n : Nat} {v : Value} {xs : List Value} (h : Gs w0 w) (ho : w.ownsRow w0.heap.size e s v n xs) (hg : w.grownBy w' v.ownBlock) (h0 : 0 < w0.heap.size) : Gs w0 w' := by
  have hlt := ho.lt
  refine ⟨h.1.grown hg h.1.size (fun k hk => (hlt k hk).1), fun i hi => hg.cell (h.2 i hi) ?_⟩
  intro e
  have := (hlt 0 e.symm).1
  omega
theorem cnt_end (f x0 : Int) (n c : Nat) (hn : 28 ≤ n ∧ n ≤ 31) (hx : f ≤ x0 ∧ x0 ≤ f + 6) (h : Cnt f x0 n c) : c = 4 ∨ c = 5 := by
  obtain ⟨h1, h2⟩ := h
  omega
theorem from_va (y m wk f x0 : Int) (n : Nat) (ho : Cal.okB y m 1 = true) (hf : Cal.day y m 1 = f) (hn : Cal.len y m = n) (hnb : 28 ≤ n ∧ n ≤ 31) (hw : 0 ≤ wk ∧ wk ≤ 6) (hx : f ≤ x0 ∧ x0 ≤ f + 6) (hwd : Cal.wd x0 = wk) (k : Nat) (hk : k < 4) : Dfm.va y m 3 wk (1 + 7 * (k : Int)) = x0 + 7 * k ∧ Dfm.er y m 3 wk (1 + 7 * (k : Int)) = 0 := by
  have hok : Dfm.okD 3 wk (1 + 7 * (k : Int)) = true := by rw [Dfm.okD_iff]; simp [Dfm.KW, Dfm.KL, Dfm.KM]; omega
  have he : Dfm.er y m 3 wk (1 + 7 * (k : Int)) = 0 := by simp [Dfm.er, ho, hok]; omega
  refine ⟨?_, he⟩
  have hd := Dfm.day_lin y m (1 + 7 * (k : Int))
  have e : Dfm.on y m 3 wk (1 + 7 * (k : Int)) = Dfm.ob (Cal.day y m (1 + 7 * (k : Int)) + 6) wk := by simp [Dfm.on]
  rw [show Dfm.va y m 3 wk (1 + 7 * (k : Int)) = Dfm.on y m 3 wk (1 + 7 * (k : Int)) from if_pos he, e]
  exact Dfm.ob_uniq _ _ _ (by unfold Cal.wd at *; omega) (by omega) (by omega)
theorem last_va (y m wk f x0 : Int) (n c : Nat) (ho : Cal.okB y m 1 = true) (hf : Cal.day y m 1 = f) (hn : Cal.len y m = n) (hnb : 28 ≤ n ∧ n ≤ 31) (hw : 0 ≤ wk ∧ wk ≤ 6) (hwd : Cal.wd x0 = wk) (hc : Cnt f x0 n c) (hc0 : 0 < c) : Dfm.va y m 2 wk 0 = x0 + 7 * c - 7 ∧ Dfm.er y m 2 wk 0 = 0 ∧ Dfm.va y m 4 wk n = x0 + 7 * c - 7 ∧ Dfm.er y m 4 wk n = 0 := by
  obtain ⟨h1, h2⟩ := hc
  have hok : Dfm.okD 2 wk 0 = true := by rw [Dfm.okD_iff]; simp [Dfm.KW, Dfm.KL, Dfm.KM]; omega
  have hok4 : Dfm.okD 4 wk n = true := by rw [Dfm.okD_iff]; simp [Dfm.KW, Dfm.KL, Dfm.KM]; omega
  have he : Dfm.er y m 2 wk 0 = 0 := by simp [Dfm.er, ho, hok]; omega
  have he4 : Dfm.er y m 4 wk n = 0 := by simp [Dfm.er, ho, hok4]; omega
  have hd := Dfm.day_lin y m n
  refine ⟨?_, he, ?_, he4⟩
  · have e : Dfm.on y m 2 wk 0 = Dfm.ob (Cal.day y m n) wk := by simp [Dfm.on, hn]
    rw [show Dfm.va y m 2 wk 0 = Dfm.on y m 2 wk 0 from if_pos he, e]
    exact Dfm.ob_uniq _ _ _ (by unfold Cal.wd at *; omega) (by omega) (by omega)
  · have e : Dfm.on y m 4 wk n = Dfm.ob (Cal.day y m n) wk := by simp [Dfm.on]
    rw [show Dfm.va y m 4 wk n = Dfm.on y m 4 wk n from if_pos he4, e]
    exact Dfm.ob_uniq _ _ _ (by unfold Cal.wd at *; omega) (by omega) (by omega)
set_option maxRecDepth 100000 in
set_option maxHeartbeats 2000000 in
theorem weeks_core (W Y M wk y f x0 : Int) (n : Nat) (hW : 0 ≤ W ∧ W ≤ 255) (hY : -2147483648 ≤ Y ∧ Y ≤ 2147483647) (_hM : 0 ≤ M ∧ M ≤ 255) (h1 : W % 7 = wk) (h4 : Dfm.cl Y = y) (_hyb : -2000000000 ≤ y ∧ y ≤ 2000000000)
    (ho : Cal.okB y (1 + M % 12) 1 = true) (hf : Cal.day y (1 + M % 12) 1 = f) (hn : Cal.len y (1 + M % 12) = n) (hnb : 28 ≤ n ∧ n ≤ 31) (hfb : -730485719528 ≤ f ∧ f ≤ 730484280837) (hx : f ≤ x0 ∧ x0 ≤ f + 6) (hwd : Cal.wd x0 = wk)
    (W0 : World) (hT : TabW W0) :
    Calls Tryd.prog 7 #[.int .u8 W, .int .i32 Y, .int .u8 M] W0 fun e w' => e = .returned (.bool true) ∧ Below W0.heap.size W0 w' := by
  have hw6 : 0 ≤ wk ∧ wk ≤ 6 := by omega
  have hz0 := hT.size
  have HC := Lib.hid (Gs.mk0 hT)
  have HFV := Lib.hid (from_va y (1 + M % 12) wk f x0 n ho hf hn hnb hw6 hx hwd)
  have HLV := Lib.hid (fun c => last_va y (1 + M % 12) wk f x0 n c ho hf hn hnb hw6 hwd)
  have H := Lib.hid (And.intro h4 (And.intro hY (And.intro ho (And.intro hf hn))))
  have HWD := Lib.hid hwd
  have hb12 : 0 ≤ M % 12 ∧ M % 12 ≤ 11 := by omega
  have hni : (28 : Int) ≤ n ∧ (n : Int) ≤ 31 := by omega
  clear hT h4 hY ho hf hn hwd
  go_enter Tryd.func7, Tryd.ntmps7
  go_wp2_with fail
  refine (year2_at _ _ H.out.1 H.out.2.1 _).mono ?_; rintro e w1 ⟨rfl, rfl⟩
  go_wp2_with fail
  refine (days_g _ _ _ _ H.out.2.2.1 H.out.2.2.2.1 HC).mono ?_; rintro e w1 ⟨rfl, hd⟩; replace HC := Gs.hdw HC hd; clear hd
  go_wp2_with fail
  refine (len_g _ _ _ H.out.2.2.2.2 HC).mono ?_; rintro e w2 ⟨rfl, hd⟩; replace HC := Gs.hdw HC hd; clear hd
  go_wp2_with fail
  go_loopw [14, 13] (fun z v wr => ∃ i c : Nat, i ≤ n ∧ z = .int .i64 (f + i) ∧ Cnt f x0 i c ∧ wr.ownsRow W0.heap.size 2 1 v c (wkL x0 c) ∧ Gs W0 wr) (fun z _ _ => (f + n - intOf z).toNat)
  case atStart => exact ⟨0, 0, by omega, by go_num, ⟨by omega, Or.inl rfl⟩, World.ownsRow_nil _ _ _ _, HC.out⟩
  case round =>
    obtain ⟨i, c, hi, rfl, hcnt, hown, hg⟩ := hrel
    clear HC
    have HC := Lib.hid hg
    have HO := Lib.hid hown
    have hc1 := hcnt.1
    have hc2 := hcnt.2
    have HCN := Lib.hid hcnt
    clear hg hown hcnt
    by_cases hin : i < n
    · have b0 : (0 : Int) ≤ i := by omega
      have b1 : (i : Int) < n := by omega
      have hx2 := HWD.out
      by_cases hw : f + i = x0 + 7 * (c : Int)
      · have hr : Cal.wd (f + i) = wk := by unfold Cal.wd at *; omega
        have HR := Lib.hid hr
        have HW := Lib.hid hw
        have hcn : Cnt f x0 (i + 1) (c + 1) := ⟨by omega, Or.inr (by omega)⟩
        have HCN2 := Lib.hid hcn
        have hc31 : c ≤ 31 := by omega
        clear hr hw hcn hx2 HCN hc1 hc2
        obtain ⟨i0, hi0, hy0, hy1, hy2⟩ := info_parts info2
        go_wp2_with fail
        refine (weekday_at _ _ HR.out _).mono ?_; rintro e w3 ⟨rfl, rfl⟩
        go_wp2_with (at_builtin; refine wpList_append_own _ rfl _ _ 40 rfl W0.heap.size 2 i0 (.int .i64 0) 1 8 und40 hi0 hy0 hy1 hy2 rfl (by decide) _ _ _ rfl (HO.out.alloc _) ⟨wr.heap.size, 0, none⟩ 1 1 [.int .i64 (f + i)] rfl rfl ?c1 ?c2 ?c3 ?c4 ?c5 ?_)
        case c1 =>
          intro j u hj
          match j, hj with
          | 0, hj => simp at hj; subst hj; simp [Addr.add]
        case c2 => intro u hu; simp at hu; subst hu; rfl
        case c3 => unfold maxLen; omega
        case c4 => omega
        case c5 => have := HC.out.1.size; simp; omega
        intro v' w4 hown' hgrow _
        have hg2 := Gs.grown (Gs.hal HC _).out (HO.out.alloc _) hgrow hz0
        have how2 : w4.ownsRow W0.heap.size 2 1 v' (c + 1) (wkL x0 (c + 1)) := by rw [wkL_succ, ← HW.out]; exact hown'
        clear hown' hgrow
        have HG2 := Lib.hid hg2
        have HO2 := Lib.hid how2
        clear hg2 how2
        go_wp2
        go_roundw
        case rel => exact ⟨i + 1, c + 1, by omega, by go_num, HCN2.out, HO2.out, HG2.out⟩
        case measure => simp [intOf]; omega
      · have hr : ¬ Cal.wd (f + i) = wk := by unfold Cal.wd at *; omega
        have hcn : Cnt f x0 (i + 1) c := ⟨by omega, by omega⟩
        have HCN2 := Lib.hid hcn
        clear hw hcn hx2 HCN hc1 hc2
        generalize hrr : Cal.wd (f + i) = r at *
        have HR := Lib.hid hrr
        have hrb : (r == wk) = false := by simpa using hr
        clear hrr
        go_wp2_with fail
        refine (weekday_at _ _ HR.out _).mono ?_; rintro e w3 ⟨rfl, rfl⟩
        go_wp2
        go_roundw
        case rel => exact ⟨i + 1, c, by omega, by go_num, HCN2.out, HO.out, HC.out⟩
        case measure => simp [intOf]; omega
    · obtain rfl : n = i := by omega
      have h45 := cnt_end f x0 n c hnb hx HCN.out
      obtain ⟨g, cap, rfl, hcap, hwk⟩ := own_row HO.out (by omega)
      have HV := Lib.hid hwk
      have hl := HLV.out c HCN.out (by omega)
      have HL := Lib.hid hl
      clear hwk hl HO HCN hc1 hc2 hin hi
      rcases h45 with rfl | rfl
      · have hl := HL.out
        rw [show x0 + 7 * ((4 : Nat) : Int) - 7 = x0 + 21 from by omega] at hl
        have HL2 := Lib.hid hl
        clear hl HL
        go_wp2_with fail
        go_loopw [15] (fun z wx => ∃ k : Nat, k ≤ 4 ∧ z = .int .i64 k ∧ Gs W0 wx ∧ Wk wx g x0 4) (fun z _ => (4 - intOf z).toNat)
        case atStart => exact ⟨0, by omega, rfl, HC.out, HV.out⟩
        case round =>
          obtain ⟨k, hk, rfl, hg, hv⟩ := hrel
          clear HC HV
          have HC := Lib.hid hg
          have HV := Lib.hid hv
          clear hg hv
          by_cases hk4 : k < 4
          · have b0 : (0 : Int) ≤ k := by omega
            have b1 : (k : Int) < 4 := by omega
            have HF := Lib.hid (HFV.out k hk4)
            go_wp2_with fail
            refine (from_any wk (1 + 7 * (k : Int)) _).mono ?_; rintro e w3 ⟨rfl, hw⟩; replace HC := Gs.hale HC hw; replace HV := Wk.hale HV hw; clear hw
            go_wp2_with fail
            refine (on_at _ _ _ _ _ _ _ HF.out.1 HF.out.2 HC).mono ?_; rintro e w4 ⟨rfl, hb⟩; replace HC := Gs.hbl HC hb; replace HV := Wk.hbl HV hb; clear hb
            have p := HV.out k (by omega)
            go_wp2
            go_roundw
            case rel => exact ⟨k + 1, by omega, by go_num, HC.out, HV.out⟩
            case measure => simp [intOf]; omega
          · obtain rfl : k = 4 := by omega
            rw [show ((4 : Nat) : Int) = 4 from rfl]
            go_wp2_with fail
            refine (last_any wk _).mono ?_; rintro e w3 ⟨rfl, hw⟩; replace HC := Gs.hale HC hw; replace HV := Wk.hale HV hw; clear hw
            go_wp2_with fail
            refine (on_at _ _ _ _ _ _ _ HL2.out.1 HL2.out.2.1 HC).mono ?_; rintro e w4 ⟨rfl, hb⟩; replace HC := Gs.hbl HC hb; replace HV := Wk.hbl HV hb; clear hb
            go_wp2_with fail
            refine (to_any wk n _).mono ?_; rintro e w5 ⟨rfl, hw⟩; replace HC := Gs.hale HC hw; replace HV := Wk.hale HV hw; clear hw
            go_wp2_with fail
            refine (on_at _ _ _ _ _ _ _ HL2.out.2.2.1 HL2.out.2.2.2 HC).mono ?_; rintro e w6 ⟨rfl, hb⟩; replace HC := Gs.hbl HC hb; replace HV := Wk.hbl HV hb; clear hb
            have p : w6.cell? ⟨g, 3, none⟩ = some (.int .i64 (x0 + 21)) := HV.out 3 (by omega)
            go_wp2_with fail
            refine (works2_any HC).mono ?_; rintro e w7 ⟨rfl, hb⟩; replace HC := Gs.hbl HC hb; clear hb
            go_wp2
            go_ret
            exact ⟨rfl, HC.out.1⟩
      · have hl := HL.out
        rw [show x0 + 7 * ((5 : Nat) : Int) - 7 = x0 + 28 from by omega] at hl
        have HL2 := Lib.hid hl
        clear hl HL
        go_wp2_with fail
        go_loopw [15] (fun z wx => ∃ k : Nat, k ≤ 4 ∧ z = .int .i64 k ∧ Gs W0 wx ∧ Wk wx g x0 5) (fun z _ => (4 - intOf z).toNat)
        case atStart => exact ⟨0, by omega, rfl, HC.out, HV.out⟩
        case round =>
          obtain ⟨k, hk, rfl, hg, hv⟩ := hrel
          clear HC HV
          have HC := Lib.hid hg
          have HV := Lib.hid hv
          clear hg hv
          by_cases hk4 : k < 4
          · have b0 : (0 : Int) ≤ k := by omega
            have b1 : (k : Int) < 4 := by omega
            have HF := Lib.hid (HFV.out k hk4)
            go_wp2_with fail
            refine (from_any wk (1 + 7 * (k : Int)) _).mono ?_; rintro e w3 ⟨rfl, hw⟩; replace HC := Gs.hale HC hw; replace HV := Wk.hale HV hw; clear hw
            go_wp2_with fail
            refine (on_at _ _ _ _ _ _ _ HF.out.1 HF.out.2 HC).mono ?_; rintro e w4 ⟨rfl, hb⟩; replace HC := Gs.hbl HC hb; replace HV := Wk.hbl HV hb; clear hb
            have p := HV.out k (by omega)
            go_wp2
            go_roundw
            case rel => exact ⟨k + 1, by omega, by go_num, HC.out, HV.out⟩
            case measure => simp [intOf]; omega
          · obtain rfl : k = 4 := by omega
            rw [show ((4 : Nat) : Int) = 4 from rfl]
            go_wp2_with fail
            refine (last_any wk _).mono ?_; rintro e w3 ⟨rfl, hw⟩; replace HC := Gs.hale HC hw; replace HV := Wk.hale HV hw; clear hw
            go_wp2_with fail
            refine (on_at _ _ _ _ _ _ _ HL2.out.1 HL2.out.2.1 HC).mono ?_; rintro e w4 ⟨rfl, hb⟩; replace HC := Gs.hbl HC hb; replace HV := Wk.hbl HV hb; clear hb
            go_wp2_with fail
            refine (to_any wk n _).mono ?_; rintro e w5 ⟨rfl, hw⟩; replace HC := Gs.hale HC hw; replace HV := Wk.hale HV hw; clear hw
            go_wp2_with fail
            refine (on_at _ _ _ _ _ _ _ HL2.out.2.2.1 HL2.out.2.2.2 HC).mono ?_; rintro e w6 ⟨rfl, hb⟩; replace HC := Gs.hbl HC hb; replace HV := Wk.hbl HV hb; clear hb
            have p : w6.cell? ⟨g, 4, none⟩ = some (.int .i64 (x0 + 28)) := HV.out 4 (by omega)
            go_wp2_with fail
            refine (works2_any HC).mono ?_; rintro e w7 ⟨rfl, hb⟩; replace HC := Gs.hbl HC hb; clear hb
            go_wp2
            go_ret
            exact ⟨rfl, HC.out.1⟩
theorem weeks_walk (W : Int) (wW : (Lit.int .u8 W).wf = true) (Y : Int) (wY : (Lit.int .i32 Y).wf = true) (M : Int) (wM : (Lit.int .u8 M).wf = true) (W0 : World) (hT : TabW W0) :
    Calls Tryd.prog 7 #[.int .u8 W, .int .i32 Y, .int .u8 M] W0 fun e w' => e = .returned (.bool true) ∧ Below W0.heap.size W0 w' := by
  have hy := Dfm.cl_bd Y
  have h1 : Cal.okB (Dfm.cl Y) (1 + M % 12) 1 = true := (Dfm.ok1 _ _).2 (by omega)
  have hl := Cal.len_bd (Dfm.cl Y) (1 + M % 12) (by omega)
  have hf := Dfm.day1_bd _ _ h1
  have hw := Dfm.ob_wd (Cal.day (Dfm.cl Y) (1 + M % 12) 1 + 6) (W % 7) (by omega)
  exact weeks_core W Y M _ _ _ (Dfm.ob (Cal.day (Dfm.cl Y) (1 + M % 12) 1 + 6) (W % 7)) (Cal.len (Dfm.cl Y) (1 + M % 12)).toNat (bounds_u8 wW) (bounds_i32 wY) (bounds_u8 wM) rfl rfl hy h1 rfl (by omega) (by omega) hf (by omega) hw.1 W0 hT
end Go.Proofs.YtdlclpkhjblgjaaDoor
