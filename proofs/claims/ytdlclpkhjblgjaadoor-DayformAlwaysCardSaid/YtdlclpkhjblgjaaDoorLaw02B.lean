/- The walks of DayformDays and DayformAlways: the program's answers are the document's. -/
import Derived.Test.YtdlclpkhjblgjaaDoorLaw02b
import Derived.Test.YtdlclpkhjblgjaaDoorRef02c
import Derived.StillTailTactics
import Derived.Deep.RegionHeld3
import Derived.OpenShut
namespace Go.Proofs.YtdlclpkhjblgjaaDoor
open Go.RowKit

set_option maxHeartbeats 1000000 in
theorem ddays_core (y m k wk d x e0 c : Int) (W0 : World) (hT : TabW W0) (hx : Dfm.va y m k wk d = x) (he : Dfm.er y m k wk d = e0) (hc : (if Dfm.okD k wk d = true then 0 else 2) = c) :
    Calls Tryd.prog 3 #[.int .i64 y, .int .i64 m, .agg #[.int .i64 k, .int .i64 wk, .int .i64 d]] W0 fun e w' => e = .returned (.bool true) ∧ Below W0.heap.size W0 w' := by
  have HC := Lib.hid (Gs.mk0 hT)
  have HX := Lib.hid (And.intro hx (And.intro he hc))
  have hs := Lib.hid (Cs.new W0 [.int .i64 k, .int .i64 wk, .int .i64 d] 23)
  clear hT hx he hc
  go_enter Tryd.func3, Tryd.ntmps3
  go_wp2_with fail
  refine (on_at _ _ _ _ _ _ _ HX.out.1 HX.out.2.1 (Gs.hal HC _)).mono ?_; rintro e w1 ⟨rfl, hb⟩; replace HC := Gs.hbl (Gs.hal HC _) hb; replace hs := Cs.hbl hs hb; clear hb
  generalize W0.heap.size = bs at *
  have p0 := hs.out.at 0 rfl
  have p1 := hs.out.at 1 rfl
  have p2 := hs.out.at 2 rfl
  go_wp2_with fail
  refine (ron_at _ _ _ _ _ _ _ HX.out.1 HX.out.2.1 _).mono ?_; rintro e w2 ⟨rfl, hb⟩; replace HC := Gs.hbl HC hb; replace hs := Cs.hbl hs hb; clear hb p0 p1 p2
  have p0 := hs.out.at 0 rfl
  have p1 := hs.out.at 1 rfl
  have p2 := hs.out.at 2 rfl
  go_wp2_with fail
  clear hs
  replace HC := Gs.hdr HC
  go_region_held3 (fun w' => w'.cell? ⟨bs, 0, none⟩ = some (.int .i64 k) ∧ w'.cell? ⟨bs, 1, none⟩ = some (.int .i64 wk) ∧ w'.cell? ⟨bs, 2, none⟩ = some (.int .i64 d) ∧ Gs W0 w') (first | exact ⟨p0, p1, p2, HC.out⟩)
    (first
      | (go_at_call 11; refine (check_at _ _ _ _ HX.out.2.2 _).mono ?_; rintro e w3 ⟨rfl, hb⟩; replace p0 := cell_bl hb p0; replace p1 := cell_bl hb p1; replace p2 := cell_bl hb p2; replace HC := Gs.hbl HC hb; clear hb)
      | (go_at_call 12; refine (rcheck_at _ _ _ _ HX.out.2.2 _).mono ?_; rintro e w3 ⟨rfl, hb⟩; replace p0 := cell_bl hb p0; replace p1 := cell_bl hb p1; replace p2 := cell_bl hb p2; replace HC := Gs.hbl HC hb; clear hb)
      | (go_at_call 13; refine (works2_any HC).mono ?_; rintro e w3 ⟨rfl, hb⟩; replace p0 := cell_bl hb p0; replace p1 := cell_bl hb p1; replace p2 := cell_bl hb p2; replace HC := Gs.hbl HC hb; clear hb))
  go_wp2
  go_ret
  exact ⟨rfl, HC.out.1⟩
theorem ddays_walk (y : Int) (_w0 : (Lit.int .i64 y).wf = true) (m : Int) (_w1 : (Lit.int .i64 m).wf = true) (k : Int) (_w2 : (Lit.int .i64 k).wf = true) (wk : Int) (_w3 : (Lit.int .i64 wk).wf = true) (d : Int) (_w4 : (Lit.int .i64 d).wf = true) (W0 : World) (hT : TabW W0) :
    Calls Tryd.prog 3 #[.int .i64 y, .int .i64 m, .agg #[.int .i64 k, .int .i64 wk, .int .i64 d]] W0 fun e w' => e = .returned (.bool true) ∧ Below W0.heap.size W0 w' :=
  ddays_core y m k wk d _ _ _ W0 hT rfl rfl rfl
set_option maxHeartbeats 1000000 in
theorem dalways_core (a b m k wk d : Int) (r : Bool) (W0 : World) (hT : TabW W0) (hr : Dfm.al a b m k wk d = r) :
    Calls Tryd.prog 4 #[.int .i64 a, .int .i64 b, .int .i64 m, .agg #[.int .i64 k, .int .i64 wk, .int .i64 d]] W0 fun e w' => e = .returned (.bool true) ∧ Below W0.heap.size W0 w' := by
  have HC := Gs.hal (Lib.hid (Gs.mk0 hT)) (.cells #[.int .i64 k, .int .i64 wk, .int .i64 d] 23)
  have HR := Lib.hid hr
  have hs := Lib.hid (Cs.new W0 [.int .i64 k, .int .i64 wk, .int .i64 d] 23)
  clear hT hr
  go_enter Tryd.func4, Tryd.ntmps4
  go_wp2_with fail
  have p0 := hs.out.at 0 rfl
  have p1 := hs.out.at 1 rfl
  have p2 := hs.out.at 2 rfl
  clear hs
  generalize W0.alloc (.cells #[.int .i64 k, .int .i64 wk, .int .i64 d] 23) = w1 at *
  generalize W0.heap.size = bs at *
  replace HC := Gs.hdr HC
  cases r
  all_goals
    go_region_held3 (fun w' => w'.cell? ⟨bs, 0, none⟩ = some (.int .i64 k) ∧ w'.cell? ⟨bs, 1, none⟩ = some (.int .i64 wk) ∧ w'.cell? ⟨bs, 2, none⟩ = some (.int .i64 d) ∧ Gs W0 w') (first | exact ⟨p0, p1, p2, HC.out⟩)
      (first
        | (go_at_call 14; refine (always_at _ _ _ _ _ _ _ HR.out HC).mono ?_; rintro e w3 ⟨rfl, hb⟩; replace p0 := cell_bl hb p0; replace p1 := cell_bl hb p1; replace p2 := cell_bl hb p2; replace HC := Gs.hbl HC hb; clear hb)
        | (go_at_call 15; refine (ral_at _ _ _ _ _ _ _ HR.out _).mono ?_; rintro e w3 ⟨rfl, hb⟩; replace p0 := cell_bl hb p0; replace p1 := cell_bl hb p1; replace p2 := cell_bl hb p2; replace HC := Gs.hbl HC hb; clear hb)
        | (go_at_call 13; refine (works2_any HC).mono ?_; rintro e w3 ⟨rfl, hb⟩; replace p0 := cell_bl hb p0; replace p1 := cell_bl hb p1; replace p2 := cell_bl hb p2; replace HC := Gs.hbl HC hb; clear hb))
    go_wp2
    go_ret
    exact ⟨rfl, HC.out.1⟩
theorem dalways_walk (a : Int) (_w0 : (Lit.int .i64 a).wf = true) (b : Int) (_w5 : (Lit.int .i64 b).wf = true) (m : Int) (_w1 : (Lit.int .i64 m).wf = true) (k : Int) (_w2 : (Lit.int .i64 k).wf = true) (wk : Int) (_w3 : (Lit.int .i64 wk).wf = true) (d : Int) (_w4 : (Lit.int .i64 d).wf = true) (W0 : World) (hT : TabW W0) :
    Calls Tryd.prog 4 #[.int .i64 a, .int .i64 b, .int .i64 m, .agg #[.int .i64 k, .int .i64 wk, .int .i64 d]] W0 fun e w' => e = .returned (.bool true) ∧ Below W0.heap.size W0 w' :=
  dalways_core a b m k wk d _ W0 hT rfl
end Go.Proofs.YtdlclpkhjblgjaaDoor
