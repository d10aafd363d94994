/- The walk of DayformEach: it returns true. -/
import Derived.Test.YtdlclpkhjblgjaaDoorLaw02D
import Derived.Test.YtdlclpkhjblgjaaDoorLaw02E
namespace Go.Proofs.YtdlclpkhjblgjaaDoor
open Go.RowKit

theorem each_walk (K : Int) (wK : (Lit.int .u8 K).wf = true) (W : Int) (wW : (Lit.int .u8 W).wf = true) (D : Int) (wD : (Lit.int .u8 D).wf = true) (Y : Int) (wY : (Lit.int .i32 Y).wf = true) (M : Int) (wM : (Lit.int .u8 M).wf = true) (R : Int) (wR : (Lit.int .u8 R).wf = true) (W0 : World) (hT : TabW W0) :
    Calls Tryd.prog 6 #[.agg #[.int .u8 K, .int .u8 W, .int .u8 D], .int .i32 Y, .int .u8 M, .int .u8 R] W0 fun e w' => e = .returned (.bool true) ∧ Below W0.heap.size W0 w' := by
  have hK := bounds_u8 wK
  have hW := bounds_u8 wW
  have hD := bounds_u8 wD
  have hY := bounds_i32 wY
  have hM := bounds_u8 wM
  have hR := bounds_u8 wR
  have hok := Dfm.made_ok K W D
  have hy := Dfm.cl_bd Y
  have hd := Dfm.ok_bd _ _ _ hok
  by_cases h : Dfm.cl Y + R % 12 ≤ 2000000000
  · exact each_near K W D Y M R _ _ _ _ (R % 12).toNat _ hK hW hD hY hM hR rfl rfl rfl rfl ⟨h, by omega⟩ hy hok (by omega) rfl W0 hT
  · exact each_far K W D Y M R _ _ _ _ (2000000000 - Dfm.cl Y).toNat _ hK hW hD hY hM hR rfl rfl rfl rfl ⟨by omega, by omega⟩ hy hok (by omega) rfl W0 hT
end Go.Proofs.YtdlclpkhjblgjaaDoor
