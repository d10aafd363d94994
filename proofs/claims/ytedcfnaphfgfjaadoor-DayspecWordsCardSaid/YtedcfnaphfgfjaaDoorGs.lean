/- What the walks carry of the world: what was there when the law began is as it was; the table of civil lies there; cells of the call's own. -/
import Derived.Test.YtedcfnaphfgfjaaDoorCivil
namespace Go.Proofs.YtedcfnaphfgfjaaDoor
open Go.RowKit

theorem TabW.size {w : World} (h : TabW w) : 0 < w.heap.size := cell_lt (h 0 (by omega))
theorem TabW.bl {w w' : World} (h : TabW w) (k : Below w.heap.size w w') : TabW w' := fun i hi => cell_bl k (h i hi)
theorem TabW.al {w : World} (h : TabW w) (A : Obj) : TabW (w.alloc A) := fun i hi => cell_al (h i hi)
/-- the state of a walk that makes memory: what was there is as it was, and the table lies there -/
def Gs (w0 w : World) : Prop := Below w0.heap.size w0 w ∧ TabW w
theorem Gs.mk0 {w : World} (h : TabW w) : Gs w w := ⟨Below.refl _ w, h⟩
theorem Gs.dw {w0 w w1 : World} (h : Gs w0 w) (k : Dw w w1) : Gs w0 w1 := ⟨h.1.trans (k.below' _), h.2.dw k⟩
theorem Gs.bl {w0 w w1 : World} (h : Gs w0 w) (k : Below w.heap.size w w1) : Gs w0 w1 := ⟨h.1.trans (k.mono h.1.size), h.2.bl k⟩
theorem Gs.al {w0 w : World} (h : Gs w0 w) (A : Obj) : Gs w0 (w.alloc A) := ⟨h.1.alloc h.1.size A, h.2.al A⟩
theorem Gs.dr {w0 w : World} (h : Gs w0 w) : Gs w0 w.drew := ⟨h.1.drew, fun i hi => h.2 i hi⟩
theorem Gs.set {w0 w : World} (h : Gs w0 w) (p : Addr) (u : Value) (hp : w0.heap.size ≤ p.block) (h0 : 0 < w0.heap.size) : Gs w0 (w.setCell p u) := ⟨h.1.setCell hp u, fun i hi => cell_set (h.2 i hi) (by omega)⟩
theorem Gs.hdw {w0 w w1 : World} (h : Hid (Gs w0 w)) (k : Dw w w1) : Hid (Gs w0 w1) := Lib.hid (h.out.dw k)
theorem Gs.hbl {w0 w w1 : World} (h : Hid (Gs w0 w)) (k : Below w.heap.size w w1) : Hid (Gs w0 w1) := Lib.hid (h.out.bl k)
theorem Gs.hal {w0 w : World} (h : Hid (Gs w0 w)) (A : Obj) : Hid (Gs w0 (w.alloc A)) := Lib.hid (h.out.al A)
theorem Gs.hale {w0 w w1 : World} {A : Obj} (h : Hid (Gs w0 w)) (k : w.alloc A = w1) : Hid (Gs w0 w1) := k ▸ Lib.hid (h.out.al A)
theorem Gs.hdr {w0 w : World} (h : Hid (Gs w0 w)) : Hid (Gs w0 w.drew) := Lib.hid h.out.dr
theorem weekday_at (n r : Int) (hr : Cal.wd n = r) (w : World) : Calls Tryd.prog 86 #[.int .i64 n] w fun e w' => e = .returned (.int .i64 r) ∧ w = w' := hr ▸ weekday_any n w
end Go.Proofs.YtedcfnaphfgfjaaDoor
