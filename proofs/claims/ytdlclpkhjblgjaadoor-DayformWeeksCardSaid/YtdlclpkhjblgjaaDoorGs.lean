/- What the walks carry of the world: what was there when the law began is as it was; the table of civil lies there; cells of the call's own. -/
import Derived.Test.YtdlclpkhjblgjaaDoorCivil
import Derived.Deep.WholeRow
namespace Go.Proofs.YtdlclpkhjblgjaaDoor
open Go.RowKit

theorem cell_lt {w : World} {b o : Nat} {v : Value} (h : w.cell? ⟨b, o, none⟩ = some v) : b < w.heap.size := by
  rcases Nat.lt_or_ge b w.heap.size with e | e
  · exact e
  · exfalso
    have : w.heap[b]? = none := Array.getElem?_eq_none e
    simp [World.cell?, this] at h
/-- a cell that there is reads as it did: behind a call that makes memory, a new block, a store elsewhere -/
theorem cell_bl {w w1 : World} {b o : Nat} {v : Value} (hb : Below w.heap.size w w1) (h : w.cell? ⟨b, o, none⟩ = some v) : w1.cell? ⟨b, o, none⟩ = some v := (hb.cell (p := ⟨b, o, none⟩) (cell_lt h)).trans h
theorem cell_al {w : World} {A : Obj} {b o : Nat} {v : Value} (h : w.cell? ⟨b, o, none⟩ = some v) : (w.alloc A).cell? ⟨b, o, none⟩ = some v := (World.cell?_alloc_lt w A ⟨b, o, none⟩ (cell_lt h)).trans h
theorem cell_dr {w : World} {x : Addr} {v : Value} (h : w.cell? x = some v) : w.drew.cell? x = some v := h
theorem cell_set {w : World} {p : Addr} {u : Value} {b o : Nat} {v : Value} (h : w.cell? ⟨b, o, none⟩ = some v) (hp : b ≠ p.block) : (w.setCell p u).cell? ⟨b, o, none⟩ = some v := by
  rw [World.cell?_of_block (Below.heap_setCell w p u b hp)]; exact h
/-- what was there reads as it did -/
theorem bcell {W w1 : World} (hb : Below W.heap.size W w1) : (∀ b o, b < W.heap.size → w1.cell? ⟨b, o, none⟩ = W.cell? ⟨b, o, none⟩) ∧ (∀ b o, b < W.heap.size → w1.frozen? ⟨b, o, none⟩ = W.frozen? ⟨b, o, none⟩) :=
  ⟨fun b o h => hb.cell (p := ⟨b, o, none⟩) h, fun b o h => hb.frozen (p := ⟨b, o, none⟩) h⟩
theorem row_al {w : World} {A : Obj} {b : Nat} {X : Obj} (h : w.heap[b]? = some X) : (w.alloc A).heap[b]? = some X := by
  have hb : b < w.heap.size := by
    rcases Nat.lt_or_ge b w.heap.size with e | e
    · exact e
    · rw [Array.getElem?_eq_none e] at h; cases h
  rw [Below.heap_alloc w A b hb]; exact h
theorem row_new {w : World} {A : Obj} {b : Nat} (h : b = w.heap.size) : (w.alloc A).heap[b]? = some A := by subst h; exact heap_alloc_last w A
theorem row_cell {w : World} {b o : Nat} {cs : Array Value} {t : TypeId} {v : Value} (h : w.heap[b]? = some (.cells cs t (0, 0))) (hv : cs[o]? = some v) : w.cell? ⟨b, o, none⟩ = some v := (cell_of_row w b o cs t (0, 0) h).trans hv
theorem Dw.below' {w w' : World} (h : Dw w w') (B : Nat) : Below B w w' := by
  obtain ⟨n, rfl⟩ := h; exact ⟨rfl, rfl, rfl, Nat.le_refl _, fun _ _ => rfl⟩
theorem TabW.size {w : World} (h : TabW w) : 0 < w.heap.size := cell_lt (h 0 (by omega))
theorem TabW.bl {w w' : World} (h : TabW w) (k : Below w.heap.size w w') : TabW w' := fun i hi => cell_bl k (h i hi)
theorem TabW.al {w : World} (h : TabW w) (A : Obj) : TabW (w.alloc A) := fun i hi => cell_al (h i hi)
/-- the state of a walk that makes memory: what was there is as it was, and the table lies there -/
def Gs (w0 w : World) : Prop := Below w0.heap.size w0 w ∧ TabW w
theorem Gs.mk0 {w : World} (h : TabW w) : Gs w w := ⟨Below.refl _ w, h⟩
theorem Gs.dw {w0 w w1 : World} (h : Gs w0 w) (k : Dw w w1) : Gs w0 w1 := ⟨h.1.trans (k.below' _), h.2.dw k⟩
theorem Gs.bl {w0 w w1 : World} (h : Gs w0 w) (k : Below w.heap.size w w1) : Gs w0 w1 := ⟨h.1.trans (k.mono h.1.size), h.2.bl k⟩
theorem Gs.al {w0 w : World} (h : Gs w0 w) (A : Obj) : Gs w0 (w.alloc A) := ⟨h.1.alloc h.1.size A, h.2.al A⟩
theorem Gs.dr {w0 w : World} (h : Gs w0 w) : Gs w0 w.drew := ⟨h.1.drew, fun i hi => h.2 i hi⟩
theorem Gs.set {w0 w : World} (h : Gs w0 w) (p : Addr) (u : Value) (hp : w0.heap.size ≤ p.block) (h0 : 0 < w0.heap.size) : Gs w0 (w.setCell p u) := ⟨h.1.setCell hp u, fun i hi => cell_set (h.2 i hi) (by omega)⟩
theorem Gs.hdw {w0 w w1 : World} (h : Hid (Gs w0 w)) (k : Dw w w1) : Hid (Gs w0 w1) := Lib.hid (h.out.dw k)
theorem Gs.hbl {w0 w w1 : World} (h : Hid (Gs w0 w)) (k : Below w.heap.size w w1) : Hid (Gs w0 w1) := Lib.hid (h.out.bl k)
theorem Gs.hal {w0 w : World} (h : Hid (Gs w0 w)) (A : Obj) : Hid (Gs w0 (w.alloc A)) := Lib.hid (h.out.al A)
theorem Gs.hale {w0 w w1 : World} {A : Obj} (h : Hid (Gs w0 w)) (k : w.alloc A = w1) : Hid (Gs w0 w1) := k ▸ Lib.hid (h.out.al A)
theorem Gs.hdr {w0 w : World} (h : Hid (Gs w0 w)) : Hid (Gs w0 w.drew) := Lib.hid h.out.dr
/-- cells of a block, each with its number from the first on -/
def Cs (w : World) (b : Nat) (l : List Value) : Prop := ∀ i v, l[i]? = some v → w.cell? ⟨b, i, none⟩ = some v
theorem Cs.at {w : World} {b : Nat} {l : List Value} (h : Cs w b l) (i : Nat) {v : Value} (hv : l[i]? = some v) : w.cell? ⟨b, i, none⟩ = some v := h i v hv
theorem Cs.bl {w w1 : World} {b : Nat} {l : List Value} (h : Cs w b l) (k : Below w.heap.size w w1) : Cs w1 b l := fun i v e => cell_bl k (h i v e)
theorem Cs.dw {w w1 : World} {b : Nat} {l : List Value} (h : Cs w b l) (k : Dw w w1) : Cs w1 b l := h.bl (k.below' _)
theorem Cs.al {w : World} {b : Nat} {l : List Value} (h : Cs w b l) (A : Obj) : Cs (w.alloc A) b l := fun i v e => cell_al (h i v e)
theorem Cs.dr {w : World} {b : Nat} {l : List Value} (h : Cs w b l) : Cs w.drew b l := h
theorem Cs.set {w : World} {b : Nat} {l : List Value} (h : Cs w b l) (p : Addr) (u : Value) (hp : b ≠ p.block) : Cs (w.setCell p u) b l := fun i v e => cell_set (h i v e) hp
theorem Cs.new (w : World) (l : List Value) (t : TypeId) : Cs (w.alloc (.cells l.toArray t)) w.heap.size l := fun i v e => row_cell (row_new rfl) (by simpa using e)
theorem Cs.hbl {w w1 : World} {b : Nat} {l : List Value} (h : Hid (Cs w b l)) (k : Below w.heap.size w w1) : Hid (Cs w1 b l) := Lib.hid (h.out.bl k)
theorem Cs.hdw {w w1 : World} {b : Nat} {l : List Value} (h : Hid (Cs w b l)) (k : Dw w w1) : Hid (Cs w1 b l) := Lib.hid (h.out.dw k)
theorem Cs.hal {w : World} {b : Nat} {l : List Value} (h : Hid (Cs w b l)) (A : Obj) : Hid (Cs (w.alloc A) b l) := Lib.hid (h.out.al A)
theorem days_g (y m d n : Int) (ho : Cal.okB y m d = true) (hn : Cal.day y m d = n) {w0 w : World} (h : Hid (Gs w0 w)) : Calls Tryd.prog 18 #[.int .i64 y, .int .i64 m, .int .i64 d] w fun e w' => e = .returned (.tuple #[.int .i64 n, .int .i64 0]) ∧ Dw w w' := hn ▸ days_yes y m d w h.out.2 ho
theorem days_gno (y m d : Int) (ho : Cal.okB y m d = false) {w0 w : World} (h : Hid (Gs w0 w)) : Calls Tryd.prog 18 #[.int .i64 y, .int .i64 m, .int .i64 d] w fun e w' => e = .returned (.tuple #[.int .i64 0, .int .i64 3]) ∧ Dw w w' := days_no y m d w h.out.2 ho
theorem len_g (y m r : Int) (hr : Cal.len y m = r) {w0 w : World} (h : Hid (Gs w0 w)) : Calls Tryd.prog 19 #[.int .i64 y, .int .i64 m] w fun e w' => e = .returned (.int .i64 r) ∧ Dw w w' := hr ▸ len_any y m w h.out.2
theorem weekday_at (n r : Int) (hr : Cal.wd n = r) (w : World) : Calls Tryd.prog 20 #[.int .i64 n] w fun e w' => e = .returned (.int .i64 r) ∧ w = w' := hr ▸ weekday_any n w
end Go.Proofs.YtdlclpkhjblgjaaDoor
