/- What every walk of these texts uses: words on endings, on draws, on memory that was there, on cells of a block. No function of the program is named. -/
import Derived.Test.YtedcfnaphfgfjaaDoorRows
import Derived.WalkKit
import Derived.WalkSpells
import Derived.Deep.QuietTactic
import Derived.BigQuiet
import Derived.Lib.Hide
import Derived.Deep.WholeRow
import Derived.OpenShut
namespace Go.Proofs.YtedcfnaphfgfjaaDoor
open Go.RowKit

theorem wrap64_of {x : Int} (h : -9223372036854775808 ≤ x ∧ x ≤ 9223372036854775807) : wrap64 x = x := IntWalk.wrap64_in x h
theorem tm0 (y k : Int) : y.tmod k = 0 ↔ y % k = 0 := by
  rw [← Int.dvd_iff_tmod_eq_zero, Int.dvd_iff_emod_eq_zero]
theorem ret_bool {a b : Bool} (h : a = b) : Ending.returned (.bool a) = .returned (.bool b) := by rw [h]
theorem ret_int {k : IntKind} {a b : Int} (h : a = b) : Ending.returned (.int k a) = .returned (.int k b) := by rw [h]
theorem results_tmp4 {fn : Func} {t u v x : Tmp} (h : fn.results = #[.tmp t, .tmp u, .tmp v, .tmp x]) (tmps : Array Value) (P : Program) (w : World) :
    (results fn tmps).run P w = .ok (.tuple #[tmps.getD t undef, tmps.getD u undef, tmps.getD v undef, tmps.getD x undef]) w := by simp [results, h]
theorem ret_two {k l : IntKind} {a b c d : Int} (h : a = c) (g : b = d) : Ending.returned (.tuple #[.int k a, .int l b]) = .returned (.tuple #[.int k c, .int l d]) := by rw [h, g]
theorem ret_four {k l m n : IntKind} {a b c d a' b' c' d' : Int} (h1 : a = a') (h2 : b = b') (h3 : c = c') (h4 : d = d') : Ending.returned (.tuple #[.int k a, .int l b, .int m c, .int n d]) = .returned (.tuple #[.int k a', .int l b', .int m c', .int n d']) := by rw [h1, h2, h3, h4]
/-- a world behind draws -/
def Dw (w w' : World) : Prop := ∃ n, w' = w.drewN n
theorem Dw.refl (w : World) : Dw w w := ⟨0, rfl⟩
theorem Dw.trans {a b c : World} (h : Dw a b) (k : Dw b c) : Dw a c := by
  obtain ⟨n, rfl⟩ := h; obtain ⟨m, rfl⟩ := k; exact ⟨n + m, World.drewN_drewN ..⟩
theorem Dw.drewN {a b : World} (h : Dw a b) (n : Nat) : Dw a (b.drewN n) := h.trans ⟨n, rfl⟩
theorem Dw.cell {a b : World} (h : Dw a b) (x : Addr) : b.cell? x = a.cell? x := by
  obtain ⟨n, rfl⟩ := h; simp
theorem dw_of {P : Program} {f : FuncId} {args : Array Value} {w : World} {n : Nat} {v : Value}
    (h : Calls P f args (w.drewN n) fun e w' => e = .returned v ∧ Dw (w.drewN n) w') : Calls P f args (w.drewN n) fun e w'' => e = .returned v ∧ ∃ m, w'' = w.drewN m :=
  h.mono fun _ _ ⟨he, m, hm⟩ => ⟨he, n + m, by rw [hm, World.drewN_drewN]⟩
theorem dw_same {P : Program} {f : FuncId} {args : Array Value} {w : World} {n : Nat} {v : Value}
    (h : Calls P f args (w.drewN n) fun e w' => e = .returned v ∧ w.drewN n = w') : Calls P f args (w.drewN n) fun e w'' => e = .returned v ∧ ∃ m, w'' = w.drewN m :=
  h.mono fun _ _ ⟨he, hm⟩ => ⟨he, n, hm.symm⟩
theorem cell_lt {w : World} {b o : Nat} {v : Value} (h : w.cell? ⟨b, o, none⟩ = some v) : b < w.heap.size := by
  rcases Nat.lt_or_ge b w.heap.size with e | e
  · exact e
  · exfalso
    have : w.heap[b]? = none := Array.getElem?_eq_none e
    simp [World.cell?, this] at h
/-- a cell that there is reads as it did: behind a call that makes memory, a new block, a store elsewhere -/
theorem cell_bl {w w1 : World} {b o : Nat} {v : Value} (hb : Below w.heap.size w w1) (h : w.cell? ⟨b, o, none⟩ = some v) : w1.cell? ⟨b, o, none⟩ = some v := (hb.cell (p := ⟨b, o, none⟩) (cell_lt h)).trans h
theorem cell_al {w : World} {A : Obj} {b o : Nat} {v : Value} (h : w.cell? ⟨b, o, none⟩ = some v) : (w.alloc A).cell? ⟨b, o, none⟩ = some v := (World.cell?_alloc_lt w A ⟨b, o, none⟩ (cell_lt h)).trans h
theorem cell_dr {w : World} {x : Addr} {v : Value} (h : w.cell? x = some v) : w.drew.cell? x = some v := h
theorem cell_set {w : World} {p : Addr} {u : Value} {b o : Nat} {v : Value} (h : w.cell? ⟨b, o, none⟩ = some v) (hp : b ≠ p.block) : (w.setCell p u).cell? ⟨b, o, none⟩ = some v := by
  rw [World.cell?_of_block (Below.heap_setCell w p u b hp)]; exact h
/-- what was there reads as it did -/
theorem bcell {W w1 : World} (hb : Below W.heap.size W w1) : (∀ b o, b < W.heap.size → w1.cell? ⟨b, o, none⟩ = W.cell? ⟨b, o, none⟩) ∧ (∀ b o, b < W.heap.size → w1.frozen? ⟨b, o, none⟩ = W.frozen? ⟨b, o, none⟩) :=
  ⟨fun b o h => hb.cell (p := ⟨b, o, none⟩) h, fun b o h => hb.frozen (p := ⟨b, o, none⟩) h⟩
theorem row_al {w : World} {A : Obj} {b : Nat} {X : Obj} (h : w.heap[b]? = some X) : (w.alloc A).heap[b]? = some X := by
  have hb : b < w.heap.size := by
    rcases Nat.lt_or_ge b w.heap.size with e | e
    · exact e
    · rw [Array.getElem?_eq_none e] at h; cases h
  rw [Below.heap_alloc w A b hb]; exact h
theorem row_new {w : World} {A : Obj} {b : Nat} (h : b = w.heap.size) : (w.alloc A).heap[b]? = some A := by subst h; exact heap_alloc_last w A
theorem row_cell {w : World} {b o : Nat} {cs : Array Value} {t : TypeId} {v : Value} (h : w.heap[b]? = some (.cells cs t (0, 0))) (hv : cs[o]? = some v) : w.cell? ⟨b, o, none⟩ = some v := (cell_of_row w b o cs t (0, 0) h).trans hv
theorem Dw.below' {w w' : World} (h : Dw w w') (B : Nat) : Below B w w' := by
  obtain ⟨n, rfl⟩ := h; exact ⟨rfl, rfl, rfl, Nat.le_refl _, fun _ _ => rfl⟩
/-- cells of a block, each with its number from the first on -/
def Cs (w : World) (b : Nat) (l : List Value) : Prop := ∀ i v, l[i]? = some v → w.cell? ⟨b, i, none⟩ = some v
theorem Cs.at {w : World} {b : Nat} {l : List Value} (h : Cs w b l) (i : Nat) {v : Value} (hv : l[i]? = some v) : w.cell? ⟨b, i, none⟩ = some v := h i v hv
theorem Cs.bl {w w1 : World} {b : Nat} {l : List Value} (h : Cs w b l) (k : Below w.heap.size w w1) : Cs w1 b l := fun i v e => cell_bl k (h i v e)
theorem Cs.dw {w w1 : World} {b : Nat} {l : List Value} (h : Cs w b l) (k : Dw w w1) : Cs w1 b l := h.bl (k.below' _)
theorem Cs.al {w : World} {b : Nat} {l : List Value} (h : Cs w b l) (A : Obj) : Cs (w.alloc A) b l := fun i v e => cell_al (h i v e)
theorem Cs.dr {w : World} {b : Nat} {l : List Value} (h : Cs w b l) : Cs w.drew b l := h
theorem Cs.set {w : World} {b : Nat} {l : List Value} (h : Cs w b l) (p : Addr) (u : Value) (hp : b ≠ p.block) : Cs (w.setCell p u) b l := fun i v e => cell_set (h i v e) hp
theorem Cs.new (w : World) (l : List Value) (t : TypeId) : Cs (w.alloc (.cells l.toArray t)) w.heap.size l := fun i v e => row_cell (row_new rfl) (by simpa using e)
theorem Cs.hbl {w w1 : World} {b : Nat} {l : List Value} (h : Hid (Cs w b l)) (k : Below w.heap.size w w1) : Hid (Cs w1 b l) := Lib.hid (h.out.bl k)
theorem Cs.hdw {w w1 : World} {b : Nat} {l : List Value} (h : Hid (Cs w b l)) (k : Dw w w1) : Hid (Cs w1 b l) := Lib.hid (h.out.dw k)
theorem Cs.hal {w : World} {b : Nat} {l : List Value} (h : Hid (Cs w b l)) (A : Obj) : Hid (Cs (w.alloc A) b l) := Lib.hid (h.out.al A)
theorem Dw.below {w w' : World} (h : Dw w w') : Below w.heap.size w w' := by
  obtain ⟨n, rfl⟩ := h; exact ⟨rfl, rfl, rfl, Nat.le_refl _, fun _ _ => rfl⟩
theorem bd_i64 {a : Int} (h : (Lit.int .i64 a).wf = true) : -9223372036854775808 ≤ a ∧ a ≤ 9223372036854775807 := bounds_i64 h
/-- a truth that is not opened by the walk -/
theorem beq_of {a b : Int} (h : a = b) : (a == b) = true := by rw [h]; exact beq_self_eq_true b
theorem ret_ib {k : IntKind} {a b : Int} {c d : Bool} (h : a = b) (g : c = d) : Ending.returned (.tuple #[.int k a, .bool c]) = .returned (.tuple #[.int k b, .bool d]) := by rw [h, g]
/-- the state of a walk that makes memory: what was there is as it was -/
def Bs (w0 w : World) : Prop := Below w0.heap.size w0 w
theorem Bs.mk0 (w : World) : Bs w w := Below.refl _ w
theorem Bs.dw {w0 w w1 : World} (h : Bs w0 w) (k : Dw w w1) : Bs w0 w1 := Below.trans h (k.below' _)
theorem Bs.bl {w0 w w1 : World} (h : Bs w0 w) (k : Below w.heap.size w w1) : Bs w0 w1 := Below.trans h (k.mono h.size)
theorem Bs.al {w0 w : World} (h : Bs w0 w) (A : Obj) : Bs w0 (w.alloc A) := Below.alloc h h.size A
theorem Bs.dr {w0 w : World} (h : Bs w0 w) : Bs w0 w.drew := Below.drew h
theorem Bs.set {w0 w : World} (h : Bs w0 w) (p : Addr) (u : Value) (hp : w0.heap.size ≤ p.block) : Bs w0 (w.setCell p u) := Below.setCell h hp u
theorem Bs.hdw {w0 w w1 : World} (h : Hid (Bs w0 w)) (k : Dw w w1) : Hid (Bs w0 w1) := Lib.hid (h.out.dw k)
theorem Bs.hbl {w0 w w1 : World} (h : Hid (Bs w0 w)) (k : Below w.heap.size w w1) : Hid (Bs w0 w1) := Lib.hid (h.out.bl k)
theorem Bs.hal {w0 w : World} (h : Hid (Bs w0 w)) (A : Obj) : Hid (Bs w0 (w.alloc A)) := Lib.hid (h.out.al A)
theorem Bs.hale {w0 w w1 : World} {A : Obj} (h : Hid (Bs w0 w)) (k : w.alloc A = w1) : Hid (Bs w0 w1) := k ▸ Lib.hid (h.out.al A)
theorem Bs.hdr {w0 w : World} (h : Hid (Bs w0 w)) : Hid (Bs w0 w.drew) := Lib.hid h.out.dr
/-- numbers at index k of a list -/
def nth (zs : List Int) (k : Nat) : Int := zs[k]?.getD 0
/-- a slice of numbers: without numbers; or in a block -/
def Ints (w : World) (sv : Value) (zs : List Int) : Prop :=
  (∃ a cap, sv = .slice a 0 cap ∧ zs = []) ∨ ∃ b off cap, sv = .slice (some ⟨b, off, none⟩) zs.length cap ∧ (0 < zs.length ∧ zs.length ≤ cap) ∧ b < w.heap.size ∧ ∀ j, j < zs.length → w.cell? ⟨b, off + j, none⟩ = some (.int .i64 (nth zs j))
theorem Ints.bl {w w' : World} {sv : Value} {zs : List Int} (h : Ints w sv zs) (k : Below w.heap.size w w') : Ints w' sv zs := by
  rcases h with h | ⟨b, off, cap, h1, h2, h3, h4⟩
  · exact .inl h
  · exact .inr ⟨b, off, cap, h1, h2, Nat.lt_of_lt_of_le h3 k.size, fun j hj => cell_bl k (h4 j hj)⟩
theorem new_cell (w : World) (cs : Array Value) (t : TypeId) (k : Nat) (v : Value) (h : cs[k]? = some v) : (w.alloc (.cells cs t)).cell? ⟨w.heap.size, k, none⟩ = some v := row_cell (row_new rfl) h
end Go.Proofs.YtedcfnaphfgfjaaDoor
