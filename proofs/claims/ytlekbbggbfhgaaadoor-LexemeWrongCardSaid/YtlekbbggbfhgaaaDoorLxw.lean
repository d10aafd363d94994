/- Package lexeme: the reader's end, and what a byte means. -/
import Derived.Test.YtlekbbggbfhgaaaDoorStr
import Derived.Deep.RegionHeld3
import Derived.Deep.RegionLaw
import Derived.BigRegion
import Derived.Laws.IdiomStrings
namespace Go.Proofs.YtlekbbggbfhgaaaDoor
open Go.RowKit
/-- the row of a reader -/
def Rr (w : World) (rb : Nat) (fv lv : Value) (o q : Bool) : Prop := w.heap[rb]? = some (.cells #[fv, lv, .bool o, .bool q] 54 (0, 0))
/-- a reader lies in a block: its fields that have ended, the one that has not, whether there is one, whether it is quoted -/
def Rd (B : Nat) (w : World) (rb : Nat) (F : List ByteArray) (L : List UInt8) (o q : Bool) : Prop :=
  ∃ fv lv, Rr w rb fv lv o q ∧ w.ownsRow B 9 1 fv F.length (strV F) ∧ w.ownsRow B 5 1 lv L.length (bytV L)
theorem Rr.c0 {w : World} {rb : Nat} {fv lv : Value} {o q : Bool} (h : Rr w rb fv lv o q) : w.cell? ⟨rb, 0, none⟩ = some fv := row_cell h rfl
theorem Rr.c1 {w : World} {rb : Nat} {fv lv : Value} {o q : Bool} (h : Rr w rb fv lv o q) : w.cell? ⟨rb, 1, none⟩ = some lv := row_cell h rfl
theorem Rr.c2 {w : World} {rb : Nat} {fv lv : Value} {o q : Bool} (h : Rr w rb fv lv o q) : w.cell? ⟨rb, 2, none⟩ = some (.bool o) := row_cell h rfl
theorem Rr.c3 {w : World} {rb : Nat} {fv lv : Value} {o q : Bool} (h : Rr w rb fv lv o q) : w.cell? ⟨rb, 3, none⟩ = some (.bool q) := row_cell h rfl
theorem Rr.fz {w : World} {rb : Nat} {fv lv : Value} {o q : Bool} (h : Rr w rb fv lv o q) (i : Nat) : w.frozen? ⟨rb, i, none⟩ = false := frozen_of_row w rb i _ _ h
theorem Rr.s0 {w : World} {rb : Nat} {fv lv : Value} {o q : Bool} (h : Rr w rb fv lv o q) (v : Value) : Rr (w.setCell ⟨rb, 0, none⟩ v) rb v lv o q := heap_setCell_same w rb 0 _ _ v h
theorem Rr.s1 {w : World} {rb : Nat} {fv lv : Value} {o q : Bool} (h : Rr w rb fv lv o q) (v : Value) : Rr (w.setCell ⟨rb, 1, none⟩ v) rb fv v o q := heap_setCell_same w rb 1 _ _ v h
theorem Rr.s2 {w : World} {rb : Nat} {fv lv : Value} {o q : Bool} (h : Rr w rb fv lv o q) (v : Bool) : Rr (w.setCell ⟨rb, 2, none⟩ (.bool v)) rb fv lv v q := heap_setCell_same w rb 2 _ _ (.bool v) h
theorem Rr.s3 {w : World} {rb : Nat} {fv lv : Value} {o q : Bool} (h : Rr w rb fv lv o q) (v : Bool) : Rr (w.setCell ⟨rb, 3, none⟩ (.bool v)) rb fv lv o v := heap_setCell_same w rb 3 _ _ (.bool v) h
/-- a store into the reader leaves owned rows of other types -/
theorem Rr.kept {w : World} {rb : Nat} {fv lv : Value} {o q : Bool} (h : Rr w rb fv lv o q) {B : Nat} {e : TypeId} {s n : Nat} {v : Value} {xs : List Value} (ho : w.ownsRow B e s v n xs) (he : 54 ≠ e) (i : Nat) (u : Value) : (w.setCell ⟨rb, i, none⟩ u).ownsRow B e s v n xs := by
  refine ⟨ho.1, ?_⟩
  have hne := own_type ho h he
  rcases ho.2 with h2 | ⟨g, cap, cur, rfl, h2, h3, h4⟩
  · exact .inl h2
  · refine .inr ⟨g, cap, cur, rfl, h2, ?_, h4⟩
    rw [heap_setCell_other w ⟨rb, i, none⟩ g u (by simpa [Value.ownBlock] using hne)]; exact h3
theorem Rr.grow {w w1 : World} {rb : Nat} {fv lv : Value} {o q : Bool} (h : Rr w rb fv lv o q) {row : Option Nat} (hg : w.grownBy w1 row) (hne : row ≠ some rb) : Rr w1 rb fv lv o q := by
  have hb : rb < w.heap.size := (Array.getElem?_eq_some_iff.1 h).1
  exact (hg.block rb hb (Ne.symm hne)).trans h
theorem conv_own (B : Nat) (lv : Value) (L : List UInt8) (wx : World) (h : wx.ownsRow B 5 1 lv L.length (bytV L)) : (convert 45 9 lv).run Tryd.prog wx = .ok (.string ⟨L.toArray⟩) wx := by
  rcases h.2 with ⟨rfl, e⟩ | ⟨g, cap, cur, rfl, hB, hg, hcap, _, _, ht⟩
  · obtain rfl := List.eq_nil_of_length_eq_zero e
    exact run_convert_bytes_nil (P := Tryd.prog) (w := wx) 45 5 Tryd.underlying45 Tryd.underlying5 0 0 9 Tryd.underlying9
  · refine run_convert_bytes_back (P := Tryd.prog) wx 45 9 5 ⟨g, 0, none⟩ cap L Tryd.underlying45 Tryd.underlying5 Tryd.underlying9 ?_
    intro j hj
    exact h.cells (g := g) rfl j _ (by simp [bytV, hj])
/-- what stands behind the append of a field to the fields -/
theorem end_grow {B : Nat} {W0 w w1 : World} {rb : Nat} {fv lv : Value} {o q : Bool} {F : List ByteArray} {L : List UInt8} {O : Obj} (hbel : Below B W0 w) (hB : B ≤ w.heap.size) (hr : Rr w rb fv lv o q) (hF : w.ownsRow B 9 1 fv F.length (strV F)) (hL : w.ownsRow B 5 1 lv L.length (bytV L)) (hg : (w.alloc O).drew.grownBy w1 fv.ownBlock) :
    Rr w1 rb fv lv o q ∧ w1.ownsRow B 5 1 lv L.length (bytV L) ∧ Below B W0 w1 := by
  have hra : Rr (w.alloc O).drew rb fv lv o q := row_al hr
  have hfa : (w.alloc O).drew.ownsRow B 9 1 fv F.length (strV F) := hF.alloc O
  have hla : (w.alloc O).drew.ownsRow B 5 1 lv L.length (bytV L) := hL.alloc O
  have hba : Below B W0 (w.alloc O).drew := (hbel.alloc hB O).drew
  refine ⟨hra.grow hg (own_type hfa hra (by decide)), hla.kept hg (own_apart hla hfa (by decide)), hba.grown hg ?_ (fun k hk => (hF.lt k hk).1)⟩
  show B ≤ (w.alloc O).heap.size
  simp; omega
set_option maxRecDepth 100000 in
set_option maxHeartbeats 4000000 in
theorem end_core (W0 w : World) (rb : Nat) (F : List ByteArray) (L : List UInt8) (q : Bool) (fv lv : Value) (ao : Option Addr) (c2 : Nat) (hF : F.length ≤ 5000) (hb : Below W0.heap.size W0 w) (hrb : W0.heap.size ≤ rb) (hr : Rr w rb fv lv true q) (hof : w.ownsRow W0.heap.size 9 1 fv F.length (strV F)) (hol : w.ownsRow W0.heap.size 5 1 lv L.length (bytV L))
    (hl2 : ∀ wx, (Instr.slice 45 lv none (some (.int .i64 0)) none).run Tryd.prog wx = .ok (.slice ao 0 c2) wx) (hl3 : ∀ wx : World, wx.ownsRow W0.heap.size 5 1 lv L.length (bytV L) → wx.ownsRow W0.heap.size 5 1 (.slice ao 0 c2) 0 []) :
    Calls Tryd.prog 31 #[.pointer (some ⟨rb, 0, none⟩)] w fun e w' => e = .returned (.tuple #[]) ∧ Below W0.heap.size W0 w' ∧ Rd W0.heap.size w' rb (F ++ [⟨L.toArray⟩]) [] false q := by
  have hcv := Lib.hid (conv_own W0.heap.size lv L)
  obtain ⟨i0, hi0, hy0, hy1, hy2⟩ := info_parts infoS
  have k0 := hr.c0
  have k1 := hr.c1
  have k2 := hr.c2
  have hlt := cell_lt k0
  have HR := Lib.hid hr
  have HF := Lib.hid hof
  have HL := Lib.hid hol
  have HB := Lib.hid hb
  have HN := Lib.hid hF
  have HL3 := Lib.hid hl3
  have hs := hb.size
  clear hr hof hol hb hF hl3
  go_enter Tryd.func31, Tryd.ntmps31
  go_wp2_with fail
  have hcw : (convert 45 9 lv).run Tryd.prog w.drew = .ok (.string ⟨L.toArray⟩) w.drew := hcv.out _ HL.out
  have ka0 : (w.alloc (.cells #[.string ⟨L.toArray⟩] 9)).cell? ⟨rb, 0, none⟩ = some fv := cell_al k0
  go_region_law (
    (refine step_append_lies _ (by rfl) _ _ _ (by rfl) W0.heap.size 9 i0 _ 1 16 Tryd.underlying23 hi0 hy0 hy1 hy2 rfl (by decide) fv F.length (strV F) (by rfl) ((HF.out.alloc _).drew) ⟨w.heap.size, 0, none⟩ 1 1 [.string ⟨L.toArray⟩] (by rfl) (by rfl) (World.news_of_block (cs := #[.string ⟨L.toArray⟩]) (t := 9) (fr := (0, 0)) (heap_alloc_new w _)) (by simp [Value.oneCell']) (by omega) (by have := HN.out; unfold maxLen; omega) (by have := HN.out; omega) (by simp; omega) (w.heap.size + 1) (by simp) ?_
     intro gg cap w1 hown1 hgrow hat hlt1
     have HE := Lib.hid (end_grow HB.out (by omega) HR.out HF.out HL.out hgrow)
     have j0 := HE.out.1.c0
     have j1 := HE.out.1.c1
     have j2 := HE.out.1.fz 0
     have HL1 := Lib.hid HE.out.2.1
     have HO1 := Lib.hid hown1
     clear hown1 hgrow hat))
  all_goals
    have HR2 := Lib.hid (HE.out.1.s0 (.slice (some ⟨gg, 0, none⟩) (F.length + 1) cap))
    have HF2 := Lib.hid (HE.out.1.kept HO1.out (by decide) 0 (.slice (some ⟨gg, 0, none⟩) (F.length + 1) cap))
    have HL2 := Lib.hid (HE.out.1.kept HL1.out (by decide) 0 (.slice (some ⟨gg, 0, none⟩) (F.length + 1) cap))
    have HB2 := Lib.hid (HE.out.2.2.setCell (p := ⟨rb, 0, none⟩) hrb (.slice (some ⟨gg, 0, none⟩) (F.length + 1) cap))
    clear HE HL1 HO1 j0 j1 j2 hcw hlt1 k0 k1 k2 ka0 hcv HR HF HL HB
    generalize w1.setCell ⟨rb, 0, none⟩ (.slice (some ⟨gg, 0, none⟩) (F.length + 1) cap) = w2 at *
    have k1 := HR2.out.c1
    have k2 := HR2.out.c2
    have f1 := HR2.out.fz 1
    have f2 := HR2.out.fz 2
    go_wp2
    go_end0
    refine ⟨rfl, (HB2.out.setCell (p := ⟨rb, 1, none⟩) hrb (.slice ao 0 c2)).setCell (p := ⟨rb, 2, none⟩) hrb (.bool false), .slice (some ⟨gg, 0, none⟩) (F.length + 1) cap, .slice ao 0 c2, (HR2.out.s1 (.slice ao 0 c2)).s2 false, ?_, ?_⟩
    · have := (HR2.out.s1 (.slice ao 0 c2)).kept (HR2.out.kept HF2.out (by decide) 1 (.slice ao 0 c2)) (by decide) 2 (.bool false)
      simpa [strV] using this
    · have := HL3.out _ ((HR2.out.s1 (.slice ao 0 c2)).kept (HR2.out.kept HL2.out (by decide) 1 (.slice ao 0 c2)) (by decide) 2 (.bool false))
      exact this
theorem end_shut (w : World) (rb : Nat) (fv lv : Value) (q : Bool) (hr : Rr w rb fv lv false q) :
    Calls Tryd.prog 31 #[.pointer (some ⟨rb, 0, none⟩)] w fun e w' => e = .returned (.tuple #[]) ∧ w = w' := by
  have k2 := hr.c2
  clear hr
  go_enter Tryd.func31, Tryd.ntmps31
  go_wp2
  first | (go_end0; exact ⟨rfl, rfl⟩) | (refine bodyPost_ret (results_none rfl _ _ _) rfl ?_; exact ⟨rfl, rfl⟩)
theorem slice_none (wx : World) : (Instr.slice 45 (.slice none 0 0) none (some (.int .i64 0)) none).run Tryd.prog wx = .ok (.slice none 0 0) wx := by go_simp
theorem slice_some (g n cap : Nat) (wx : World) : (Instr.slice 45 (.slice (some ⟨g, 0, none⟩) n cap) none (some (.int .i64 0)) none).run Tryd.prog wx = .ok (.slice (some ⟨g, 0, none⟩) 0 cap) wx := by go_simp
/-- the end of a field, if there is one -/
theorem end_any (W0 w : World) (rb : Nat) (F : List ByteArray) (L : List UInt8) (o q : Bool) (hF : F.length ≤ 5000) (hb : Below W0.heap.size W0 w) (hrb : W0.heap.size ≤ rb) (h : Rd W0.heap.size w rb F L o q) :
    Calls Tryd.prog 31 #[.pointer (some ⟨rb, 0, none⟩)] w fun e w' => e = .returned (.tuple #[]) ∧ Below W0.heap.size W0 w' ∧ Rd W0.heap.size w' rb (if o then F ++ [⟨L.toArray⟩] else F) (if o then [] else L) false q := by
  obtain ⟨fv, lv, hr, hof, hol⟩ := h
  cases o with
  | false =>
    refine (end_shut w rb fv lv q hr).mono ?_
    rintro e w' ⟨rfl, rfl⟩
    exact ⟨rfl, hb, fv, lv, hr, hof, hol⟩
  | true =>
    rcases hol.2 with ⟨rfl, e⟩ | ⟨g, cap, cur, rfl, h2, h3, h4⟩
    · have e0 := List.eq_nil_of_length_eq_zero e
      subst e0
      exact end_core W0 w rb F [] q fv _ none 0 hF hb hrb hr hof hol slice_none (fun wx h => h)
    · exact end_core W0 w rb F L q fv _ (some ⟨g, 0, none⟩) cap hF hb hrb hr hof hol (slice_some g _ cap) (fun wx h => own_none h)
theorem end_at (W0 w : World) (rb : Nat) (hrb : W0.heap.size = rb) (F : List ByteArray) (L : List UInt8) (o q : Bool) (hF : F.length ≤ 5000) (hb : Below rb W0 w) (h : Rd rb w rb F L o q) :
    Calls Tryd.prog 31 #[.pointer (some ⟨rb, 0, none⟩)] w fun e w' => e = .returned (.tuple #[]) ∧ Below rb W0 w' ∧ Rd rb w' rb (if o then F ++ [⟨L.toArray⟩] else F) (if o then [] else L) false q := by
  subst hrb
  exact end_any W0 w _ F L o q hF hb (Nat.le_refl _) h
end Go.Proofs.YtlekbbggbfhgaaaDoor
