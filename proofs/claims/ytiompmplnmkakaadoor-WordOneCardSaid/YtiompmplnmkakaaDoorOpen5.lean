/- Parameters that are slices of strings, and slices of slices of bytes, as a row's frame opens them. -/
import Derived.Test.YtiompmplnmkakaaDoorStr
import Derived.ProofKit
import Derived.ChangeSlices
import Derived.SliceStrings
import Derived.Carry
namespace Go.Proofs.YtiompmplnmkakaaDoor
open Go.ChangeShapes Go.WideShapes Go.ChangeAt Go.RowKit
/-- a slice of bytes: without any; or in a block -/
def Byts (w : World) (sv : Value) (l : List UInt8) : Prop :=
  (∃ a cap, sv = .slice a 0 cap ∧ l = []) ∨ ∃ b off cap, sv = .slice (some ⟨b, off, none⟩) l.length cap ∧ (0 < l.length ∧ l.length ≤ cap) ∧ b < w.heap.size ∧ ∀ j x, l[j]? = some x → w.cell? ⟨b, off + j, none⟩ = some (.int .u8 (x.toNat : Int))
theorem Byts.bl {w w' : World} {sv : Value} {l : List UInt8} (h : Byts w sv l) (k : Below w.heap.size w w') : Byts w' sv l := by
  rcases h with h | ⟨b, off, cap, h1, h2, h3, h4⟩
  · exact .inl h
  · exact .inr ⟨b, off, cap, h1, h2, Nat.lt_of_lt_of_le h3 k.size, fun j s hj => cell_bl k (h4 j s hj)⟩
/-- a slice of slices of bytes -/
def Drf (w : World) (sv : Value) (D : List (List UInt8)) : Prop :=
  (∃ a cap, sv = .slice a 0 cap ∧ D = []) ∨ ∃ b off cap, sv = .slice (some ⟨b, off, none⟩) D.length cap ∧ (0 < D.length ∧ D.length ≤ cap) ∧ b < w.heap.size ∧ ∀ j l, D[j]? = some l → ∃ u, w.cell? ⟨b, off + j, none⟩ = some u ∧ Byts w u l
theorem Drf.bl {w w' : World} {sv : Value} {D : List (List UInt8)} (h : Drf w sv D) (k : Below w.heap.size w w') : Drf w' sv D := by
  rcases h with h | ⟨b, off, cap, h1, h2, h3, h4⟩
  · exact .inl h
  · refine .inr ⟨b, off, cap, h1, h2, Nat.lt_of_lt_of_le h3 k.size, fun j l hj => ?_⟩
    obtain ⟨u, hu, hb⟩ := h4 j l hj
    exact ⟨u, cell_bl k hu, hb.bl k⟩
theorem open_strs5 {H : Type} {enc : TypeId × Value → H} {W : World} {t e : TypeId} {base : Nat} {v : Value} {d : DataW H} {ps : List MemPlace} (ht : Tryd.prog.underlying t = some (.slice e)) (he : Tryd.prog.underlying e = some .string) (hc : Tryd.prog.cellsOf e = 1)
    (hv : Value.okWide Tryd.prog W .any base t v) (h : DataW.Trod enc Tryd.prog W 0 (fun _ => true) true t v d ps) : ∃ L, Strs W v L ∧ (∀ s ∈ L, s.size ≤ maxLen) ∧ L.length ≤ maxLen := by
  obtain ⟨a0, len, cap, rfl⟩ := okWide_slice ht hv
  obtain ⟨fuel, hf⟩ := h
  rcases open_strings ht he hc hf with ⟨hcs, hx⟩ | ⟨a, len', cap', ss, hcs, _, hl, hm, hz, hx, hcell, hwz⟩
  · simp [Value.cells] at hcs
    obtain ⟨rfl, rfl, rfl⟩ := hcs
    exact ⟨[], .inl ⟨_, _, rfl, rfl⟩, by simp, by simp⟩
  · simp [Value.cells] at hcs
    obtain ⟨rfl, rfl, rfl⟩ := hcs
    simp only [if_true] at hz
    have hlt : (ss.take len).length = len := by simp; omega
    refine ⟨ss.take len, ?_, fun n hn => hwz n (List.mem_of_mem_take hn), by omega⟩
    by_cases h0 : len = 0
    · subst h0
      exact .inl ⟨_, _, rfl, by simp⟩
    · obtain ⟨b, off, spot⟩ := a
      have hspot : spot = none := by simpa [Addr.add] using World.cell?_spot (hcell 0 (by omega))
      subst hspot
      have hc2 : ∀ j s, (ss.take len)[j]? = some s → W.cell? ⟨b, off + j, none⟩ = some (.string s) := by
        intro j s hj
        have hjl : j < len := by have := (List.getElem?_eq_some_iff.1 hj).1; omega
        have := hcell j (by omega)
        rw [add_plain] at this
        rw [List.getElem?_take, if_pos hjl] at hj
        rw [this, List.getD_eq_getElem?_getD, hj]; rfl
      have hb0 : b < W.heap.size := by
        have := hcell 0 (by omega)
        rw [add_plain] at this
        exact cell_lt this
      exact .inr ⟨b, off, cap, by rw [hlt], by omega, hb0, hc2⟩
/-- what lies in one cell of a draft -/
theorem open_row {H : Type} {enc : TypeId × Value → H} {W : World} {t e : TypeId} {n : Nat} {u : Value} {y : DataW H × List MemPlace} (ht : Tryd.prog.underlying t = some (.slice e)) (he : Tryd.prog.underlying e = some (.int .u8)) (hc : Tryd.prog.cellsOf e = 1)
    (h : DataW.trod enc Tryd.prog W 0 (fun _ => true) true n t [u] = some y) : ∃ l, Byts W u l ∧ l.length ≤ maxLen := by
  rcases open_ints ht he hc h with ⟨hcs, hx⟩ | ⟨a, len, cap, zs, hcs, _, hl, hm, hz, hx, hcell, hwz⟩
  · simp at hcs
    subst hcs
    exact ⟨[], .inl ⟨_, _, rfl, rfl⟩, by simp⟩
  · simp at hcs
    subst hcs
    simp only [if_true] at hz
    have hlt : ((zs.take len).map fun z => UInt8.ofNat z.toNat).length = len := by simp; omega
    refine ⟨(zs.take len).map fun z => UInt8.ofNat z.toNat, ?_, by omega⟩
    by_cases h0 : len = 0
    · subst h0
      exact .inl ⟨_, _, rfl, by simp⟩
    · obtain ⟨b, off, spot⟩ := a
      have hspot : spot = none := by simpa [Addr.add] using World.cell?_spot (hcell 0 (by omega))
      subst hspot
      have hc2 : ∀ j x, ((zs.take len).map fun z => UInt8.ofNat z.toNat)[j]? = some x → W.cell? ⟨b, off + j, none⟩ = some (.int .u8 (x.toNat : Int)) := by
        intro j x hj
        have hjl : j < len := by have := (List.getElem?_eq_some_iff.1 hj).1; omega
        have := hcell j (by omega)
        rw [add_plain] at this
        rw [List.getElem?_map, List.getElem?_take, if_pos hjl, List.getElem?_eq_getElem (by omega)] at hj
        simp at hj
        have hb := bounds_u8 (hwz zs[j] (List.getElem_mem _))
        have e : zs.getD j 0 = (x.toNat : Int) := by
          rw [List.getD_eq_getElem?_getD, List.getElem?_eq_getElem (by omega), Option.getD_some, ← hj, UInt8.toNat_ofNat']
          omega
        rw [this, e]
      have hb0 : b < W.heap.size := by
        have := hcell 0 (by omega)
        rw [add_plain] at this
        exact cell_lt this
      exact .inr ⟨b, off, cap, by rw [hlt], by omega, hb0, hc2⟩
theorem open_draft {H : Type} {enc : TypeId × Value → H} {W : World} {t r e : TypeId} {base : Nat} {v : Value} {d : DataW H} {ps : List MemPlace} (ht : Tryd.prog.underlying t = some (.slice r)) (hr : Tryd.prog.underlying r = some (.slice e)) (he : Tryd.prog.underlying e = some (.int .u8)) (hc : Tryd.prog.cellsOf e = 1) (hcr : Tryd.prog.cellsOf r = 1)
    (hv : Value.okWide Tryd.prog W .any base t v) (h : DataW.Trod enc Tryd.prog W 0 (fun _ => true) true t v d ps) : ∃ D, Drf W v D ∧ (∀ l ∈ D, l.length ≤ maxLen) ∧ D.length ≤ maxLen := by
  obtain ⟨a0, len, cap, rfl⟩ := okWide_slice ht hv
  obtain ⟨fuel, hf⟩ := h
  rcases DataW.trod_slice ht hf with ⟨hcs, _⟩ | ⟨a, len', cap', elems, rest, n, _, hcs, _, _, hl, hm, hlen, hel, _, _⟩
  · simp [Value.cells] at hcs
    obtain ⟨rfl, rfl, rfl⟩ := hcs
    exact ⟨[], .inl ⟨_, _, rfl, rfl⟩, by simp, by simp⟩
  · simp [Value.cells] at hcs
    obtain ⟨rfl, rfl, rfl⟩ := hcs
    have each : ∀ i, i < len → ∃ u l, W.cell? (a.add i) = some u ∧ Byts W u l ∧ l.length ≤ maxLen := by
      intro i hi
      have h1 := hel i hi
      rw [List.getElem?_eq_getElem (by omega), hcr, Nat.mul_one, Option.bind_eq_some_iff] at h1
      obtain ⟨cs', hcs, hy⟩ := h1
      obtain ⟨u, rfl⟩ : ∃ u, cs' = [u] := by
        unfold World.cells? at hcs
        split at hcs
        · rw [List.range_one, List.mapM_cons, List.mapM_nil] at hcs
          simp [Option.bind_eq_some_iff] at hcs
          obtain ⟨u, _, rfl⟩ := hcs
          exact ⟨u, rfl⟩
        · cases hcs
      obtain ⟨l, hb, hll⟩ := open_row hr he hc hy
      exact ⟨u, l, cell_of_cells?_one hcs, hb, hll⟩
    by_cases h0 : len = 0
    · subst h0
      exact ⟨[], .inl ⟨_, _, rfl, rfl⟩, by simp, by simp⟩
    · obtain ⟨b, off, spot⟩ := a
      have hspot : spot = none := by
        obtain ⟨u, l, hu, _⟩ := each 0 (by omega)
        simpa [Addr.add] using World.cell?_spot hu
      subst hspot
      have pick : ∃ D : List (List UInt8), D.length = len ∧ ∀ j l, D[j]? = some l → (∃ u, W.cell? ⟨b, off + j, none⟩ = some u ∧ Byts W u l) ∧ l.length ≤ maxLen := by
        have step : ∀ m, m ≤ len → ∃ D : List (List UInt8), D.length = m ∧ ∀ j l, D[j]? = some l → (∃ u, W.cell? ⟨b, off + j, none⟩ = some u ∧ Byts W u l) ∧ l.length ≤ maxLen := by
          intro m
          induction m with
          | zero => intro _; exact ⟨[], rfl, by simp⟩
          | succ m ih =>
            intro hm
            obtain ⟨D, hD, hj⟩ := ih (by omega)
            obtain ⟨u, l, hu, hb, hll⟩ := each m (by omega)
            rw [add_plain] at hu
            refine ⟨D ++ [l], by simp [hD], fun j l' hj' => ?_⟩
            by_cases e : j < D.length
            · rw [List.getElem?_append_left e] at hj'; exact hj j l' hj'
            · have : j = D.length := by have := (List.getElem?_eq_some_iff.1 hj').1; simp at this; omega
              subst this
              simp at hj'
              subst hj'
              rw [hD]
              exact ⟨⟨u, hu, hb⟩, hll⟩
        exact step len (Nat.le_refl _)
      obtain ⟨D, hD, hj⟩ := pick
      refine ⟨D, .inr ⟨b, off, cap, by rw [hD], by omega, ?_, fun j l h => (hj j l h).1⟩, ?_, by omega⟩
      · obtain ⟨⟨u, hu, _⟩, _⟩ := hj 0 _ (List.getElem?_eq_getElem (by omega))
        exact cell_lt hu
      · intro l hl
        obtain ⟨j, h1, rfl⟩ := List.getElem_of_mem hl
        exact (hj j _ (List.getElem?_eq_getElem h1)).2
end Go.Proofs.YtiompmplnmkakaaDoor
