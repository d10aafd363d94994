/- Parameters that are slices, as a row's frame opens them. -/
import Derived.Test.YtejdeaacpjgjiaaKit
import Derived.ProofKit
import Derived.ChangeSlices
import Derived.Carry
namespace Go.Proofs.Ytejdeaacpjgjiaa
open Go.ChangeShapes Go.WideShapes Go.ChangeAt Go.RowKit
/-- a slice of whole numbers of 64 bits -/
theorem open_nums {H : Type} {enc : TypeId × Value → H} {W : World} {t e : TypeId} {base : Nat} {v : Value} {d : DataW H} {ps : List MemPlace} (ht : Try.prog.underlying t = some (.slice e)) (he : Try.prog.underlying e = some (.int .i64)) (hc : Try.prog.cellsOf e = 1)
    (hv : Value.okWide Try.prog W .any base t v) (h : DataW.Trod enc Try.prog W 0 (fun _ => true) true t v d ps) : ∃ zs, Ints W v zs ∧ (∀ n ∈ zs, (Lit.int .i64 n).wf = true) ∧ zs.length ≤ maxLen := by
  obtain ⟨a0, len, cap, rfl⟩ := okWide_slice ht hv
  obtain ⟨fuel, hf⟩ := h
  rcases open_ints ht he hc hf with ⟨hcs, hx⟩ | ⟨a, len', cap', zs, hcs, _, hl, hm, hz, hx, hcell, hwz⟩
  · simp [Value.cells] at hcs
    obtain ⟨rfl, rfl, rfl⟩ := hcs
    exact ⟨[], .inl ⟨_, _, rfl, rfl⟩, by simp, by simp⟩
  · simp [Value.cells] at hcs
    obtain ⟨rfl, rfl, rfl⟩ := hcs
    simp only [if_true] at hz
    have hlt : (zs.take len).length = len := by simp; omega
    refine ⟨zs.take len, ?_, fun n hn => hwz n (List.mem_of_mem_take hn), by omega⟩
    by_cases h0 : len = 0
    · subst h0
      exact .inl ⟨_, _, rfl, by simp⟩
    · obtain ⟨b, off, spot⟩ := a
      have hspot : spot = none := by simpa [Addr.add] using World.cell?_spot (hcell 0 (by omega))
      subst hspot
      have hc2 : ∀ j, j < len → W.cell? ⟨b, off + j, none⟩ = some (.int .i64 (nth (zs.take len) j)) := by
        intro j hj
        have := hcell j (by omega)
        rw [add_plain] at this
        rw [this]
        congr 2
        simp [nth, hj, List.getD_eq_getElem?_getD]
      exact .inr ⟨b, off, cap, by rw [hlt], by omega, cell_lt (hc2 0 (by omega)), fun j hj => hc2 j (by omega)⟩
end Go.Proofs.Ytejdeaacpjgjiaa
