/- What the condition on the listed variables gives the walks of layer 6: the tables lie in their blocks. -/
import Derived.Test.YteahckmpjihcaaaDoorLaw06a
import Derived.ProofKit
import Derived.LaidMore
import Derived.Lib.LaidTab
import Derived.Stop.Joined
import Derived.Stop.LaidErr
namespace Go.Proofs.YteahckmpjihcaaaDoor
open Go.ChangeShapes Go.WideShapes Go.ChangeAt Go.RowKit

def laidL : List (String × DataW Unit) := [("math/bits.deBruijn32tab", Rows.laid_math_bits_deBruijn32tab), ("math/bits.deBruijn64tab", Rows.laid_math_bits_deBruijn64tab), ("internal/strconv.uint64pow10", Rows.laid_internal_strconv_uint64pow10), ("analemma/offset.counts", Rows.laid_analemma_offset_counts), ("analemma/clock.letters", Rows.laid_analemma_clock_letters), ("analemma/clock.canonical", Rows.laid_analemma_clock_canonical)]
theorem own : ownKnob Tryd.prog.godebug = none := by kernel_rfl
theorem laidOut : laidOutB Tryd.prog = true := by kernel_rfl
theorem gPow : Tryd.prog.globalNamed "internal/strconv.uint64pow10" = some 3 := by kernel_rfl
theorem gPowT : (Tryd.prog.globals[3]?).map (·.type) = some 78 := by kernel_rfl
theorem gCts : Tryd.prog.globalNamed "analemma/offset.counts" = some 2 := by kernel_rfl
theorem gCtsT : (Tryd.prog.globals[2]?).map (·.type) = some 54 := by kernel_rfl
theorem gLet : Tryd.prog.globalNamed "analemma/clock.letters" = some 1 := by kernel_rfl
theorem gLetT : (Tryd.prog.globals[1]?).map (·.type) = some 51 := by kernel_rfl
theorem gCan : Tryd.prog.globalNamed "analemma/clock.canonical" = some 0 := by kernel_rfl
theorem gCanT : (Tryd.prog.globals[0]?).map (·.type) = some 51 := by kernel_rfl
theorem cU64 : Tryd.prog.cellsOf 71 = 1 := by kernel_rfl
theorem cI64 : Tryd.prog.cellsOf 2 = 1 := by kernel_rfl
theorem cStr : Tryd.prog.cellsOf 9 = 1 := by kernel_rfl
theorem c20 : Tryd.prog.cellsOf 78 = 20 := by kernel_rfl
theorem c3 : Tryd.prog.cellsOf 54 = 3 := by kernel_rfl
theorem c3s : Tryd.prog.cellsOf 51 = 3 := by kernel_rfl
theorem door_met (os : Os) (args : Array Value) : laidMetH Tryd.prog laidL ((World.doorLaid Tryd.prog 400 os).forCall (fun _ _ => 0) ⟨#[], args, []⟩).memory :=
  laidMetH_of_parts3 (fuel := 8) (laidMet_of_run' 8 (by kernel_rfl) (by kernel_rfl)) (by kernel_rfl) (by kernel_rfl)
/-- an array of strings that reads as these bytes -/
theorem cells_of_strs {H : Type} {enc : TypeId × Value → H} {P : Program} {w : World} {base : Nat} {sp : Nat → Bool} {held : Bool} {fuel : Nat} {t e : TypeId} {n : Nat} {cs : List Value} {L : List (List UInt8)} {p : List MemPlace}
    (ht : P.underlying t = some (.array n e)) (he : P.underlying e = some .string) (hce : P.cellsOf e = 1) (hct : P.cellsOf t = n)
    (h : DataW.trod enc P w base sp held fuel t cs = some (.agg (L.map fun l => .lit (.string l)), p)) : cs = L.map fun l => Value.string ⟨l.toArray⟩ := by
  cases fuel with
  | zero => simp [DataW.trod] at h
  | succ fuel =>
    simp only [DataW.trod, ht, hce, hct, Nat.mul_one] at h
    split at h
    · rename_i hl
      obtain ⟨xs, hm, hx⟩ := Option.map_eq_some_iff.1 h
      have hxs : xs.map (·.1) = L.map fun l => (DataW.lit (.string l) : DataW H) := by
        have := congrArg Prod.fst hx
        simpa using this
      have hxl : xs.length = n := by simpa using Lib.mapM_length hm
      have hzl : L.length = n := by
        have := congrArg List.length hxs
        simp at this
        omega
      apply List.ext_getElem?
      intro i
      by_cases hi : i < n
      · obtain ⟨b, hb, hf⟩ := Lib.mapM_at hm i i (by simp [hi])
        obtain ⟨s, hc, rfl, _⟩ := DataW.trod_string he hf
        have h1 : cs[i]? = some (.string s) := by
          have := congrArg (·[0]?) hc
          simpa [List.getElem?_take, List.getElem?_drop] using this
        have h2 : (xs.map (·.1))[i]? = some (DataW.lit (.string s.data.toList) : DataW H) := by simp [hb]
        rw [hxs] at h2
        simp only [List.getElem?_map, Option.map_eq_some_iff, DataW.lit.injEq, Lit.string.injEq] at h2
        obtain ⟨z', hz', e2⟩ := h2
        simp [h1, hz', e2]
      · rw [List.getElem?_eq_none (by omega), List.getElem?_eq_none (by simp; omega)]
    · cases h
/-- the first of the list, an array of strings -/
theorem strs_of_head {P : Program} {W : World} {name : String} {L : List (List UInt8)} {rest : List (String × DataW Unit)} {g : Nat} {t e : TypeId} {n : Nat}
    (hg : P.globalNamed name = some g) (hty : (P.globals[g]?).map (·.type) = some t) (ht : P.underlying t = some (.array n e)) (he : P.underlying e = some .string) (hce : P.cellsOf e = 1) (hct : P.cellsOf t = n)
    (h : laidMet P ((name, .agg (L.map fun l => .lit (.string l))) :: rest) W) (i : Nat) (hi : i < L.length) : W.cell? ⟨g, i, none⟩ = some (.string ⟨(L.getD i []).toArray⟩) := by
  obtain ⟨ps, ⟨g', t', cs, fuel, p, q, hg', ht', hvar, hd, _, _⟩, _⟩ := h
  obtain rfl := Option.some.inj (hg.symm.trans hg')
  obtain rfl := Option.some.inj (hty.symm.trans ht')
  have hc := cells_of_strs ht he hce hct hd
  have hv2 : W.var? P name = some (L.map fun l => Value.string ⟨l.toArray⟩).toArray := by rw [hvar, ← hc]
  have := World.var?_cell hg hv2 i
  simpa [List.getD, hi] using this
theorem laid_facts {W : World} (h : laidMetH Tryd.prog laidL W) : Tabs W := by
  rw [MakeChecks.laidMetH_plain _ _ _ (by kernel_rfl)] at h
  have h3 := h.tail.tail
  have hP := Lib.tabIs_of_head (k := .u64) (zs := Lib.pow10Tab) gPow gPowT Tryd.underlying78 Tryd.underlying71 cU64 c20 h3
  have hC := Lib.tabIs_of_head (k := .i64) (zs := [3600, 60, 1]) gCts gCtsT Tryd.underlying54 Tryd.underlying2 cI64 c3 h3.tail
  have h4 := h3.tail.tail
  refine ⟨⟨fun i hi => hC.cell gCts i (by simpa using hi), hP⟩, fun i hi => ?_, fun i hi => ?_⟩
  · have := strs_of_head (L := [[119], [115], [117, 103, 122]]) gLet gLetT Tryd.underlying51 Tryd.underlying9 cStr c3s h4 i hi
    rw [this]
    have h3 : i = 0 ∨ i = 1 ∨ i = 2 := by omega
    rcases h3 with rfl | rfl | rfl <;> rfl
  · have := strs_of_head (L := [[], [115], [117]]) gCan gCanT Tryd.underlying51 Tryd.underlying9 cStr c3s h4.tail i hi
    rw [this]
    have h3 : i = 0 ∨ i = 1 ∨ i = 2 := by omega
    rcases h3 with rfl | rfl | rfl <;> rfl
end Go.Proofs.YteahckmpjihcaaaDoor
