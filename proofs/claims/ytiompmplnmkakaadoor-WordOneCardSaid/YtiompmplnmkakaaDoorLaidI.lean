/- What the condition on the listed variables gives the walks of layer 8: the four tables of words lie in their blocks. -/
import Derived.Test.YtiompmplnmkakaaDoorWde
import Derived.ProofKit
import Derived.LaidMore
import Derived.Lay
import Derived.Lib.LaidTab
import Derived.Stop.Joined
import Derived.Stop.LaidErr
import Derived.Deep.DeepHandedRow
import Derived.Shelf.Vars
namespace Go.Proofs.YtiompmplnmkakaaDoor
open Go.ChangeShapes Go.WideShapes Go.ChangeAt Go.RowKit
def laidL : List (String × DataW Unit) := [("unicode/utf8.acceptRanges", Rows.laid_unicode_utf8_acceptRanges), ("analemma/word.lines", Rows.laid_analemma_word_lines), ("analemma/word.months", Rows.laid_analemma_word_months), ("analemma/word.weekdays", Rows.laid_analemma_word_weekdays), ("analemma/word.years", Rows.laid_analemma_word_years), ("unicode.CaseRanges", Rows.laid_unicode_CaseRanges), ("unicode/utf8.first", Rows.laid_unicode_utf8_first)]
theorem own : ownKnob Tryd.prog.godebug = none := by kernel_rfl
theorem laidOut : laidOutB Tryd.prog = true := by kernel_rfl
theorem gLi : Tryd.prog.globalNamed "analemma/word.lines" = some 0 := by kernel_rfl
theorem gLiT : (Tryd.prog.globals[0]?).map (·.type) = some 47 := by kernel_rfl
theorem gMo : Tryd.prog.globalNamed "analemma/word.months" = some 1 := by kernel_rfl
theorem gMoT : (Tryd.prog.globals[1]?).map (·.type) = some 47 := by kernel_rfl
theorem gWe : Tryd.prog.globalNamed "analemma/word.weekdays" = some 2 := by kernel_rfl
theorem gWeT : (Tryd.prog.globals[2]?).map (·.type) = some 47 := by kernel_rfl
theorem gYe : Tryd.prog.globalNamed "analemma/word.years" = some 3 := by kernel_rfl
theorem gYeT : (Tryd.prog.globals[3]?).map (·.type) = some 47 := by kernel_rfl
theorem cStr : Tryd.prog.cellsOf 9 = 1 := by kernel_rfl
theorem c13 : Tryd.prog.cellsOf 47 = 13 := by kernel_rfl
theorem all_met (os : Os) (args : Array Value) : laidMetH Tryd.prog laidL ((World.laidAll Tryd.prog os laidL).forCall (fun _ _ => 0) ⟨#[], args, []⟩).memory := by
  rw [MakeChecks.laidMetH_plain _ _ _ (by kernel_rfl)]; exact laidMet_laidAll _ (by kernel_rfl) (by kernel_rfl)
/-- an array of strings that reads as these bytes -/
theorem cells_of_strs {H : Type} {enc : TypeId × Value → H} {P : Program} {w : World} {base : Nat} {sp : Nat → Bool} {held : Bool} {fuel : Nat} {t e : TypeId} {n : Nat} {cs : List Value} {L : List (List UInt8)} {p : List MemPlace}
    (ht : P.underlying t = some (.array n e)) (he : P.underlying e = some .string) (hce : P.cellsOf e = 1) (hct : P.cellsOf t = n)
    (h : DataW.trod enc P w base sp held fuel t cs = some (.agg (L.map fun l => .lit (.string l)), p)) : cs = L.map fun l => Value.string ⟨l.toArray⟩ := by
  cases fuel with
  | zero => simp [DataW.trod] at h
  | succ fuel =>
    simp only [DataW.trod, ht, hce, hct, Nat.mul_one] at h
    split at h
    · rename_i hl
      obtain ⟨xs, hm, hx⟩ := Option.map_eq_some_iff.1 h
      have hxs : xs.map (·.1) = L.map fun l => (DataW.lit (.string l) : DataW H) := by
        have := congrArg Prod.fst hx
        simpa using this
      have hxl : xs.length = n := by simpa using Lib.mapM_length hm
      have hzl : L.length = n := by
        have := congrArg List.length hxs
        simp at this
        omega
      apply List.ext_getElem?
      intro i
      by_cases hi : i < n
      · obtain ⟨b, hb, hf⟩ := Lib.mapM_at hm i i (by simp [hi])
        obtain ⟨s, hc, rfl, _⟩ := DataW.trod_string he hf
        have h1 : cs[i]? = some (.string s) := by
          have := congrArg (·[0]?) hc
          simpa [List.getElem?_take, List.getElem?_drop] using this
        have h2 : (xs.map (·.1))[i]? = some (DataW.lit (.string s.data.toList) : DataW H) := by simp [hb]
        rw [hxs] at h2
        simp only [List.getElem?_map, Option.map_eq_some_iff, DataW.lit.injEq, Lit.string.injEq] at h2
        obtain ⟨z', hz', e2⟩ := h2
        simp [h1, hz', e2]
      · rw [List.getElem?_eq_none (by omega), List.getElem?_eq_none (by simp; omega)]
    · cases h
/-- the first of the list, an array of strings -/
theorem strs_of_head {P : Program} {W : World} {name : String} {L : List (List UInt8)} {rest : List (String × DataW Unit)} {g : Nat} {t e : TypeId} {n : Nat}
    (hg : P.globalNamed name = some g) (hty : (P.globals[g]?).map (·.type) = some t) (ht : P.underlying t = some (.array n e)) (he : P.underlying e = some .string) (hce : P.cellsOf e = 1) (hct : P.cellsOf t = n)
    (h : laidMet P ((name, .agg (L.map fun l => .lit (.string l))) :: rest) W) : Cs W g (L.map fun l => Value.string ⟨l.toArray⟩) := by
  obtain ⟨ps, ⟨g', t', cs, fuel, p, q, hg', ht', hvar, hd, _, _⟩, _⟩ := h
  obtain rfl := Option.some.inj (hg.symm.trans hg')
  obtain rfl := Option.some.inj (hty.symm.trans ht')
  have hc := cells_of_strs ht he hce hct hd
  have hv2 : W.var? P name = some (L.map fun l => Value.string ⟨l.toArray⟩).toArray := by rw [hvar, ← hc]
  intro i v hi
  have := World.var?_cell hg hv2 i
  rw [this]
  simpa using hi
def byL (L : List ByteArray) : List (List UInt8) := L.map fun s => s.data.toList
theorem strs_list (L : List ByteArray) : (byL L).map (fun l => Value.string ⟨l.toArray⟩) = strV L := by
  simp [byL, strV]
theorem eqLi : Rows.laid_analemma_word_lines (H := Unit) = .agg ((byL linesL).map fun l => .lit (.string l)) := rfl
theorem eqMo : Rows.laid_analemma_word_months (H := Unit) = .agg ((byL monthsL).map fun l => .lit (.string l)) := rfl
theorem eqWe : Rows.laid_analemma_word_weekdays (H := Unit) = .agg ((byL weeksL).map fun l => .lit (.string l)) := rfl
theorem eqYe : Rows.laid_analemma_word_years (H := Unit) = .agg ((byL yearsL).map fun l => .lit (.string l)) := rfl
theorem laid_facts {W : World} (h : laidMetH Tryd.prog laidL W) : TabW W := by
  rw [MakeChecks.laidMetH_plain _ _ _ (by kernel_rfl), laidL, eqLi, eqMo, eqWe, eqYe] at h
  have h1 := h.tail
  have a1 := strs_of_head gLi gLiT und13 Tryd.underlying9 cStr c13 h1
  have a2 := strs_of_head gMo gMoT und13 Tryd.underlying9 cStr c13 h1.tail
  have a3 := strs_of_head gWe gWeT und13 Tryd.underlying9 cStr c13 h1.tail.tail
  have a4 := strs_of_head gYe gYeT und13 Tryd.underlying9 cStr c13 h1.tail.tail.tail
  rw [strs_list] at a1 a2 a3 a4
  exact ⟨a1, a2, a3, a4⟩
end Go.Proofs.YtiompmplnmkakaaDoor
