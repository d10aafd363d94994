/- What the condition on the listed variables, and the world's shape, give the walks of layer 9. -/
import Derived.Test.YtedcfnaphfgfjaaDoorDyv
import Derived.ProofKit
import Derived.LaidMore
import Derived.Lay
import Derived.Lib.LaidTab
import Derived.Lib.LaidU8
import Derived.Stop.Joined
import Derived.Stop.LaidErr
import Derived.Deep.DeepHandedRow
import Derived.Shelf.Vars
namespace Go.Proofs.YtedcfnaphfgfjaaDoor
open Go.ChangeShapes Go.WideShapes Go.ChangeAt Go.RowKit
def laidL : List (String × DataW Unit) := [("math/bits.deBruijn32tab", Rows.laid_math_bits_deBruijn32tab), ("math/bits.deBruijn64tab", Rows.laid_math_bits_deBruijn64tab), ("internal/strconv.uint64pow10", Rows.laid_internal_strconv_uint64pow10), ("unicode/utf8.acceptRanges", Rows.laid_unicode_utf8_acceptRanges), ("unicode.asciiFold", Rows.laid_unicode_asciiFold), ("unicode.caseOrbit", Rows.laid_unicode_caseOrbit), ("analemma/word.weekdays", Rows.laid_analemma_word_weekdays), ("analemma/dayspec.operators", Rows.laid_analemma_dayspec_operators), ("unicode.CaseRanges", Rows.laid_unicode_CaseRanges), ("unicode/utf8.first", Rows.laid_unicode_utf8_first)]
theorem own : ownKnob Tryd.prog.godebug = none := by kernel_rfl
theorem laidOut : laidOutB Tryd.prog = true := by kernel_rfl
theorem all_met (os : Os) (args : Array Value) : laidMetH Tryd.prog laidL ((World.laidAll Tryd.prog os laidL).forCall (fun _ _ => 0) ⟨#[], args, []⟩).memory := by
  rw [MakeChecks.laidMetH_plain _ _ _ (by kernel_rfl)]; exact laidMet_laidAll _ (by kernel_rfl) (by kernel_rfl)
theorem max_of {W : World} (h : W.ShapedOpen Tryd.prog) : MaxY W :=
  cell_of_shapedOpen_int (g := 5) (t := 3) (zero := #[.int .i64 0]) h (of_decide_eq_true (by kernel_rfl)) (by kernel_rfl) rfl (by kernel_rfl) (by kernel_rfl) Tryd.underlying3
theorem gFo : Tryd.prog.globalNamed "unicode.asciiFold" = some 3 := by kernel_rfl
theorem gFoT : (Tryd.prog.globals[3]?).map (·.type) = some 113 := by kernel_rfl
theorem gOr : Tryd.prog.globalNamed "unicode.caseOrbit" = some 4 := by kernel_rfl
theorem gOrT : (Tryd.prog.globals[4]?).map (·.type) = some 114 := by kernel_rfl
theorem gWe : Tryd.prog.globalNamed "analemma/word.weekdays" = some 1 := by kernel_rfl
theorem gWeT : (Tryd.prog.globals[1]?).map (·.type) = some 79 := by kernel_rfl
theorem gOp : Tryd.prog.globalNamed "analemma/dayspec.operators" = some 0 := by kernel_rfl
theorem gOpT : (Tryd.prog.globals[0]?).map (·.type) = some 57 := by kernel_rfl
theorem cStr : Tryd.prog.cellsOf 9 = 1 := by kernel_rfl
theorem c13 : Tryd.prog.cellsOf 79 = 13 := by kernel_rfl
theorem cU16 : Tryd.prog.cellsOf 41 = 1 := by kernel_rfl
theorem c128 : Tryd.prog.cellsOf 113 = 128 := by kernel_rfl
theorem cOp : Tryd.prog.cellsOf 56 = 2 := by kernel_rfl
theorem cPair : Tryd.prog.cellsOf 117 = 2 := by kernel_rfl
theorem opStruct : ∃ fs : Array Field, Tryd.prog.underlying 56 = some (.struct fs) ∧ fs.size = 2 ∧ ∀ (i : Nat) (f : Field), fs[i]? = some f → Tryd.prog.underlying f.type = some (.int .u8) ∧ f.offset = i ∧ Tryd.prog.cellsOf f.type = 1 := by
  refine ⟨_, Tryd.underlying56, rfl, fun i f h => ?_⟩
  match i, h with
  | 0, h => cases h; exact ⟨Tryd.underlying5, rfl, by kernel_rfl⟩
  | 1, h => cases h; exact ⟨Tryd.underlying5, rfl, by kernel_rfl⟩
theorem pairStruct : ∃ fs : Array Field, Tryd.prog.underlying 117 = some (.struct fs) ∧ fs.size = 2 ∧ ∀ (i : Nat) (f : Field), fs[i]? = some f → Tryd.prog.underlying f.type = some (.int .u16) ∧ f.offset = i ∧ Tryd.prog.cellsOf f.type = 1 := by
  refine ⟨_, Tryd.underlying117, rfl, fun i f h => ?_⟩
  match i, h with
  | 0, h => cases h; exact ⟨Tryd.underlying41, rfl, by kernel_rfl⟩
  | 1, h => cases h; exact ⟨Tryd.underlying41, rfl, by kernel_rfl⟩
theorem ops_of {w : World} (h : Lib.VarReads Tryd.prog w "analemma/dayspec.operators" Rows.laid_analemma_dayspec_operators) : Cs w 0 opsV := by
  obtain ⟨g, t, cs, fuel, p, hg, hty, hvar, hd⟩ := h
  obtain rfl := Option.some.inj (gOp.symm.trans hg)
  obtain rfl := Option.some.inj (gOpT.symm.trans hty)
  obtain ⟨fs, hs, hn, hf⟩ := opStruct
  have hc : ∀ i : Nat, i < 5 → ∀ a b : Int, (∃ L : List (DataW Unit), Rows.laid_analemma_dayspec_operators (H := Unit) = .agg L ∧ L[i]? = some (.agg [.lit (.int .u8 a), .lit (.int .u8 b)])) → cs.toList[i * 2]? = some (.int .u8 a) ∧ cs.toList[i * 2 + 1]? = some (.int .u8 b) := by
    intro i hi a b ⟨L, hL, hLi⟩
    rw [hL] at hd
    obtain ⟨fuel', d, q, hdi, he⟩ := Lib.array_elem Tryd.underlying57 hd i hi
    rw [hLi] at hdi
    obtain rfl := Option.some.inj hdi
    rw [cOp] at he
    have h2 := Lib.ints_of_struct (zs := [a, b]) hs hf (by rw [cOp, hn]) he
    constructor
    · have := congrArg (·[0]?) h2
      simpa [List.getElem?_take, List.getElem?_drop] using this
    · have := congrArg (·[1]?) h2
      simpa [List.getElem?_take, List.getElem?_drop] using this
  intro j v hj
  have h1 : ∀ k v, cs.toList[k]? = some v → w.cell? ⟨0, k, none⟩ = some v := fun k v hk => by
    rw [World.var?_cell hg hvar k, ← Array.getElem?_toList]; exact hk
  have k0 := hc 0 (by omega) 0 0 ⟨_, rfl, rfl⟩
  have k1 := hc 1 (by omega) 0 0 ⟨_, rfl, rfl⟩
  have k2 := hc 2 (by omega) 0 0 ⟨_, rfl, rfl⟩
  have k3 := hc 3 (by omega) 62 61 ⟨_, rfl, rfl⟩
  have k4 := hc 4 (by omega) 60 61 ⟨_, rfl, rfl⟩
  match j, hj with
  | 0, hj => cases hj; exact h1 _ _ k0.1
  | 1, hj => cases hj; exact h1 _ _ k0.2
  | 2, hj => cases hj; exact h1 _ _ k1.1
  | 3, hj => cases hj; exact h1 _ _ k1.2
  | 4, hj => cases hj; exact h1 _ _ k2.1
  | 5, hj => cases hj; exact h1 _ _ k2.2
  | 6, hj => cases hj; exact h1 _ _ k3.1
  | 7, hj => cases hj; exact h1 _ _ k3.2
  | 8, hj => cases hj; exact h1 _ _ k4.1
  | 9, hj => cases hj; exact h1 _ _ k4.2
theorem orbit_of {w : World} (h : Lib.VarReads Tryd.prog w "unicode.caseOrbit" Rows.laid_unicode_caseOrbit) :
    ∃ R o cap, w.cell? ⟨4, 0, none⟩ = some (.slice (some ⟨R, o, none⟩) 94 cap) ∧ ∀ (k : Nat) (f t : Nat), k < 94 → (∃ L : List (DataW Unit), Rows.laid_unicode_caseOrbit (H := Unit) = .slice L [] ∧ L[k]? = some (.agg [.lit (.int .u16 (f : Int)), .lit (.int .u16 (t : Int))])) → w.cell? ⟨R, o + 2 * k, none⟩ = some (.int .u16 (f : Int)) ∧ w.cell? ⟨R, o + 2 * k + 1, none⟩ = some (.int .u16 (t : Int)) := by
  obtain ⟨g, t, cs, fuel, p, hg, hty, hvar, hd⟩ := h
  obtain rfl := Option.some.inj (gOr.symm.trans hg)
  obtain rfl := Option.some.inj (gOrT.symm.trans hty)
  obtain ⟨fs, hs, hn, hf⟩ := pairStruct
  obtain ⟨L, hL, hl⟩ : ∃ L : List (DataW Unit), Rows.laid_unicode_caseOrbit (H := Unit) = .slice L [] ∧ L.length = 94 := ⟨_, rfl, rfl⟩
  rw [hL] at hd
  rcases DataW.trod_slice Tryd.underlying114 hd with ⟨_, hx⟩ | ⟨a, len, cap, el, rs, m, rfl, hcs, hx, _, hlc, _, hel, helem, hsp, _⟩
  · cases hx
  have e0 := congrArg Prod.fst hx
  simp only [DataW.slice.injEq] at e0
  obtain ⟨eE, eR⟩ := e0
  have hlen : len = 94 := by
    have := congrArg List.length eE
    simp [hl] at this
    omega
  have hcell : ∀ i : Nat, i < 94 → ∀ f t : Nat, L[i]? = some (.agg [.lit (.int .u16 (f : Int)), .lit (.int .u16 (t : Int))]) → w.cell? (a.add (i * 2)) = some (.int .u16 (f : Int)) ∧ w.cell? ((a.add (i * 2)).add 1) = some (.int .u16 (t : Int)) := by
    intro i hi f t hLi
    have h1 := helem i (by omega)
    rw [cPair] at h1
    obtain ⟨b, hb⟩ : ∃ b, el[i]? = some b := ⟨el[i]'(by omega), List.getElem?_eq_getElem (by omega)⟩
    rw [hb] at h1
    obtain ⟨ce, hce, hte⟩ := Option.bind_eq_some_iff.1 h1
    have hb1 : b.1 = .agg [.lit (.int .u16 (f : Int)), .lit (.int .u16 (t : Int))] := by
      have := congrArg (·[i]?) eE
      simp [hb, hLi] at this
      exact this.symm
    obtain ⟨b1, b2⟩ := b
    simp only at hb1
    subst hb1
    have h2 := Lib.ints_of_struct (zs := [(f : Int), (t : Int)]) hs hf (by rw [cPair, hn]) hte
    obtain ⟨_, _, hcc⟩ := World.cells?_some hce
    have q0 := hcc 0 (by omega)
    have q1 := hcc 1 (by omega)
    rw [h2] at q0 q1
    have e1 : (a.add (i * 2)).add 0 = a.add (i * 2) := by simp [Addr.add]
    rw [e1] at q0
    exact ⟨q0, q1⟩
  obtain ⟨R, o, sR⟩ := a
  obtain rfl : sR = none := by
    have h00 := (hcell 0 (by omega) 75 107 (by
      have : ∃ L' : List (DataW Unit), Rows.laid_unicode_caseOrbit (H := Unit) = .slice L' [] ∧ L'[0]? = some (.agg [.lit (.int .u16 ((75 : Nat) : Int)), .lit (.int .u16 ((107 : Nat) : Int))]) := ⟨_, rfl, rfl⟩
      obtain ⟨L', h1, h2⟩ := this
      rw [hL] at h1
      cases h1
      exact h2)).1
    have : (Addr.add ⟨R, o, sR⟩ (0 * 2)) = ⟨R, o, sR⟩ := by simp [Addr.add]
    rw [this] at h00
    exact Go.Proofs.cell_spot h00
  refine ⟨R, o, cap, ?_, fun k f t hk ⟨L', h1, h2⟩ => ?_⟩
  · rw [World.var?_cell hg hvar 0, ← Array.getElem?_toList, hcs, hlen]
    rfl
  · rw [hL] at h1
    cases h1
    have := hcell k hk f t h2
    rw [Addr.add_lit, Addr.add_lit] at this
    rw [show o + 2 * k = o + k * 2 by omega]
    exact this
/-- an array of strings that reads as these bytes -/
theorem cells_of_strs {H : Type} {enc : TypeId × Value → H} {P : Program} {w : World} {base : Nat} {sp : Nat → Bool} {held : Bool} {fuel : Nat} {t e : TypeId} {n : Nat} {cs : List Value} {L : List (List UInt8)} {p : List MemPlace}
    (ht : P.underlying t = some (.array n e)) (he : P.underlying e = some .string) (hce : P.cellsOf e = 1) (hct : P.cellsOf t = n)
    (h : DataW.trod enc P w base sp held fuel t cs = some (.agg (L.map fun l => .lit (.string l)), p)) : cs = L.map fun l => Value.string ⟨l.toArray⟩ := by
  cases fuel with
  | zero => simp [DataW.trod] at h
  | succ fuel =>
    simp only [DataW.trod, ht, hce, hct, Nat.mul_one] at h
    split at h
    · rename_i hl
      obtain ⟨xs, hm, hx⟩ := Option.map_eq_some_iff.1 h
      have hxs : xs.map (·.1) = L.map fun l => (DataW.lit (.string l) : DataW H) := by
        have := congrArg Prod.fst hx
        simpa using this
      have hxl : xs.length = n := by simpa using Lib.mapM_length hm
      have hzl : L.length = n := by
        have := congrArg List.length hxs
        simp at this
        omega
      apply List.ext_getElem?
      intro i
      by_cases hi : i < n
      · obtain ⟨b, hb, hf⟩ := Lib.mapM_at hm i i (by simp [hi])
        obtain ⟨s, hc, rfl, _⟩ := DataW.trod_string he hf
        have h1 : cs[i]? = some (.string s) := by
          have := congrArg (·[0]?) hc
          simpa [List.getElem?_take, List.getElem?_drop] using this
        have h2 : (xs.map (·.1))[i]? = some (DataW.lit (.string s.data.toList) : DataW H) := by simp [hb]
        rw [hxs] at h2
        simp only [List.getElem?_map, Option.map_eq_some_iff, DataW.lit.injEq, Lit.string.injEq] at h2
        obtain ⟨z', hz', e2⟩ := h2
        simp [h1, hz', e2]
      · rw [List.getElem?_eq_none (by omega), List.getElem?_eq_none (by simp; omega)]
    · cases h
/-- the first of the list, an array of strings -/
theorem strs_of_head {P : Program} {W : World} {name : String} {L : List (List UInt8)} {rest : List (String × DataW Unit)} {g : Nat} {t e : TypeId} {n : Nat}
    (hg : P.globalNamed name = some g) (hty : (P.globals[g]?).map (·.type) = some t) (ht : P.underlying t = some (.array n e)) (he : P.underlying e = some .string) (hce : P.cellsOf e = 1) (hct : P.cellsOf t = n)
    (h : laidMet P ((name, .agg (L.map fun l => .lit (.string l))) :: rest) W) : Cs W g (L.map fun l => Value.string ⟨l.toArray⟩) := by
  obtain ⟨ps, ⟨g', t', cs, fuel, p, q, hg', ht', hvar, hd, _, _⟩, _⟩ := h
  obtain rfl := Option.some.inj (hg.symm.trans hg')
  obtain rfl := Option.some.inj (hty.symm.trans ht')
  have hc := cells_of_strs ht he hce hct hd
  have hv2 : W.var? P name = some (L.map fun l => Value.string ⟨l.toArray⟩).toArray := by rw [hvar, ← hc]
  intro i v hi
  have := World.var?_cell hg hv2 i
  rw [this]
  simpa using hi
def byL (L : List ByteArray) : List (List UInt8) := L.map fun s => s.data.toList
theorem strs_list (L : List ByteArray) : (byL L).map (fun l => Value.string ⟨l.toArray⟩) = strV L := by
  simp [byL, strV]
theorem eqWe : Rows.laid_analemma_word_weekdays (H := Unit) = .agg ((byL weeksL).map fun l => .lit (.string l)) := rfl
theorem fold_tab {w : World} (h : Lib.VarReads Tryd.prog w "unicode.asciiFold" Rows.laid_unicode_asciiFold) (k v : Nat) (hk : (∃ L : List (DataW Unit), Rows.laid_unicode_asciiFold (H := Unit) = .agg L ∧ L[k]? = some (.lit (.int .u16 (v : Int))))) (hk2 : k < 128) : w.cell? ⟨3, k, none⟩ = some (.int .u16 (v : Int)) := by
  obtain ⟨g, t, cs, fuel, p, hg, hty, hvar, hd⟩ := h
  obtain rfl := Option.some.inj (gFo.symm.trans hg)
  obtain rfl := Option.some.inj (gFoT.symm.trans hty)
  obtain ⟨L, hL, hLk⟩ := hk
  rw [hL] at hd
  obtain ⟨fuel', d, q, hdi, he⟩ := Lib.array_elem Tryd.underlying113 hd k hk2
  rw [hLk] at hdi
  obtain rfl := Option.some.inj hdi
  rw [cU16] at he
  obtain ⟨z, hz, hb, _⟩ := DataW.trod_int Tryd.underlying41 he
  have hb2 : z = (v : Int) := by
    have := hb.symm
    simp at this
    exact this.1
  have h2 : cs.toList[k]? = some (.int .u16 z) := by
    have := congrArg (·[0]?) hz
    simpa [List.getElem?_take, List.getElem?_drop] using this
  rw [World.var?_cell hg hvar k, ← Array.getElem?_toList, h2, hb2]
theorem laid_facts {W : World} (h : laidMetH Tryd.prog laidL W) : TabY0 W := by
  rw [MakeChecks.laidMetH_plain _ _ _ (by kernel_rfl)] at h
  have hF := Lib.laidMet.reads h (n := "unicode.asciiFold") (d := Rows.laid_unicode_asciiFold) (by simp [laidL])
  have hO := Lib.laidMet.reads h (n := "unicode.caseOrbit") (d := Rows.laid_unicode_caseOrbit) (by simp [laidL])
  have hP := Lib.laidMet.reads h (n := "analemma/dayspec.operators") (d := Rows.laid_analemma_dayspec_operators) (by simp [laidL])
  rw [laidL, eqWe] at h
  have a3 := strs_of_head gWe gWeT und13 Tryd.underlying9 cStr c13 h.tail.tail.tail.tail.tail.tail
  rw [strs_list] at a3
  obtain ⟨R, o, cap, r1, r2⟩ := orbit_of hO
  refine ⟨a3, ops_of hP, ⟨?_, R, o, cap, r1, ?_⟩⟩
  · intro k v hkv
    simp only [List.mem_cons, Prod.mk.injEq, List.not_mem_nil, or_false] at hkv
    rcases hkv with ⟨rfl, rfl⟩ | ⟨rfl, rfl⟩ | ⟨rfl, rfl⟩ | ⟨rfl, rfl⟩ | ⟨rfl, rfl⟩ | ⟨rfl, rfl⟩ | ⟨rfl, rfl⟩ | ⟨rfl, rfl⟩ <;> exact fold_tab hF _ _ ⟨_, rfl, rfl⟩ (by decide)
  · intro k f t hkv
    simp only [List.mem_cons, Prod.mk.injEq, List.not_mem_nil, or_false] at hkv
    rcases hkv with ⟨rfl, rfl, rfl⟩ | ⟨rfl, rfl, rfl⟩ | ⟨rfl, rfl, rfl⟩ | ⟨rfl, rfl, rfl⟩ | ⟨rfl, rfl, rfl⟩ | ⟨rfl, rfl, rfl⟩ | ⟨rfl, rfl, rfl⟩ <;> exact r2 _ _ _ (by decide) ⟨_, rfl, rfl⟩
end Go.Proofs.YtedcfnaphfgfjaaDoor
