/- Slices of strings and of bytes in memory: what is owned, what is read, what stays. No function of the program is named. -/
import Derived.Test.YtedcfnaphfgfjaaDoorKit
import Derived.Laws.OwnMore
import Derived.OwnWalk
import Derived.Deep.AppendLies
namespace Go.Proofs.YtedcfnaphfgfjaaDoor
open Go.RowKit
theorem undS : Tryd.prog.underlying 35 = some (.slice 9) := by kernel_rfl
theorem infoS : (Tryd.prog.info? 9).map (fun i => (i.zero, i.size, i.bytes)) = some (some (.string ⟨#[]⟩), 1, 16) := by kernel_rfl
theorem undB : Tryd.prog.underlying 38 = some (.slice 5) := by kernel_rfl
theorem infoB : (Tryd.prog.info? 5).map (fun i => (i.zero, i.size, i.bytes)) = some (some (.int .u8 0), 1, 1) := by kernel_rfl
theorem own_bl {w w1 : World} {B : Nat} {e : TypeId} {s n : Nat} {v : Value} {xs : List Value} (h : w.ownsRow B e s v n xs) (k : Below w.heap.size w w1) : w1.ownsRow B e s v n xs := by
  refine ⟨h.1, ?_⟩
  rcases h.2 with h2 | ⟨g, cap, cur, h1, h2, h3, h4⟩
  · exact .inl h2
  · refine .inr ⟨g, cap, cur, h1, h2, ?_, h4⟩
    have hlt : g < w.heap.size := by
      rcases Nat.lt_or_ge g w.heap.size with e | e
      · exact e
      · rw [Array.getElem?_eq_none e] at h3; cases h3
    rw [k.block g hlt]; exact h3
/-- an owned row is in a block of its own type -/
theorem own_type {w : World} {B : Nat} {e : TypeId} {s n : Nat} {v : Value} {xs : List Value} (h : w.ownsRow B e s v n xs) {b : Nat} {cs : Array Value} {t : TypeId} (hb : w.heap[b]? = some (.cells cs t (0, 0))) (ht : t ≠ e) : v.ownBlock ≠ some b := by
  intro e1
  rcases h.2 with ⟨rfl, _⟩ | ⟨g, cap, cur, rfl, _, hg, _⟩
  · simp [Value.ownBlock] at e1
  · simp [Value.ownBlock] at e1
    subst e1
    rw [hb] at hg
    injection hg with hg
    injection hg with _ h2 _
    exact ht h2
theorem own_apart {w : World} {B B2 : Nat} {e e2 : TypeId} {s s2 n n2 : Nat} {v v2 : Value} {xs xs2 : List Value} (h : w.ownsRow B e s v n xs) (h2 : w.ownsRow B2 e2 s2 v2 n2 xs2) (ht : e2 ≠ e) : v.ownBlock = none ∨ v.ownBlock ≠ v2.ownBlock := by
  rcases h2.2 with ⟨rfl, _⟩ | ⟨g, cap, cur, rfl, _, hg, _⟩
  · cases hv : v.ownBlock with
    | none => exact .inl rfl
    | some _ => right; simp [Value.ownBlock]
  · right
    simpa [Value.ownBlock] using own_type h hg ht
/-- strings as values -/
def strV (L : List ByteArray) : List Value := L.map fun s => .string s
theorem strV_at (L : List ByteArray) (j : Nat) (s : ByteArray) (h : L[j]? = some s) : (strV L)[j]? = some (.string s) := by simp [strV, h]
theorem strV_len (L : List ByteArray) : (strV L).length = L.length := by simp [strV]
/-- bytes as values -/
def bytV (L : List UInt8) : List Value := L.map fun s => .int .u8 (s.toNat : Int)
theorem bytV_len (L : List UInt8) : (bytV L).length = L.length := by simp [bytV]
/-- a slice of strings: without any; or in a block -/
def Strs (w : World) (sv : Value) (L : List ByteArray) : Prop :=
  (∃ a cap, sv = .slice a 0 cap ∧ L = []) ∨ ∃ b off cap, sv = .slice (some ⟨b, off, none⟩) L.length cap ∧ (0 < L.length ∧ L.length ≤ cap) ∧ b < w.heap.size ∧ ∀ j s, L[j]? = some s → w.cell? ⟨b, off + j, none⟩ = some (.string s)
theorem Strs.bl {w w' : World} {sv : Value} {L : List ByteArray} (h : Strs w sv L) (k : Below w.heap.size w w') : Strs w' sv L := by
  rcases h with h | ⟨b, off, cap, h1, h2, h3, h4⟩
  · exact .inl h
  · exact .inr ⟨b, off, cap, h1, h2, Nat.lt_of_lt_of_le h3 k.size, fun j s hj => cell_bl k (h4 j s hj)⟩
theorem Strs.hbl {w w' : World} {sv : Value} {L : List ByteArray} (h : Hid (Strs w sv L)) (k : Below w.heap.size w w') : Hid (Strs w' sv L) := Lib.hid (h.out.bl k)
theorem own_Strs {w : World} {B : Nat} {v : Value} {L : List ByteArray} (h : w.ownsRow B 9 1 v L.length (strV L)) : Strs w v L := by
  rcases h.2 with ⟨hv, e⟩ | ⟨g, cap, cur, hv, hB, hg, hcap, _⟩
  · exact .inl ⟨_, _, hv, List.eq_nil_of_length_eq_zero e⟩
  · by_cases h0 : L.length = 0
    · exact .inl ⟨_, _, by rw [hv, h0], List.eq_nil_of_length_eq_zero h0⟩
    · have hc : ∀ j s, L[j]? = some s → w.cell? ⟨g, 0 + j, none⟩ = some (.string s) := by
        intro j s hj
        have := h.cells (g := g) (by rw [hv]; rfl) j _ (strV_at L j s hj)
        rw [Nat.zero_add]
        by_cases e0 : j = 0
        · subst e0; exact this
        · simpa [Addr.add, e0] using this
      refine .inr ⟨g, 0, cap, hv, by omega, ?_, hc⟩
      exact (Array.getElem?_eq_some_iff.1 hg).1
/-- a row that was shortened to nothing -/
theorem own_none {w : World} {B : Nat} {e : TypeId} {s n g cap : Nat} {xs : List Value} (h : w.ownsRow B e s (.slice (some ⟨g, 0, none⟩) n cap) n xs) : w.ownsRow B e s (.slice (some ⟨g, 0, none⟩) 0 cap) 0 [] := by
  refine ⟨by simp, ?_⟩
  rcases h.2 with ⟨hv, e⟩ | ⟨g', cap', cur, hv, hB, hg, hcap, hm, hs, _⟩
  · cases hv
  · injection hv with h1 h2 h3
    injection h1 with h1
    injection h1 with h1
    subst h1; subst h3
    exact .inr ⟨g, cap, cur, rfl, hB, hg, Nat.zero_le _, hm, hs, by simp⟩
end Go.Proofs.YtedcfnaphfgfjaaDoor
