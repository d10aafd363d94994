/- The walk of WordMore, at every input. -/
import Derived.Test.YtiompmplnmkakaaDoorLaw08c
import Derived.Test.YtiompmplnmkakaaDoorWdp
import Derived.Lib.SmallJoins
namespace Go.Proofs.YtiompmplnmkakaaDoor
open Go.RowKit
theorem sizes_q (q : Nat) (h : q < 4) : ∀ x ∈ RQ q, x.size ≤ 100 ∧ 0 < x.size := by
  rcases q_split q h with rfl | rfl | rfl | rfl <;> decide +kernel
theorem low_letters : ∀ l : List UInt8, (∀ a ∈ Wd.nats l, 97 ≤ a ∧ a ≤ 122) → Wd.low l = Wd.nats l
  | [], _ => rfl
  | c :: l, h => by
    have h1 := h c.toNat (by simp [Wd.nats])
    have h2 := low_letters l (fun a ha => h a (by simp only [Wd.nats, List.map_cons, List.mem_cons]; exact .inr ha))
    simp only [Wd.low, Wd.nats, List.map_cons] at h2 ⊢
    rw [h2, Wd.sm_small _ h1.1]
theorem mem_q (q : Nat) (h : q < 4) (x : ByteArray) (hx : x ∈ RQ q) : Wd.nats x.data.toList ∈ Wd.VQ q := by
  rw [← Wd.wl_RQ q h]
  exact List.mem_map.2 ⟨x, hx, rfl⟩
theorem low_ins (x : ByteArray) (c : UInt8) (k : Nat) (h : Wd.low x.data.toList = Wd.nats x.data.toList) : Wd.low (x.extract 0 k ++ ⟨#[c]⟩ ++ x.extract k x.size).data.toList = Wd.ins (Wd.nats x.data.toList) k (Wd.sm c.toNat) := by
  have hl : x.data.toList.length = x.size := by rw [Array.length_toList]; rfl
  rw [Joins.data_append, Joins.data_append, Lib.extract_data, Lib.extract_data]
  have e1 : (x.data.toList.drop k).take (x.size - k) = x.data.toList.drop k := List.take_of_length_le (by rw [List.length_drop]; omega)
  rw [e1, List.drop_zero, Nat.sub_zero]
  show Wd.low (x.data.toList.take k ++ [c] ++ x.data.toList.drop k) = _
  have e2 : Wd.low (x.data.toList.take k) = (Wd.nats x.data.toList).take k := by rw [← h, Wd.low, Wd.low, List.map_take]
  have e3 : Wd.low (x.data.toList.drop k) = (Wd.nats x.data.toList).drop k := by rw [← h, Wd.low, Wd.low, List.map_drop]
  rw [Wd.low, List.map_append, List.map_append]
  show Wd.low _ ++ [Wd.sm c.toNat] ++ Wd.low _ = _
  rw [e2, e3, Wd.ins, List.append_assoc]
  rfl
/-- what has a letter more than a word, or a byte that is no letter, means nothing -/
theorem more_walk (a0 : Int) (w0 : (Lit.int .u8 a0).wf = true) (a1 : Int) (w1 : (Lit.int .u8 a1).wf = true) (a2 : Int) (w2 : (Lit.int .u8 a2).wf = true) (a3 : Int) (w3 : (Lit.int .u8 a3).wf = true) (W0 : World) (hT : TabW W0) :
    Calls Tryd.prog 7 #[.int .u8 a0, .int .u8 a1, .int .u8 a2, .int .u8 a3] W0 fun e w' => e = .returned (.bool true) ∧ Below W0.heap.size W0 w' := by
  have b0 := bounds_u8 w0
  have b1 := bounds_u8 w1
  have b2 := bounds_u8 w2
  have b3 := bounds_u8 w3
  obtain ⟨q, hq⟩ : ∃ q : Nat, a0 % 4 = (q : Int) := ⟨(a0 % 4).toNat, by omega⟩
  have hq4 : q < 4 := by omega
  have hn := (len_q q hq4).1
  obtain ⟨i, hi⟩ : ∃ i : Nat, a1 % ((RQ q).length : Int) = (i : Int) := ⟨(a1 % ((RQ q).length : Int)).toNat, by
    have := Int.emod_nonneg a1 (show ((RQ q).length : Int) ≠ 0 by omega)
    omega⟩
  have hil : i < (RQ q).length := by
    have := Int.emod_lt_of_pos a1 (show (0 : Int) < ((RQ q).length : Int) by omega)
    omega
  have hx : (RQ q)[i]? = some ((RQ q)[i]) := List.getElem?_eq_getElem hil
  have hm := List.getElem_mem hil
  generalize (RQ q)[i] = x at *
  obtain ⟨k, hk⟩ : ∃ k : Nat, a2 % ((x.size : Int) + 1) = (k : Int) := ⟨(a2 % ((x.size : Int) + 1)).toNat, by
    have := Int.emod_nonneg a2 (show ((x.size : Int) + 1) ≠ 0 by omega)
    omega⟩
  have hkx : k ≤ x.size := by
    have := Int.emod_lt_of_pos a2 (show (0 : Int) < (x.size : Int) + 1 by omega)
    omega
  have hc : a3 = ((UInt8.ofNat a3.toNat).toNat : Int) := by
    rw [UInt8.toNat_ofNat']
    omega
  rw [hc]
  have hv := mem_q q hq4 x hm
  refine more_core a0 a1 a2 (UInt8.ofNat a3.toNat) q i k x b0 b1 b2 hq hq4 hi hx hk (sizes_q q hq4 x hm).1 hkx (Lib.hid ?_) W0 hT
  rw [low_ins x _ k (low_letters _ (fun a ha => Wd.lettersV q hq4 _ hv a ha)), Wd.wl_LQ q hq4]
  exact Wd.more_none q hq4 _ hv k (by rw [Wd.nats_len]; exact hkx) _
end Go.Proofs.YtiompmplnmkakaaDoor
