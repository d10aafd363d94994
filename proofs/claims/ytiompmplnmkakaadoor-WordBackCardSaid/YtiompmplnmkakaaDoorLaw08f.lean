/- The walk of WordBack, at every input. -/
import Derived.Test.YtiompmplnmkakaaDoorLaw08e
namespace Go.Proofs.YtiompmplnmkakaaDoor
open Go.RowKit
theorem back_plain (q : Nat) (hq : q < 4) (i m : Nat) (x : ByteArray) (hi : i < (RQ q).length) (hx : (RQ q)[i]? = some x) (hm : m < x.size) :
    (0 < Wd.oth (wl (RQ q)) i (m + 1) (RQ q).length ∧ m + 1 < x.size ∧ Wd.fnd (wl (LQ q)) ((Wd.nats x.data.toList).take (m + 1)) = (0, 8)) ∨ (¬ (0 < Wd.oth (wl (RQ q)) i (m + 1) (RQ q).length ∧ m + 1 < x.size) ∧ Wd.fnd (wl (LQ q)) ((Wd.nats x.data.toList).take (m + 1)) = ((i : Int) + NQ q, 0) ∧ Wd.fnd (wl (LQ q)) (Wd.nats x.data.toList) = ((i : Int) + NQ q, 0)) := by
  have hl : (RQ q).length = (Wd.VQ q).length := by rw [← Wd.wl_RQ q hq, wl, List.length_map]
  have hv : (Wd.VQ q).getD i [] = Wd.nats x.data.toList := by rw [← Wd.wl_RQ q hq, wl_at _ _ _ hx]
  have hn : (Wd.nats x.data.toList).length = x.size := Wd.nats_len x
  rw [Wd.wl_RQ q hq, Wd.wl_LQ q hq, hl]
  have h1 := List.all_eq_true.1 (Wd.chkB_ok q hq) i (List.mem_range.2 (by rw [← hl]; exact hi))
  have h2 := List.all_eq_true.1 h1 m (List.mem_range.2 (by rw [hv, hn]; exact hm))
  rw [hv, hn] at h2
  split at h2
  · rename_i h3
    exact .inl ⟨h3.1, h3.2, of_decide_eq_true h2⟩
  · rename_i h3
    rw [Bool.and_eq_true] at h2
    exact .inr ⟨h3, of_decide_eq_true h2.1, of_decide_eq_true h2.2⟩
/-- a beginning of a word means this word just if no other one of its list begins so -/
theorem back_walk (a0 : Int) (w0 : (Lit.int .u8 a0).wf = true) (a1 : Int) (w1 : (Lit.int .u8 a1).wf = true) (a2 : Int) (w2 : (Lit.int .u8 a2).wf = true) (a3 : Int) (w3 : (Lit.int .u16 a3).wf = true) (W0 : World) (hT : TabW W0) :
    Calls Tryd.prog 5 #[.int .u8 a0, .int .u8 a1, .int .u8 a2, .int .u16 a3] W0 fun e w' => e = .returned (.bool true) ∧ Below W0.heap.size W0 w' := by
  have b0 := bounds_u8 w0
  have b1 := bounds_u8 w1
  have b2 := bounds_u8 w2
  have b3 := bounds_u16 w3
  obtain ⟨q, hq⟩ : ∃ q : Nat, a0 % 4 = (q : Int) := ⟨(a0 % 4).toNat, by omega⟩
  have hq4 : q < 4 := by omega
  have hn := (len_q q hq4).1
  obtain ⟨i, hi⟩ : ∃ i : Nat, a1 % ((RQ q).length : Int) = (i : Int) := ⟨(a1 % ((RQ q).length : Int)).toNat, by
    have := Int.emod_nonneg a1 (show ((RQ q).length : Int) ≠ 0 by omega)
    omega⟩
  have hil : i < (RQ q).length := by
    have := Int.emod_lt_of_pos a1 (show (0 : Int) < ((RQ q).length : Int) by omega)
    omega
  have hx : (RQ q)[i]? = some ((RQ q)[i]) := List.getElem?_eq_getElem hil
  have hm := List.getElem_mem hil
  generalize (RQ q)[i] = x at *
  have hxs := sizes_q q hq4 x hm
  obtain ⟨k, hk⟩ : ∃ k : Nat, a2 % (x.size : Int) = (k : Int) := ⟨(a2 % (x.size : Int)).toNat, by
    have := Int.emod_nonneg a2 (show (x.size : Int) ≠ 0 by omega)
    omega⟩
  have hkx : k < x.size := by
    have := Int.emod_lt_of_pos a2 (show (0 : Int) < (x.size : Int) by omega)
    omega
  have hv := mem_q q hq4 x hm
  exact back_core a0 a1 a2 a3 q i k x b0 b1 b2 b3 hq hq4 hi hil hx hk hxs hkx (Lib.hid (low_letters _ (fun a ha => Wd.lettersV q hq4 _ hv a ha))) (Lib.hid (back_plain q hq4 i k x hil hx hkx)) W0 hT
end Go.Proofs.YtiompmplnmkakaaDoor
