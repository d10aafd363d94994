/- The walk of LexemeHuge. -/
import Derived.Test.YtlekbbggbfhgaaaDoorLaw05a
namespace Go.Proofs.YtlekbbggbfhgaaaDoor
open Go.RowKit
set_option maxRecDepth 100000 in
set_option maxHeartbeats 4000000 in
theorem huge_core (l : List UInt8) (n : Nat) (hl : l = List.replicate 255 32) (hn : n = 32767) (W0 : World) (hM : MaxW W0) : Calls Tryd.prog 10 #[] W0 fun e w' => e = .returned (.bool true) ∧ Below W0.heap.size W0 w' := by
  have HC := Lib.hid (Ms.mk0 hM)
  have hll : l.length = 255 := by rw [hl, List.length_replicate]
  have hno : (10 : UInt8) ∉ l := by rw [hl]; intro h; have := List.eq_of_mem_replicate h; revert this; decide
  have hA : Lx.bs (Lib.repeatL (ByteArray.data ⟨#[32]⟩).toList 255) = Lx.bs l := by
    rw [show (ByteArray.data ⟨#[32]⟩).toList = [32] from rfl, Lx.repeat_one, hl]
  have hAs : (Lx.bs l).size = 255 := by rw [Lx.size_bs, hll]
  have hB : Lx.bs l ++ ⟨#[10]⟩ = Lx.bs (l ++ [10]) := by rw [show (⟨#[10]⟩ : ByteArray) = Lx.bs [10] from rfl, app_bs]
  have hBs : (Lx.bs (l ++ [10])).size = 256 := by rw [Lx.size_bs, List.length_append, hll]; rfl
  have hC : Lx.bs (Lib.repeatL (Lx.bs (l ++ [10])).data.toList (n + 1)) = Lx.bs (Lib.repeatL (l ++ [10]) (n + 1)) := by rw [Lx.data_bs]
  have hCs : (Lx.bs (Lib.repeatL (l ++ [10]) (n + 1))).size = 8388608 := by
    rw [Lx.size_bs, Lib.repeatL_length, List.length_append, hll, hn]; rfl
  have hL1 : Lx.lns (Lx.bs (Lib.repeatL (l ++ [10]) (n + 1))).data.toList = ((List.replicate (n + 1) l).map Lx.bs, 0, 0) := by
    rw [Lx.data_bs, Lx.same_lines l n hno (by omega) (by rw [hll, hn]; decide)]
  have hL2 : Lx.lns (Lx.bs (Lib.repeatL (l ++ [10]) (n + 1)) ++ ⟨#[120]⟩).data.toList = ([], 1, 6) := by
    rw [show (⟨#[120]⟩ : ByteArray) = Lx.bs [120] from rfl, app_bs, Lx.data_bs]
    refine Lx.great_lines _ ?_
    rw [List.length_append]
    have : (Lib.repeatL (l ++ [10]) (n + 1)).length = 8388608 := by rw [← hCs, Lx.size_bs]
    rw [this]; decide
  have hLn : ((List.replicate (n + 1) l).map Lx.bs).length = 32768 := by rw [List.length_map, List.length_replicate, hn]
  generalize (List.replicate (n + 1) l).map Lx.bs = LL at *
  generalize hCC : Lx.bs (Lib.repeatL (l ++ [10]) (n + 1)) = C at *
  rw [← hB] at hC hBs
  generalize Lx.bs l = A at *
  have HA := Lib.hid hA
  have HCC := Lib.hid hC
  have H1 := Lib.hid hL1
  have H2 := Lib.hid hL2
  have hn1 : n + 1 = 32768 := by omega
  rw [hn1] at HCC
  have q1 : ¬ 9223372036854775807 < A.size + 1 := by omega
  have q2 : ¬ 9223372036854775807 < C.size + 1 := by omega
  clear hM hA hB hC hL1 hL2 hl hll hno hCC hn hn1
  go_enter Tryd.func10, Tryd.ntmps10
  go_wp2_with fail
  refine (rep_any _ _ 255 rfl (by rw [show (⟨#[32]⟩ : ByteArray).size = 1 from rfl]; omega) (by omega) A HA HC).mono ?_; rintro e w1 ⟨rfl, HC⟩
  go_wp2_with fail
  refine (rep_any _ _ 32768 rfl (by omega) (by omega) C HCC HC).mono ?_; rintro e w2 ⟨rfl, HC⟩
  go_wp2_with fail
  refine (lines_s C (by omega) LL 0 0 H1 HC).mono ?_; rintro e w3 ⟨u, rfl, HU, _, HC⟩
  obtain ⟨ua, uc, rfl⟩ := HU.out.len
  go_wp2_with fail
  refine (lines_s _ (by rw [ByteArray.size_append, show (⟨#[120]⟩ : ByteArray).size = 1 from rfl]; omega) [] 1 6 H2 HC).mono ?_; rintro e w4 ⟨v, rfl, HV, _, HC⟩
  obtain ⟨va, vc, rfl⟩ := HV.out.len
  go_wp2_with fail
  refine (works_s HC).mono ?_; rintro e w6 ⟨rfl, HC⟩
  go_wp2
  go_ret
  exact ⟨rfl, HC.out.1⟩
theorem huge_walk (W0 : World) (hM : MaxW W0) : Calls Tryd.prog 10 #[] W0 fun e w' => e = .returned (.bool true) ∧ Below W0.heap.size W0 w' :=
  huge_core _ _ rfl rfl W0 hM
end Go.Proofs.YtlekbbggbfhgaaaDoor
