/- The walk of OffsetOrder. -/
import Derived.Test.YtgfplgclldghkaaDoorLaw04b
import Derived.Test.YtgfplgclldghkaaDoorOu
namespace Go.Proofs.YtgfplgclldghkaaDoor
open Go.RowKit
theorem ord_facts {x y : Int} (hx : 0 ≤ x) (hx2 : x ≤ 604799) (hy : 0 ≤ y) (hy2 : y ≤ 604799) (S T : ByteArray) (hS : ⟨(Of.prt x).toArray⟩ = S) (hT : ⟨(Of.prt y).toArray⟩ = T) :
    (S.toList == T.toList) = (x == y) ∧ (S.size = T.size → Lib.indexByte S.data.toList 58 = Lib.indexByte T.data.toList 58 → Op.bytesLess S.toList T.toList = decide (x < y)) := by
  subst hS hT
  simp only [ByteArray.toList_eq, bs_size]
  rw [Of.prt_pos hx, Of.prt_pos hy]
  constructor
  · rw [Bool.eq_iff_iff]
    simp only [beq_iff_eq]
    constructor
    · intro h
      exact Of.prt_inj (by omega) hx2 (by omega) hy2 (by rw [Of.prt_pos hx, Of.prt_pos hy]; exact h)
    · rintro rfl; rfl
  · intro hl hi
    rw [Of.idx_body (by omega), Of.idx_body (by omega)] at hi
    have := Of.less_body (x := x.toNat) (y := y.toNat) (by omega) (by omega) (by omega) hl
    rw [this]; rw [Bool.eq_iff_iff]; simp; omega
theorem index_s (s : ByteArray) (I : Int) (h : Hid (Lib.indexByte s.data.toList 58 = I)) (w : World) : Calls Tryd.prog 17 #[.string s, .string ⟨#[58]⟩] w fun e w' => e = .returned (.int .i64 I) ∧ w = w' := by
  refine (Tryd.strings_Index_one s 58 w).mono ?_
  rintro e w' ⟨rfl, rfl⟩
  exact ⟨by rw [h.out], rfl⟩
set_option maxHeartbeats 2000000 in
theorem oorder_core (m n x y : Int) (hm0 : 0 ≤ m) (hm1 : m < 4294967296) (hn0 : 0 ≤ n) (hn1 : n < 4294967296) (hx : m % 604800 = x) (hy : n % 604800 = y) (W0 : World) (hT : CtsW W0 ∧ PowW W0) : Calls Tryd.prog 7 #[.int .u32 m, .int .u32 n] W0 fun e w' => e = .returned (.bool true) ∧ Below W0.heap.size W0 w' := by
  have HC := Lib.hid (Ps.mk0 hT.1 hT.2)
  have hx1 : 0 ≤ x := by omega
  have hx2 : x ≤ 604799 := by omega
  have hy1 : 0 ≤ y := by omega
  have hy2 : y ≤ 604799 := by omega
  have HX := hid_bd (show -604799 ≤ x by omega) hx2
  have HY := hid_bd (show -604799 ≤ y by omega) hy2
  have HS := Lib.hid (prs_yes (show -604799 ≤ x by omega) hx2)
  have HT := Lib.hid (prs_yes (show -604799 ≤ y by omega) hy2)
  obtain ⟨heq, hlt⟩ := ord_facts hx1 hx2 hy1 hy2 _ _ rfl rfl
  generalize (⟨(Of.prt x).toArray⟩ : ByteArray) = S at *
  generalize (⟨(Of.prt y).toArray⟩ : ByteArray) = T at *
  generalize hI : Lib.indexByte S.data.toList 58 = I at *
  generalize hJ : Lib.indexByte T.data.toList 58 = J at *
  have HI := Lib.hid hI
  have HJ := Lib.hid hJ
  clear hI hJ hT
  go_enter Tryd.func7, Tryd.ntmps7
  go_wp2_with fail
  refine (print_s _ S 0 HX HS HC).mono ?_; rintro e w1 ⟨rfl, HC⟩
  go_wp2_with fail
  refine (print_s _ T 0 HY HT HC).mono ?_; rintro e w1 ⟨rfl, HC⟩
  by_cases hs : S.size = T.size
  · by_cases hij : I = J
    · replace hlt := hlt hs hij
      have hs1 : ((S.size : Int) == (T.size : Int)) = true := beq_of (by omega)
      have hs2 : (S.size == T.size) = true := by simpa using hs
      have hi1 : (I == J) = true := by simpa using hij
      clear hs hij
      go_wp2_with (first | (refine (index_s S I HI _).mono ?_; rintro e w' ⟨rfl, rfl⟩) | (refine (index_s T J HJ _).mono ?_; rintro e w' ⟨rfl, rfl⟩) | (refine (works_s HC).mono ?_; rintro e w1 ⟨rfl, HC⟩))
      go_ret
      exact ⟨rfl, HC.out.1⟩
    · have hs1 : ((S.size : Int) == (T.size : Int)) = true := beq_of (by omega)
      have hs2 : (S.size == T.size) = true := by simpa using hs
      have hi1 : (I == J) = false := by simpa using hij
      clear hs hij hlt
      go_wp2_with (first | (refine (index_s S I HI _).mono ?_; rintro e w' ⟨rfl, rfl⟩) | (refine (index_s T J HJ _).mono ?_; rintro e w' ⟨rfl, rfl⟩) | (refine (works_s HC).mono ?_; rintro e w1 ⟨rfl, HC⟩))
      go_ret
      exact ⟨rfl, HC.out.1⟩
  · have hs1 : ((S.size : Int) == (T.size : Int)) = false := by simp; omega
    have hs2 : (S.size == T.size) = false := by simpa using hs
    clear hs hlt
    go_wp2_with (first | (refine (index_s S I HI _).mono ?_; rintro e w' ⟨rfl, rfl⟩) | (refine (index_s T J HJ _).mono ?_; rintro e w' ⟨rfl, rfl⟩) | (refine (works_s HC).mono ?_; rintro e w1 ⟨rfl, HC⟩))
    go_ret
    exact ⟨rfl, HC.out.1⟩
theorem oorder_walk (m : Int) (hm : (Lit.int .u32 m).wf = true) (n : Int) (hn : (Lit.int .u32 n).wf = true) (W0 : World) (hT : CtsW W0 ∧ PowW W0) : Calls Tryd.prog 7 #[.int .u32 m, .int .u32 n] W0 fun e w' => e = .returned (.bool true) ∧ Below W0.heap.size W0 w' := by
  have h1 := bounds_u32 hm
  have h2 := bounds_u32 hn
  exact oorder_core m n _ _ (by omega) (by omega) (by omega) (by omega) rfl rfl W0 hT
end Go.Proofs.YtgfplgclldghkaaDoor
