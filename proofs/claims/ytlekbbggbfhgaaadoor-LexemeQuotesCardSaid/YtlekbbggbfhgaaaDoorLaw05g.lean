/- The walk of LexemeQuotes. -/
import Derived.Test.YtlekbbggbfhgaaaDoorLaw05f
import Derived.Test.YtlekbbggbfhgaaaDoorLg
namespace Go.Proofs.YtlekbbggbfhgaaaDoor
open Go.RowKit
set_option maxRecDepth 100000 in
set_option maxHeartbeats 4000000 in
theorem quotes_core (W0 : World) (v : Value) (D : List (List UInt8)) (hI : Drf W0 v D) (a b : Int) (fr td : Nat) (ha : a = (fr : Int)) (hb : b = (td : Int)) (ha2 : fr < 256) (hb2 : td < 256) (hM : MaxW W0) : Calls Tryd.prog 7 #[v, .int .u8 a, .int .u8 b] W0 fun e w' => e = .returned (.bool true) ∧ Below W0.heap.size W0 w' := by
  have HC := Lib.hid (Ms.mk0 hM)
  have HI := Lib.hid hI
  have hwr := fun x hx => (Lx.made_each D x hx).1
  have hll := Lx.made_len D
  have h12 := fun x hx => (Lx.made_each D x hx).2
  generalize hQ : Lx.made D = Q at *
  have hQL : (Lx.made D).map Lx.bs = Q.map Lx.bs := by rw [hQ]
  have HQL := Lib.hid hQL
  have HQL2 := Lib.hid hll
  have hql := Lx.qline_len fr td Q h12
  have hf := flds_of _ (by omega) Q (Lx.scan_qline fr td Q hwr)
  have HF := Lib.hid hf
  have H12 := Lib.hid h12
  have hlen : (Q.map Lx.bs).length = Q.length := by simp
  have ha0 : (0 : Int) ≤ a := by omega
  have hb0 : (0 : Int) ≤ b := by omega
  have ha1 : a < 256 := by omega
  have hb1 : b < 256 := by omega
  have HA := Lib.hid ha
  have HB := Lib.hid hb
  clear hM hI hwr hll h12 hQ hQL hf ha hb hql
  go_enter Tryd.func7, Tryd.ntmps7
  go_wp2_with fail
  refine (made_s v D HI.out HC).mono ?_; rintro e w1 ⟨u, rfl, HU, _, HC⟩
  rw [HQL.out] at HU
  obtain ⟨ua, uc, rfl⟩ := HU.out.len
  rw [hlen] at *
  go_wp2
  go_loopw [8, 19] (fun s i wr => ∃ k : Nat, k ≤ Q.length ∧ i = .int .i64 k ∧ s = .string (Lx.bs (Lx.qline fr td (Q.take k))) ∧ Dw w1 wr) (fun _ i _ => Q.length - (intOf i).toNat)
  case atStart => exact ⟨0, by omega, rfl, rfl, Dw.refl _⟩
  case round =>
    obtain ⟨k, hk, rfl, rfl, hd⟩ := hrel
    have HD := Lib.hid hd
    clear hd
    have hL12 : Q.length ≤ 12 := HQL2.out
    by_cases hkn : k < Q.length
    · obtain ⟨bb, off, rfl, hbl, hcl⟩ := HU.out.block (by omega)
      have c0 := (HD.out.cell _).trans (hcl k (Lx.bs Q[k]) (by simp [hkn]))
      have hx := H12.out Q[k] (List.getElem_mem hkn)
      have hqt := Lx.qline_take fr td Q k hkn
      have hk0 : (0 : Int) ≤ (k : Int) := by omega
      have hk1 : (k : Int) < (Q.length : Int) := by omega
      have hos := Lx.qline_len fr td (Q.take k) (fun q hq => H12.out q (List.mem_of_mem_take hq))
      have hos2 : (Lx.bs (Lx.qline fr td (Q.take k))).size ≤ 300 := by
        rw [Lx.size_bs]
        have : (Q.take k).length ≤ 12 := by rw [List.length_take]; omega
        omega
      clear hbl hcl hos
      generalize Q[k] = x at *
      have hq1 := Lx.qa_le fr x
      have hq2 := Lx.qb_le fr td x
      have hys : (Lx.bs x).size = x.length := Lx.size_bs x
      obtain ⟨a1, ha1e⟩ : ∃ a1, Lx.qa fr x = a1 := ⟨_, rfl⟩
      obtain ⟨b1, hb1e⟩ : ∃ b1, td % (x.length - a1 + 1) = b1 := ⟨_, rfl⟩
      have hbe : Lx.qb fr td x = a1 + b1 := by unfold Lx.qb; rw [ha1e, hb1e]
      have hA : a % (((Lx.bs x).size : Int) + 1) = (a1 : Int) := by
        rw [hys, HA.out, ← ha1e]; unfold Lx.qa
        rw [show ((x.length : Int) + 1) = ((x.length + 1 : Nat) : Int) by omega]; rfl
      have hBB : b % (((Lx.bs x).size : Int) - (a1 : Int) + 1) = (b1 : Int) := by
        rw [hys, HB.out, ← hb1e]
        have : ((x.length : Int) - (a1 : Int) + 1) = ((x.length - a1 + 1 : Nat) : Int) := by omega
        rw [this]; rfl
      have he1 : (Lx.bs x).extract 0 a1 = Lx.bs (x.take a1) := by rw [ext_bs, Lx.data_bs]; simp
      have he2 : (Lx.bs x).extract a1 (a1 + b1) = Lx.bs ((x.drop a1).take b1) := by rw [ext_bs, Lx.data_bs]; congr 2; omega
      have he3 : (Lx.bs x).extract (a1 + b1) (Lx.bs x).size = Lx.bs (x.drop (a1 + b1)) := by
        rw [ext_bs, Lx.data_bs, hys, List.take_of_length_le (by rw [List.length_drop]; exact Nat.le_refl _)]
      have hle : a1 ≤ x.length := by omega
      have hle2 : a1 + b1 ≤ x.length := by omega
      have z1 : (Lx.bs (x.take a1)).size ≤ 12 := by rw [Lx.size_bs, List.length_take]; omega
      have z2 : (Lx.bs ((x.drop a1).take b1)).size ≤ 12 := by rw [Lx.size_bs, List.length_take, List.length_drop]; omega
      have z3 : (Lx.bs (x.drop (a1 + b1))).size ≤ 12 := by rw [Lx.size_bs, List.length_drop]; omega
      have hquo : ⟨#[34]⟩ ++ Lx.bs (x.take a1) ++ ⟨#[34, 34]⟩ ++ Lx.bs ((x.drop a1).take b1) ++ ⟨#[34, 34]⟩ ++ Lx.bs (x.drop (a1 + b1)) ++ ⟨#[34]⟩ = Lx.bs (Lx.quo fr td x) := by
        rw [show (⟨#[34]⟩ : ByteArray) = Lx.bs [34] from rfl, show (⟨#[34, 34]⟩ : ByteArray) = Lx.bs [34, 34] from rfl]
        simp only [app_bs]
        unfold Lx.quo
        rw [hbe, ha1e, show a1 + b1 - a1 = b1 by omega]
      have n0 : ((Lx.bs x).size : Int) ≤ 12 := by omega
      have n1 : (0 : Int) ≤ (a1 : Int) := by omega
      have n2 : (a1 : Int) ≤ ((Lx.bs x).size : Int) := by omega
      have n3 : (0 : Int) ≤ (b1 : Int) := by omega
      have n4 : (a1 : Int) + (b1 : Int) ≤ ((Lx.bs x).size : Int) := by omega
      have HQU := Lib.hid hquo
      clear hq1 hq2 ha1e hb1e hbe hquo hle hle2 hys hx
      generalize Lx.bs x = y at *
      generalize Lx.bs (x.take a1) = E1 at *
      generalize Lx.bs ((x.drop a1).take b1) = E2 at *
      generalize Lx.bs (x.drop (a1 + b1)) = E3 at *
      by_cases hk00 : k = 0
      · have hkp : ¬ (0 : Int) < (k : Int) := by omega
        rw [if_pos hk00] at hqt
        have happ : Lx.bs (Lx.qline fr td (Q.take k)) ++ (⟨#[34]⟩ ++ E1 ++ ⟨#[34, 34]⟩ ++ E2 ++ ⟨#[34, 34]⟩ ++ E3 ++ ⟨#[34]⟩) = Lx.bs (Lx.qline fr td (Q.take (k + 1))) := by
          rw [hqt, HQU.out, hk00]; exact app_bs [] _
        have HAP := Lib.hid happ
        generalize Lx.bs (Lx.qline fr td (Q.take k)) = O at *
        have q1 : ¬ 9223372036854775807 < 1 + E1.size := by omega
        have q2 : ¬ 9223372036854775807 < 1 + E1.size + 2 := by omega
        have q3 : ¬ 9223372036854775807 < 1 + E1.size + 2 + E2.size := by omega
        have q4 : ¬ 9223372036854775807 < 1 + E1.size + 2 + E2.size + 2 := by omega
        have q5 : ¬ 9223372036854775807 < 1 + E1.size + 2 + E2.size + 2 + E3.size := by omega
        have q6 : ¬ 9223372036854775807 < 1 + E1.size + 2 + E2.size + 2 + E3.size + 1 := by omega
        have q7 : ¬ 9223372036854775807 < O.size + (1 + E1.size + 2 + E2.size + 2 + E3.size + 1) := by omega
        clear happ hqt hk00
        go_wp2
        go_region
        go_wp2
        go_roundw
        case rel => exact ⟨k + 1, by omega, by go_num, by first | exact congrArg Value.string HAP.out | (rw [HAP.out]; done), HD.out.drewN 1⟩
        case measure => simp [intOf] <;> omega
      · have hkp : (0 : Int) < (k : Int) := by omega
        rw [if_neg hk00] at hqt
        have happ : Lx.bs (Lx.qline fr td (Q.take k)) ++ ⟨#[9]⟩ ++ (⟨#[34]⟩ ++ E1 ++ ⟨#[34, 34]⟩ ++ E2 ++ ⟨#[34, 34]⟩ ++ E3 ++ ⟨#[34]⟩) = Lx.bs (Lx.qline fr td (Q.take (k + 1))) := by
          rw [hqt, HQU.out, show (⟨#[9]⟩ : ByteArray) = Lx.bs [9] from rfl, app_bs, app_bs]; simp
        have HAP := Lib.hid happ
        generalize Lx.bs (Lx.qline fr td (Q.take k)) = O at *
        have q1 : ¬ 9223372036854775807 < 1 + E1.size := by omega
        have q2 : ¬ 9223372036854775807 < 1 + E1.size + 2 := by omega
        have q3 : ¬ 9223372036854775807 < 1 + E1.size + 2 + E2.size := by omega
        have q4 : ¬ 9223372036854775807 < 1 + E1.size + 2 + E2.size + 2 := by omega
        have q5 : ¬ 9223372036854775807 < 1 + E1.size + 2 + E2.size + 2 + E3.size := by omega
        have q6 : ¬ 9223372036854775807 < 1 + E1.size + 2 + E2.size + 2 + E3.size + 1 := by omega
        have q7 : ¬ 9223372036854775807 < O.size + 1 := by omega
        have q8 : ¬ 9223372036854775807 < O.size + 1 + (1 + E1.size + 2 + E2.size + 2 + E3.size + 1) := by omega
        clear happ hqt hk00
        go_wp2
        go_region
        go_wp2
        go_roundw
        case rel => exact ⟨k + 1, by omega, by go_num, by first | exact congrArg Value.string HAP.out | (rw [HAP.out]; done), HD.out.drewN 1⟩
        case measure => simp [intOf] <;> omega
    · obtain rfl : k = Q.length := by omega
      have htk : Q.take Q.length = Q := List.take_of_length_le (Nat.le_refl _)
      rw [htk] at *
      replace HU := Strs.hbl HU HD.out.below
      replace HC := Ms.hbl HC HD.out.below
      have hlL : (Q.map Lx.bs).length ≤ 100 := by rw [List.length_map]; omega
      go_wp2_with fail
      refine (fields_s _ _ 0 HF HC).mono ?_; rintro e w3 ⟨y, rfl, HY, hb3, HC⟩
      replace HU := Strs.hbl HU hb3
      clear hb3
      go_wp2_with fail
      refine (eq_s y _ _ _ true (by simp) (by omega) (by omega) HY.out HU.out HC).mono ?_; rintro e w4 ⟨rfl, _, HC⟩
      go_wp2_with fail
      refine (works_s HC).mono ?_; rintro e w6 ⟨rfl, HC⟩
      go_wp2
      go_ret
      exact ⟨rfl, HC.out.1⟩
theorem quotes_walk (W0 : World) (v : Value) (D : List (List UInt8)) (hI : Drf W0 v D) (_hz : ∀ l ∈ D, l.length ≤ maxLen) (_hl : D.length ≤ maxLen) (a : Int) (ha : (Lit.int .u8 a).wf = true) (b : Int) (hb : (Lit.int .u8 b).wf = true) (hM : MaxW W0) : Calls Tryd.prog 7 #[v, .int .u8 a, .int .u8 b] W0 fun e w' => e = .returned (.bool true) ∧ Below W0.heap.size W0 w' := by
  have h1 := bounds_u8 ha
  have h2 := bounds_u8 hb
  exact quotes_core W0 v D hI a b a.toNat b.toNat (by omega) (by omega) (by omega) (by omega) hM
end Go.Proofs.YtlekbbggbfhgaaaDoor
