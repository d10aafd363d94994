/- The walk of LexemeText. -/
import Derived.Test.YtlekbbggbfhgaaaDoorLaw05c
import Derived.Test.YtlekbbggbfhgaaaDoorLxi
import Derived.Test.YtlekbbggbfhgaaaDoorLs
namespace Go.Proofs.YtlekbbggbfhgaaaDoor
open Go.RowKit
theorem long_enters : ∀ args w, (callFunc 25 args).run Tryd.prog w = .ok (.enter 25 args) w := enters_of Tryd.func25 (by kernel_rfl) rfl
theorem long_c (s : ByteArray) (w : World) : Calls Tryd.prog 25 #[.string s] w fun e w' => e = .returned (.bool (Lx.tooLong s)) ∧ w = w' := by
  have h : (decide ((300 : Int) < (s.size : Int))) = Lx.tooLong s := by unfold Lx.tooLong; by_cases h : 300 < s.size <;> simp [h] <;> omega
  have H := Lib.hid h
  clear h
  go_enter Tryd.func25, Tryd.ntmps25
  go_wp2
  go_ret
  exact ⟨ret_bool H.out, rfl⟩
theorem split_s {W0 w : World} (s : ByteArray) (P : List (List UInt8)) (hP : Hid (Lx.split 10 s.data.toList = P)) (hs : s.size ≤ 100000000) (HC : Hid (Ms W0 w)) : Calls Tryd.prog 24 #[.string s, .string ⟨#[10]⟩] w fun e w' => ∃ v, e = .returned v ∧ Hid (Strs w' v (P.map Lx.bs)) ∧ Below w.heap.size w w' ∧ Hid (Ms W0 w') := by
  refine (split_any s P hP.out hs w HC.out.2).mono ?_
  rintro e w' ⟨rfl, rfl⟩
  have hne : P ≠ [] := by rw [← hP.out]; exact Lx.split_ne 10 _
  have hpos : 0 < P.length := by cases P with
    | nil => exact absurd rfl hne
    | cons => simp
  exact ⟨_, rfl, Lib.hid (strs_new (P.map Lx.bs) rfl (by simp) (by simpa using hpos) rfl), (Below.refl _ w).alloc (Nat.le_refl _) _, Ms.hal HC _⟩
theorem contains_no (s : ByteArray) (h : (10 : UInt8) ∉ s.data.toList) (w : World) : Calls Tryd.prog 22 #[.string s, .string ⟨#[10]⟩] w fun e w' => e = .returned (.bool false) ∧ w = w' := by
  refine (Tryd.strings_Contains_one s 10 w).mono ?_
  rintro e w' ⟨rfl, rfl⟩
  rw [Lx.index_no 10 _ h]
  exact ⟨rfl, rfl⟩
theorem trim_s {w : World} (s T : ByteArray) (hT : Hid (Lx.bs (Lib.trimSuffix s.data.toList [10]) = T)) (hs : s.size ≤ 9223372036854775807) : Calls Tryd.prog 27 #[.string s, .string ⟨#[10]⟩] w fun e w' => e = .returned (.string T) ∧ w = w' := by
  refine (trim_any s hs w).mono ?_
  rintro e w' ⟨rfl, rfl⟩
  exact ⟨by rw [hT.out], rfl⟩
set_option maxRecDepth 100000 in
set_option maxHeartbeats 4000000 in
theorem text_core (s : ByteArray) (hs : s.size ≤ 2000) (W0 : World) (hM : MaxW W0) : Calls Tryd.prog 6 #[.string s] W0 fun e w' => e = .returned (.bool true) ∧ Below W0.heap.size W0 w' := by
  have HC := Lib.hid (Ms.mk0 hM)
  have hlen : s.data.toList.length ≤ 2000 := by rw [← Lib.size_eq]; exact hs
  have hsl := Lx.split_len 10 s.data.toList
  have hpl : ((Lx.split 10 s.data.toList).map Lx.bs).length ≤ 100000 := by rw [List.length_map]; omega
  clear hM
  cases hf : ((Lx.split 10 s.data.toList).map Lx.bs).findIdx? Lx.tooLong with
  | some i =>
    have hl := Lib.hid (Lx.text_long _ (by omega) i hf)
    have hfi : fidx Lx.tooLong ((Lx.split 10 s.data.toList).map Lx.bs) = (i : Int) := by unfold fidx; rw [hf]
    have HFI := Lib.hid hfi
    have hi : i < 100000 := by
      rw [List.findIdx?_eq_some_iff_getElem] at hf
      obtain ⟨h, _⟩ := hf
      omega
    have hi0 : (0 : Int) ≤ (i : Int) := by omega
    have hi1 : ¬ ((i : Int) < 0) := by omega
    clear hf hfi hlen hsl
    go_enter Tryd.func6, Tryd.ntmps6
    go_wp2_with fail
    refine (lines_s s (by omega) [] _ 6 hl HC).mono ?_; rintro e w1 ⟨u, rfl, HU, _, HC⟩
    obtain ⟨ua, uc, rfl⟩ := HU.out.len
    go_wp2_with fail
    refine (split_s s _ (Lib.hid rfl) (by omega) HC).mono ?_; rintro e w2 ⟨v, rfl, HV, _, HC⟩
    go_wp2_with fail
    refine (ifunc_any v _ hpl _ long_enters Lx.tooLong (fun s w _ => long_c s w) _ HV.out).mono ?_; rintro e w3 ⟨rfl, rfl⟩
    rw [HFI.out]
    go_wp2_with fail
    refine (works_s HC).mono ?_; rintro e w4 ⟨rfl, HC⟩
    go_wp2
    go_ret
    exact ⟨rfl, HC.out.1⟩
  | none =>
    have hfine := Lx.text_fine _ (by omega) hf
    have hfi : fidx Lx.tooLong ((Lx.split 10 s.data.toList).map Lx.bs) = -1 := by unfold fidx; rw [hf]
    have HFI := Lib.hid hfi
    have hl := Lib.hid hfine.1
    have hTl := Lib.trimSuffix_le s.data.toList [10]
    have hag := Lx.text_again (Lib.trimSuffix s.data.toList [10]) (by omega) hfine.2
    have hjn := Lx.join_split 10 (Lib.trimSuffix s.data.toList [10])
    have hno := Lx.split_no 10 (Lib.trimSuffix s.data.toList [10])
    have hne := Lx.split_ne 10 (Lib.trimSuffix s.data.toList [10])
    have hql := Lx.split_len 10 (Lib.trimSuffix s.data.toList [10])
    have h300 := hfine.2
    clear hf hfi hsl hfine
    generalize hTT : Lib.trimSuffix s.data.toList [10] = T at *
    generalize Lx.split 10 T = Q at *
    have hTs : (Lx.bs T).size ≤ 2000 := by rw [Lx.size_bs]; omega
    have hTb : Hid (Lx.bs (Lib.trimSuffix s.data.toList [10]) = Lx.bs T) := Lib.hid (by rw [hTT])
    have hjoin : Lx.bs (Lib.join ((Q.map Lx.bs).map (·.data.toList)) (ByteArray.data ⟨#[10]⟩).toList) = Lx.bs T := by
      rw [List.map_map]
      have : ((fun x : ByteArray => x.data.toList) ∘ Lx.bs) = id := by funext x; exact Lx.data_bs x
      rw [this, List.map_id, show (ByteArray.data ⟨#[10]⟩).toList = [10] from rfl, hjn]
    have happ : Lx.bs T ++ ⟨#[10]⟩ = Lx.bs (T ++ [10]) := by rw [show (⟨#[10]⟩ : ByteArray) = Lx.bs [10] from rfl, app_bs]
    have hag2 : Lx.lns (Lx.bs T ++ ⟨#[10]⟩).data.toList = (Q.map Lx.bs, 0, 0) := by rw [happ, Lx.data_bs]; exact hag
    have hpos : 0 < (Q.map Lx.bs).length := by cases Q with
      | nil => exact absurd rfl hne
      | cons => simp
    have hLQ : (Q.map Lx.bs).length ≤ 3000 := by rw [List.length_map]; omega
    have hno2 : ∀ x ∈ Q.map Lx.bs, (10 : UInt8) ∉ x.data.toList := by
      intro x hx
      obtain ⟨y, hy, rfl⟩ := List.mem_map.1 hx
      rw [Lx.data_bs]; exact hno y hy
    have h3002 : ∀ x ∈ Q.map Lx.bs, x.size ≤ 300 := by
      intro x hx
      obtain ⟨y, hy, rfl⟩ := List.mem_map.1 hx
      rw [Lx.size_bs]; exact h300 y hy
    generalize hQQ : Q.map Lx.bs = L at *
    generalize Lx.bs T = TT at *
    clear hTl hag hjn hno hne hql h300 hTT happ hQQ
    have HAG := Lib.hid hag2
    have HJ := Lib.hid hjoin
    have HNO := Lib.hid hno2
    have H300 := Lib.hid h3002
    have HLQ := Lib.hid hLQ
    have hqq : (TT.toList != TT.toList) = false := by simp
    have hq1 : ¬ 9223372036854775807 < TT.size + 1 := by omega
    clear hag2 hjoin hno2 h3002 hlen
    go_enter Tryd.func6, Tryd.ntmps6
    go_wp2_with fail
    refine (lines_s s (by omega) L 0 0 hl HC).mono ?_; rintro e w1 ⟨u, rfl, HU, _, HC⟩
    obtain ⟨b, off, cap, rfl, hb, hcap⟩ : ∃ b off cap, u = .slice (some ⟨b, off, none⟩) L.length cap ∧ b < w1.heap.size ∧ Hid (∀ j s, L[j]? = some s → w1.cell? ⟨b, off + j, none⟩ = some (.string s)) := by
      rcases HU.out with ⟨a, c, rfl, rfl⟩ | ⟨b, off, cap, rfl, hp, hb, hc⟩
      · simp at hpos
      · exact ⟨b, off, cap, rfl, hb, Lib.hid hc⟩
    go_wp2_with fail
    refine (split_s s _ (Lib.hid rfl) (by omega) HC).mono ?_; rintro e w2 ⟨v, rfl, HV, hb2, HC⟩
    replace HU := Strs.hbl HU hb2
    have hcap2 := Lib.hid (fun j s hj => cell_bl hb2 (hcap.out j s hj))
    have hb3 := Nat.lt_of_lt_of_le hb hb2.size
    clear hb2 hcap hb
    go_wp2_with fail
    refine (ifunc_any v _ hpl _ long_enters Lx.tooLong (fun s w _ => long_c s w) _ HV.out).mono ?_; rintro e w3 ⟨rfl, rfl⟩
    rw [HFI.out]
    clear HV
    have hne0 : ((L.length : Int) == 0) = false := by rw [beq_eq_false_iff_ne]; omega
    go_wp2_with fail
    refine (sjoin_s _ L _ TT HJ.out (by omega) (by have := HLQ.out; omega) HU.out HC).mono ?_; rintro e w4 ⟨rfl, hb4, HC⟩
    replace HU := Strs.hbl HU hb4
    have hcap4 := Lib.hid (fun j s hj => cell_bl hb4 (hcap2.out j s hj))
    clear hb4 hcap2
    go_wp2_with fail
    refine (trim_s s TT hTb (by omega)).mono ?_; rintro e w5 ⟨rfl, rfl⟩
    go_wp2
    go_loopw [62] (fun i wr => ∃ k : Nat, k ≤ L.length ∧ i = .int .i64 k ∧ w4 = wr) (fun i _ => L.length - (intOf i).toNat)
    case atStart => exact ⟨0, by omega, rfl, by first | rfl | trivial⟩
    case round =>
      obtain ⟨k, hk, rfl, rfl⟩ := hrel
      by_cases hkn : k < L.length
      · have c0 := hcap4.out k L[k] (List.getElem?_eq_getElem hkn)
        have hx := H300.out L[k] (List.getElem_mem hkn)
        have hy := fun w => contains_no L[k] (HNO.out L[k] (List.getElem_mem hkn)) w
        have hk0 : (0 : Int) ≤ (k : Int) := by omega
        have hk1 : (k : Int) < (L.length : Int) := by omega
        generalize L[k] = y at *
        go_wp2_with fail
        refine (hy _).mono ?_; rintro e w6 ⟨rfl, rfl⟩
        go_wp2
        go_roundw
        case rel => exact ⟨k + 1, by omega, by go_num, by first | rfl | trivial⟩
        case measure => simp [intOf] <;> omega
      · obtain rfl : k = L.length := by omega
        go_wp2_with fail
        refine (sjoin_s _ L _ TT HJ.out (by omega) (by have := HLQ.out; omega) HU.out HC).mono ?_; rintro e w7 ⟨rfl, hb7, HC⟩
        replace HU := Strs.hbl HU hb7
        clear hb7
        go_wp2_with fail
        refine (lines_s _ (by rw [ByteArray.size_append, show (⟨#[10]⟩ : ByteArray).size = 1 from rfl]; omega) L 0 0 HAG HC).mono ?_; rintro e w8 ⟨v2, rfl, HV2, hb8, HC⟩
        replace HU := Strs.hbl HU hb8
        clear hb8
        go_wp2_with fail
        refine (eq_s v2 _ L L true (by simp) (by have := HLQ.out; omega) (by have := HLQ.out; omega) HV2.out HU.out HC).mono ?_; rintro e w9 ⟨rfl, _, HC⟩
        go_wp2_with fail
        refine (works_s HC).mono ?_; rintro e w10 ⟨rfl, HC⟩
        go_wp2
        go_ret
        exact ⟨rfl, HC.out.1⟩
theorem text_over (s : ByteArray) (hs : 2000 < s.size) (W0 : World) (hM : MaxW W0) : Calls Tryd.prog 6 #[.string s] W0 fun e w' => e = .returned (.bool true) ∧ Below W0.heap.size W0 w' := by
  have HC := Lib.hid (Ms.mk0 hM)
  clear hM
  go_enter Tryd.func6, Tryd.ntmps6
  go_wp2_with fail
  refine (works_s HC).mono ?_; rintro e w4 ⟨rfl, HC⟩
  go_wp2
  go_ret
  exact ⟨rfl, HC.out.1⟩
theorem text_walk (s : ByteArray) (_ws : s.size ≤ maxLen) (W0 : World) (hM : MaxW W0) : Calls Tryd.prog 6 #[.string s] W0 fun e w' => e = .returned (.bool true) ∧ Below W0.heap.size W0 w' := by
  by_cases h : 2000 < s.size
  · exact text_over s h W0 hM
  · exact text_core s (by omega) W0 hM
end Go.Proofs.YtlekbbggbfhgaaaDoor
