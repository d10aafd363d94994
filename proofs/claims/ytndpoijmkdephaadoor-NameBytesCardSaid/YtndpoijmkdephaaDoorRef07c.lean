/- The document's answers of layer 7: names of zones. -/
import Derived.Test.YtndpoijmkdephaaDoorRef07b
namespace Go.Proofs.YtndpoijmkdephaaDoor
open Go.RowKit
/-- what lies between two places of a list, and what begins at the second -/
theorem Nm.drop_two (l : List UInt8) (f i : Nat) (h : f ≤ i) : l.drop f = (l.drop f).take (i - f) ++ l.drop i := by
  conv => lhs; rw [← List.take_append_drop (i - f) (l.drop f)]
  rw [List.drop_drop, show f + (i - f) = i by omega]
theorem Nm.mid_snoc (l : List UInt8) (f i : Nat) (h : f ≤ i) (hi : i < l.length) : (l.drop f).take (i + 1 - f) = (l.drop f).take (i - f) ++ [l[i]] := by
  rw [show i + 1 - f = (i - f) + 1 by omega, List.take_succ_eq_append_getElem (by simp; omega)]
  simp [List.getElem_drop, show f + (i - f) = i by omega]
set_option maxHeartbeats 1000000 in
theorem rZone_any (s : ByteArray) (hs : s.size ≤ 100000000000) (r : Bool) (hr : Nm.zone s.data.toList = r) (w : World) :
    Calls Tryd.prog 9 #[.string s] w fun e w' => e = .returned (.bool r) ∧ w = w' := by
  have hsz : s.data.toList.length = s.size := by simp
  unfold Nm.zone at hr
  rw [hsz] at hr
  have HR := Lib.hid hr
  clear hr
  go_enter Tryd.func9, Tryd.ntmps9
  go_wp2
  go_loopw [3, 4] (fun f i wr => ∃ a k : Nat, a ≤ k ∧ k ≤ s.size ∧ f = .int .i64 a ∧ i = .int .i64 k ∧ (Nm.zr 0 s.data.toList = Nm.zr 0 (s.data.toList.drop a)) ∧ (∀ c ∈ (s.data.toList.drop a).take (k - a), c ≠ 47) ∧ w = wr) (fun _ i _ => s.size - (intOf i).toNat)
  case atStart => exact ⟨0, 0, by omega, by omega, rfl, rfl, rfl, by simp, by first | rfl | trivial⟩
  case round =>
    obtain ⟨a, k, hak, hk, rfl, rfl, h1, h2, rfl⟩ := hrel
    by_cases hks : k < s.size
    · have hk0 : (0 : Int) ≤ (k : Int) := by omega
      have hk1 : (k : Int) < (s.size : Int) := by omega
      have ha0 : (0 : Int) ≤ (a : Int) := by omega
      have ha1 : (a : Int) ≤ (k : Int) := by omega
      have hg : s.data.toList[k]'(by omega) = s[k] := rfl
      have hdk : s.data.toList.drop k = s[k] :: s.data.toList.drop (k + 1) := by
        rw [List.drop_eq_getElem_cons (by omega), hg]
      by_cases h47 : s[k] = 47
      · have z0 : ((s[k].toNat : Int) == 47) = true := Nm.byte_eq (n := 47) (by rw [h47]; rfl) (by omega)
        have hx : (s.extract a k).data.toList = (s.data.toList.drop a).take (k - a) := by
          rw [Lib.extract_data]
        have hsp : Nm.zr 0 (s.data.toList.drop a) = (Nm.part ((s.data.toList.drop a).take (k - a)) && Nm.zr 0 (s.data.toList.drop (k + 1))) := by
          have hd2 := Nm.drop_two s.data.toList a k hak
          rw [hdk, h47] at hd2
          conv => lhs; rw [hd2]
          rw [Nm.zr_part _ (by simpa using h2) _ (.inr ⟨_, rfl⟩)]
          simp
        have hcall := rpart_any (s.extract a k) (by rw [Lib.size_eq, hx]; have := List.length_take_le (k - a) (s.data.toList.drop a); omega) (Nm.part ((s.data.toList.drop a).take (k - a))) (by rw [hx]) w
        have HC := Lib.hid hcall
        have H1 := Lib.hid h1
        have HS := Lib.hid hsp
        clear hcall h1 h2 hsp hx hdk hg h47 hsz
        cases hb : Nm.part ((s.data.toList.drop a).take (k - a)) with
        | true =>
          have HC2 : Hid (Calls Tryd.prog 23 #[.string (s.extract a k)] w fun e w' => e = .returned (.bool true) ∧ w = w') := Lib.hid (by have := HC.out; rwa [hb] at this)
          have HS2 := Lib.hid (show Nm.zr 0 s.data.toList = Nm.zr 0 (s.data.toList.drop (k + 1)) by rw [H1.out, HS.out, hb, Bool.true_and])
          clear HC hb
          go_wp2_with fail
          refine HC2.out.mono ?_; rintro e w1 ⟨rfl, rfl⟩
          go_wp2
          go_roundw
          case rel => exact ⟨k + 1, k + 1, by omega, by omega, by go_num, by go_num, HS2.out, by simp, by first | rfl | trivial⟩
          case measure => simp [intOf]; omega
        | false =>
          have HC2 : Hid (Calls Tryd.prog 23 #[.string (s.extract a k)] w fun e w' => e = .returned (.bool false) ∧ w = w') := Lib.hid (by have := HC.out; rwa [hb] at this)
          have hz : Nm.zr 0 s.data.toList = false := by rw [H1.out, HS.out, hb, Bool.false_and]
          have hr := HR.out
          rw [hz, Bool.and_false] at hr
          subst hr
          clear HC hb hz HR
          go_wp2_with fail
          refine HC2.out.mono ?_; rintro e w1 ⟨rfl, rfl⟩
          go_wp2
          go_ret
          exact ⟨rfl, rfl⟩
      · have z0 : ((s[k].toNat : Int) == 47) = false := Nm.byte_ne (n := 47) h47 (by omega)
        have h3 : ∀ c ∈ (s.data.toList.drop a).take (k + 1 - a), c ≠ 47 := by
          rw [Nm.mid_snoc _ _ _ hak (by omega)]
          intro c hc
          rcases List.mem_append.1 hc with hc | hc
          · exact h2 c hc
          · rw [List.mem_singleton.1 hc]; exact h47
        have H1 := Lib.hid h1
        have H3 := Lib.hid h3
        clear h1 h2 h3 h47 hdk hg hsz
        go_wp2
        go_roundw
        case rel => exact ⟨a, k + 1, by omega, by omega, rfl, by go_num, H1.out, H3.out, by first | rfl | trivial⟩
        case measure => simp [intOf]; omega
    · have hke : k = s.size := by omega
      have hk0 : (0 : Int) ≤ (k : Int) := by omega
      have ha0 : (0 : Int) ≤ (a : Int) := by omega
      have ha1 : (a : Int) ≤ (s.size : Int) := by omega
      have hall : (s.data.toList.drop a).take (k - a) = s.data.toList.drop a := List.take_of_length_le (by simp; omega)
      rw [hall] at h2
      have hp : Nm.zr 0 s.data.toList = Nm.part (s.data.toList.drop a) := by rw [h1, Nm.part_of_zr h2]
      have hx : (s.extract a s.size).data.toList = s.data.toList.drop a := by
        rw [Lib.extract_data]; exact List.take_of_length_le (by simp)
      have hcall := rpart_any (s.extract a s.size) (by rw [Lib.size_eq, hx]; simp; omega) (Nm.part (s.data.toList.drop a)) (by rw [hx]) w
      rw [← hp] at hcall
      have HC := Lib.hid hcall
      subst hke
      clear hcall h1 h2 hp hx hall hsz
      have hr := HR.out
      cases hb : Nm.zr 0 s.data.toList with
      | false =>
        rw [hb, Bool.and_false] at hr
        have HC2 : Hid (Calls Tryd.prog 23 #[.string (s.extract a s.size)] w fun e w' => e = .returned (.bool false) ∧ w = w') := Lib.hid (by have := HC.out; rwa [hb] at this)
        subst hr
        clear HC hb HR
        go_wp2_with fail
        refine HC2.out.mono ?_; rintro e w1 ⟨rfl, rfl⟩
        go_wp2
        go_ret
        exact ⟨rfl, rfl⟩
      | true =>
        have HC2 : Hid (Calls Tryd.prog 23 #[.string (s.extract a s.size)] w fun e w' => e = .returned (.bool true) ∧ w = w') := Lib.hid (by have := HC.out; rwa [hb] at this)
        rw [hb, Bool.and_true] at hr
        clear HC hb HR
        by_cases h60 : s.size ≤ 60
        · have h61 : (s.size : Int) ≤ 60 := by omega
          rw [decide_eq_true h60] at hr
          subst hr
          go_wp2_with fail
          refine HC2.out.mono ?_; rintro e w1 ⟨rfl, rfl⟩
          go_wp2
          go_ret
          exact ⟨rfl, rfl⟩
        · have h61 : ¬ (s.size : Int) ≤ 60 := by omega
          rw [decide_eq_false h60] at hr
          subst hr
          go_wp2_with fail
          refine HC2.out.mono ?_; rintro e w1 ⟨rfl, rfl⟩
          go_wp2
          go_ret
          exact ⟨ret_bool (by simpa using h61), rfl⟩
end Go.Proofs.YtndpoijmkdephaaDoor
