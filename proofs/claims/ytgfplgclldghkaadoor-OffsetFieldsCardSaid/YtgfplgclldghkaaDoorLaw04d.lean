/- The walk of OffsetSpoilt. -/
import Derived.Test.YtgfplgclldghkaaDoorLaw04b
import Derived.BigRegion
import Derived.WalkLawsBesides
namespace Go.Proofs.YtgfplgclldghkaaDoor
open Go.RowKit
/-- what Parse returns is within the limits, or nothing -/
theorem parse_three (s : ByteArray) (hs : s.size ≤ maxLen) {W0 w : World} (HC : Hid (Ps W0 w)) : Calls Tryd.prog 11 #[.string s] w fun e w' => ∃ y f : Int, e = .returned (.tuple #[.int .i64 y, .int .i64 f]) ∧ ((-604799 ≤ y ∧ y ≤ 604799) ∧ (f = 0 ∨ (f = 3 ∧ y = 0) ∨ (f = 5 ∧ y = 0))) ∧ Hid (Ps W0 w') :=
  (parse_any s w hs HC.out.2.1).mono fun _ _ ⟨he, hb⟩ => ⟨_, _, he, Of.parse_bd _, Ps.hbl HC hb⟩
/-- one byte as a string, wherever it lies -/
theorem byte_str (c : Int) (_h0 : 0 ≤ c) (_h1 : c < 256) : ∃ C : ByteArray, C.size ≤ 1 ∧ ∀ (b : Nat) (wx : World), wx.cell? ⟨b, 0, none⟩ = some (.int .u8 c) → (convert 32 9 (.slice (some ⟨b, 0, none⟩) 1 1)).run Tryd.prog wx = .ok (.string C) wx := by
  refine ⟨⟨#[UInt8.ofNat c.toNat]⟩, Nat.le_refl 1, fun b wx h => ?_⟩
  have := run_convert_bytes_arg (P := Tryd.prog) wx 32 5 Tryd.underlying32 Tryd.underlying5 b 0 1 1 [c] rfl (fun i hi => by obtain rfl : i = 0 := (by omega); exact h) 9 Tryd.underlying9
  rw [this]
  rfl
set_option maxRecDepth 100000 in
set_option maxHeartbeats 4000000 in
theorem ospoilt_0 (n a r c x : Int) (k : Nat) (hn0 : 0 ≤ n) (hn1 : n < 4294967296) (ha0 : 0 ≤ a) (ha1 : a < 256) (hr0 : 0 ≤ r) (hr1 : r < 256) (hc0 : 0 ≤ c ∧ c < 256) (hx : n % 604800 = x)
    (S : ByteArray) (hS : ⟨(Of.prt x).toArray⟩ = S) (hk : a % (S.size : Int) = (k : Int)) (hr : r % 3 = 0) (W0 : World) (hT : CtsW W0 ∧ PowW W0) : Calls Tryd.prog 8 #[.int .u32 n, .int .u8 a, .int .u8 r, .int .u8 c] W0 fun e w' => e = .returned (.bool true) ∧ Below W0.heap.size W0 w' := by
  have HC := Lib.hid (Ps.mk0 hT.1 hT.2)
  have hx1 : 0 ≤ x := by omega
  have hx2 : x ≤ 604799 := by omega
  have HX := hid_bd (show -604799 ≤ x by omega) hx2
  have hpx := prs_yes (show -604799 ≤ x by omega) hx2
  rw [hS] at hpx
  have HS := Lib.hid hpx
  have hs1 : 4 ≤ S.size := by rw [← hS, bs_size]; exact (Of.prt_len x).1
  have hs2 : S.size ≤ 10 := by rw [← hS, bs_size]; exact (Of.prt_len x).2
  have hk1 : k < S.size := by have := Int.emod_lt_of_pos a (show (0 : Int) < S.size by omega); omega
  have hne : (S.toList.isEmpty) = false := by
    rw [ByteArray.toList_eq]
    cases h : S.data.toList with
    | nil => have : S.size = 0 := by rw [Lib.size_eq, h]; rfl
             omega
    | cons _ _ => rfl
  obtain ⟨C, hC1, hcv⟩ := byte_str c hc0.1 hc0.2
  clear hT hS hpx hc0
  go_enter Tryd.func8, Tryd.ntmps8
  go_wp2_with fail
  refine (print_s _ S 0 HX HS HC).mono ?_; rintro e w1 ⟨rfl, HC⟩
  go_wp2_with fail
  go_region
  replace HC := Ps.hdr HC
  go_wp2_with fail
  refine (parse_three _ ?hs HC).mono ?_
  case hs => simp [ByteArray.size_append, ByteArray.size_extract, maxLen] <;> omega
  rintro e w2 ⟨y, f, rfl, ⟨⟨hy1, hy2⟩, hf⟩, HC⟩
  have HY := hid_bd hy1 hy2
  have HU := Lib.hid (prs_yes hy1 hy2)
  have HL := Lib.hid (prt_max y)
  have HP := Lib.hid (prt_parse hy1 hy2)
  generalize (⟨(Of.prt y).toArray⟩ : ByteArray) = U at *
  rcases hf with rfl | ⟨rfl, rfl⟩ | ⟨rfl, rfl⟩
  · go_wp2_with fail
    refine (print_s _ U 0 HY HU HC).mono ?_; rintro e w1 ⟨rfl, HC⟩
    go_wp2_with fail
    refine (parse_s U y 0 HL HP HC).mono ?_; rintro e w1 ⟨rfl, HC⟩
    go_wp2_with fail
    refine (works_s HC).mono ?_; rintro e w1 ⟨rfl, HC⟩
    go_wp2
    go_ret
    exact ⟨rfl, HC.out.1⟩
  all_goals
    go_wp2_with fail
    refine (works_s HC).mono ?_; rintro e w1 ⟨rfl, HC⟩
    go_wp2
    go_ret
    exact ⟨rfl, HC.out.1⟩
set_option maxRecDepth 100000 in
set_option maxHeartbeats 4000000 in
theorem ospoilt_1 (n a r c x : Int) (k : Nat) (hn0 : 0 ≤ n) (hn1 : n < 4294967296) (ha0 : 0 ≤ a) (ha1 : a < 256) (hr0 : 0 ≤ r) (hr1 : r < 256) (hc0 : 0 ≤ c ∧ c < 256) (hx : n % 604800 = x)
    (S : ByteArray) (hS : ⟨(Of.prt x).toArray⟩ = S) (hk : a % (S.size : Int) = (k : Int)) (hr : r % 3 = 1) (W0 : World) (hT : CtsW W0 ∧ PowW W0) : Calls Tryd.prog 8 #[.int .u32 n, .int .u8 a, .int .u8 r, .int .u8 c] W0 fun e w' => e = .returned (.bool true) ∧ Below W0.heap.size W0 w' := by
  have HC := Lib.hid (Ps.mk0 hT.1 hT.2)
  have hx1 : 0 ≤ x := by omega
  have hx2 : x ≤ 604799 := by omega
  have HX := hid_bd (show -604799 ≤ x by omega) hx2
  have hpx := prs_yes (show -604799 ≤ x by omega) hx2
  rw [hS] at hpx
  have HS := Lib.hid hpx
  have hs1 : 4 ≤ S.size := by rw [← hS, bs_size]; exact (Of.prt_len x).1
  have hs2 : S.size ≤ 10 := by rw [← hS, bs_size]; exact (Of.prt_len x).2
  have hk1 : k < S.size := by have := Int.emod_lt_of_pos a (show (0 : Int) < S.size by omega); omega
  have hne : (S.toList.isEmpty) = false := by
    rw [ByteArray.toList_eq]
    cases h : S.data.toList with
    | nil => have : S.size = 0 := by rw [Lib.size_eq, h]; rfl
             omega
    | cons _ _ => rfl
  obtain ⟨C, hC1, hcv⟩ := byte_str c hc0.1 hc0.2
  clear hT hS hpx hc0
  go_enter Tryd.func8, Tryd.ntmps8
  go_wp2_with fail
  refine (print_s _ S 0 HX HS HC).mono ?_; rintro e w1 ⟨rfl, HC⟩
  go_wp2_with fail
  have hcw := hcv w1.heap.size
  go_region
  go_wp2_with fail
  go_region
  replace HC := Ps.hdr (Ps.hdr (Ps.hal HC (.cells #[.int .u8 c] 5)))
  go_wp2_with fail
  refine (parse_three _ ?hs HC).mono ?_
  case hs => simp [ByteArray.size_append, ByteArray.size_extract, maxLen] <;> omega
  rintro e w2 ⟨y, f, rfl, ⟨⟨hy1, hy2⟩, hf⟩, HC⟩
  have HY := hid_bd hy1 hy2
  have HU := Lib.hid (prs_yes hy1 hy2)
  have HL := Lib.hid (prt_max y)
  have HP := Lib.hid (prt_parse hy1 hy2)
  generalize (⟨(Of.prt y).toArray⟩ : ByteArray) = U at *
  rcases hf with rfl | ⟨rfl, rfl⟩ | ⟨rfl, rfl⟩
  · go_wp2_with fail
    refine (print_s _ U 0 HY HU HC).mono ?_; rintro e w1 ⟨rfl, HC⟩
    go_wp2_with fail
    refine (parse_s U y 0 HL HP HC).mono ?_; rintro e w1 ⟨rfl, HC⟩
    go_wp2_with fail
    refine (works_s HC).mono ?_; rintro e w1 ⟨rfl, HC⟩
    go_wp2
    go_ret
    exact ⟨rfl, HC.out.1⟩
  all_goals
    go_wp2_with fail
    refine (works_s HC).mono ?_; rintro e w1 ⟨rfl, HC⟩
    go_wp2
    go_ret
    exact ⟨rfl, HC.out.1⟩
set_option maxRecDepth 100000 in
set_option maxHeartbeats 4000000 in
theorem ospoilt_2 (n a r c x : Int) (k : Nat) (hn0 : 0 ≤ n) (hn1 : n < 4294967296) (ha0 : 0 ≤ a) (ha1 : a < 256) (hr0 : 0 ≤ r) (hr1 : r < 256) (hc0 : 0 ≤ c ∧ c < 256) (hx : n % 604800 = x)
    (S : ByteArray) (hS : ⟨(Of.prt x).toArray⟩ = S) (hk : a % (S.size : Int) = (k : Int)) (hr : r % 3 = 2) (W0 : World) (hT : CtsW W0 ∧ PowW W0) : Calls Tryd.prog 8 #[.int .u32 n, .int .u8 a, .int .u8 r, .int .u8 c] W0 fun e w' => e = .returned (.bool true) ∧ Below W0.heap.size W0 w' := by
  have HC := Lib.hid (Ps.mk0 hT.1 hT.2)
  have hx1 : 0 ≤ x := by omega
  have hx2 : x ≤ 604799 := by omega
  have HX := hid_bd (show -604799 ≤ x by omega) hx2
  have hpx := prs_yes (show -604799 ≤ x by omega) hx2
  rw [hS] at hpx
  have HS := Lib.hid hpx
  have hs1 : 4 ≤ S.size := by rw [← hS, bs_size]; exact (Of.prt_len x).1
  have hs2 : S.size ≤ 10 := by rw [← hS, bs_size]; exact (Of.prt_len x).2
  have hk1 : k < S.size := by have := Int.emod_lt_of_pos a (show (0 : Int) < S.size by omega); omega
  have hne : (S.toList.isEmpty) = false := by
    rw [ByteArray.toList_eq]
    cases h : S.data.toList with
    | nil => have : S.size = 0 := by rw [Lib.size_eq, h]; rfl
             omega
    | cons _ _ => rfl
  obtain ⟨C, hC1, hcv⟩ := byte_str c hc0.1 hc0.2
  clear hT hS hpx hc0
  go_enter Tryd.func8, Tryd.ntmps8
  go_wp2_with fail
  refine (print_s _ S 0 HX HS HC).mono ?_; rintro e w1 ⟨rfl, HC⟩
  go_wp2_with fail
  have hcw := hcv w1.heap.size
  go_region
  go_wp2_with fail
  go_region
  replace HC := Ps.hdr (Ps.hdr (Ps.hal HC (.cells #[.int .u8 c] 5)))
  go_wp2_with fail
  refine (parse_three _ ?hs HC).mono ?_
  case hs => simp [ByteArray.size_append, ByteArray.size_extract, maxLen] <;> omega
  rintro e w2 ⟨y, f, rfl, ⟨⟨hy1, hy2⟩, hf⟩, HC⟩
  have HY := hid_bd hy1 hy2
  have HU := Lib.hid (prs_yes hy1 hy2)
  have HL := Lib.hid (prt_max y)
  have HP := Lib.hid (prt_parse hy1 hy2)
  generalize (⟨(Of.prt y).toArray⟩ : ByteArray) = U at *
  rcases hf with rfl | ⟨rfl, rfl⟩ | ⟨rfl, rfl⟩
  · go_wp2_with fail
    refine (print_s _ U 0 HY HU HC).mono ?_; rintro e w1 ⟨rfl, HC⟩
    go_wp2_with fail
    refine (parse_s U y 0 HL HP HC).mono ?_; rintro e w1 ⟨rfl, HC⟩
    go_wp2_with fail
    refine (works_s HC).mono ?_; rintro e w1 ⟨rfl, HC⟩
    go_wp2
    go_ret
    exact ⟨rfl, HC.out.1⟩
  all_goals
    go_wp2_with fail
    refine (works_s HC).mono ?_; rintro e w1 ⟨rfl, HC⟩
    go_wp2
    go_ret
    exact ⟨rfl, HC.out.1⟩
theorem ospoilt_walk (n : Int) (hn : (Lit.int .u32 n).wf = true) (a : Int) (ha : (Lit.int .u8 a).wf = true) (r : Int) (hr : (Lit.int .u8 r).wf = true) (c : Int) (hc : (Lit.int .u8 c).wf = true) (W0 : World) (hT : CtsW W0 ∧ PowW W0) : Calls Tryd.prog 8 #[.int .u32 n, .int .u8 a, .int .u8 r, .int .u8 c] W0 fun e w' => e = .returned (.bool true) ∧ Below W0.heap.size W0 w' := by
  have h1 := bounds_u32 hn
  have h2 := bounds_u8 ha
  have h3 := bounds_u8 hr
  have h4 := bounds_u8 hc
  have hk : ∃ k : Nat, a % ((⟨(Of.prt (n % 604800)).toArray⟩ : ByteArray).size : Int) = (k : Int) := by
    have := (Of.prt_len (n % 604800)).1
    rw [bs_size]
    exact Int.eq_ofNat_of_zero_le (Int.emod_nonneg _ (by omega))
  obtain ⟨k, hk⟩ := hk
  have : r % 3 = 0 ∨ r % 3 = 1 ∨ r % 3 = 2 := by omega
  rcases this with h | h | h
  · exact ospoilt_0 n a r c _ k (by omega) (by omega) (by omega) (by omega) (by omega) (by omega) (by omega) rfl _ rfl hk h W0 hT
  · exact ospoilt_1 n a r c _ k (by omega) (by omega) (by omega) (by omega) (by omega) (by omega) (by omega) rfl _ rfl hk h W0 hT
  · exact ospoilt_2 n a r c _ k (by omega) (by omega) (by omega) (by omega) (by omega) (by omega) (by omega) rfl _ rfl hk h W0 hT
end Go.Proofs.YtgfplgclldghkaaDoor
