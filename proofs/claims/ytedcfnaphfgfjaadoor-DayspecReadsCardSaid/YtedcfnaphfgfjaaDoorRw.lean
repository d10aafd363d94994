/- The document's answers about words: WeekText (out of the text of layer 8, for seats without the other words). -/
import Derived.Test.YtedcfnaphfgfjaaDoorRef08c
import Derived.BigRegion
namespace Go.Proofs.YtedcfnaphfgfjaaDoor
open Go.RowKit
theorem txt_out (L : List ByteArray) (n : Int) (h : n < 0 ∨ 13 ≤ n) : txt L n = ⟨#[]⟩ := by
  unfold txt
  rw [if_neg (by omega)]
theorem txt_weeks (n : Int) (h : 7 ≤ n) : txt weeksL n = ⟨#[]⟩ := by
  by_cases h1 : n < 13
  · have : n = 7 ∨ n = 8 ∨ n = 9 ∨ n = 10 ∨ n = 11 ∨ n = 12 := by omega
    rcases this with rfl | rfl | rfl | rfl | rfl | rfl <;> decide +kernel
  · exact txt_out _ _ (by omega)
/-- one byte as a string, wherever it lies -/
theorem byte_one8 (c : UInt8) (b : Nat) (wx : World) (h : wx.cell? ⟨b, 0, none⟩ = some (.int .u8 (c.toNat : Int))) : (convert 38 9 (.slice (some ⟨b, 0, none⟩) 1 1)).run Tryd.prog wx = .ok (.string ⟨#[c]⟩) wx := by
  have := run_convert_bytes_arg (P := Tryd.prog) wx 38 5 Tryd.underlying38 Tryd.underlying5 b 0 1 1 [(c.toNat : Int)] rfl (fun i hi => by obtain rfl : i = 0 := (by omega); exact h) 9 Tryd.underlying9
  rw [this]
  have e : strOfNums [(c.toNat : Int)] = ⟨#[c]⟩ := by
    show (⟨#[UInt8.ofNat (c.toNat : Int).toNat]⟩ : ByteArray) = _
    rw [Int.toNat_natCast, UInt8.ofNat_toNat]
  rw [e]
set_option maxRecDepth 100000 in
set_option maxHeartbeats 2000000 in
theorem rshort_any (x : ByteArray) (hx : 3 ≤ x.size ∧ x.size ≤ 1000) (hc : 97 ≤ (x[0]'(by omega)).toNat ∧ (x[0]'(by omega)).toNat ≤ 122) (S : ByteArray) (hS : Hid ((⟨#[Lib.upperB (x[0]'(by omega))]⟩ : ByteArray) ++ x.extract 1 3 = S)) (w : World) :
    Calls Tryd.prog 48 #[.string x] w fun e w' => e = .returned (.string S) ∧ Below w.heap.size w w' := by
  obtain ⟨hs1, hs2⟩ := hx
  obtain ⟨c1, c2⟩ := hc
  have q1 : (1 : Int) ≤ (x.size : Int) := by omega
  have q0 : (0 : Int) < (x.size : Int) := by omega
  have q3 : (3 : Int) ≤ (x.size : Int) := by omega
  have hlt : 0 < x.size := by omega
  have hz2 := ext_size x 1 3 (by omega)
  have hu : (Lib.upperB (x[0]'(by omega))).toNat = (x[0]'(by omega)).toNat - 32 := by
    unfold Lib.upperB
    have : Lib.isLowerB (x[0]'(by omega)) = true := by simp [Lib.isLowerB, UInt8.le_iff_toNat_le, c1, c2]
    rw [if_pos this, UInt8.toNat_sub_of_le _ _ (by rw [UInt8.le_iff_toNat_le]; exact Nat.le_trans (by decide) c1)]
    rfl
  have hv : (((x[0]'(by omega)).toNat : Int) - 97 + 65) = ((Lib.upperB (x[0]'(by omega))).toNat : Int) := by omega
  have hcv : ∀ wx : World, wx.cell? ⟨w.heap.size, 0, none⟩ = some (.int .u8 (((x[0]'(by omega)).toNat : Int) - 97 + 65)) → (convert 38 9 (.slice (some ⟨w.heap.size, 0, none⟩) 1 1)).run Tryd.prog wx = .ok (.string ⟨#[Lib.upperB (x[0]'(by omega))]⟩) wx := fun wx h => byte_one8 _ _ wx (by rw [← hv]; exact h)
  have hU : (⟨#[Lib.upperB (x[0]'(by omega))]⟩ : ByteArray).size = 1 := rfl
  generalize (⟨#[Lib.upperB (x[0]'(by omega))]⟩ : ByteArray) = U at *
  have r1 : (97 : Int) ≤ ((x[0]'(by omega)).toNat : Int) := by omega
  have r2 : ((x[0]'(by omega)).toNat : Int) ≤ 122 := by omega
  have hsum2 : ¬ 9223372036854775807 < U.size + (x.extract 1 3).size := by omega
  have hsum3 : ¬ 9223372036854775807 < U.size + (min 3 x.size - 1) := by omega
  clear hu hv hz2 hU c1 c2 hs1 hs2
  go_enter Tryd.func48, Tryd.ntmps48
  go_wp2_with fail
  go_region
  rw [hS.out]
  go_wp2
  go_ret
  exact ⟨rfl, ((Below.refl _ w).alloc (Nat.le_refl _) _).drew⟩
/-- a word that has a short form -/
def okr (x : ByteArray) : Bool := match x.data.toList with | a :: _ :: _ :: _ => Nat.ble 97 a.toNat && Nat.ble a.toNat 122 && Nat.ble x.size 1000 | _ => false
theorem okr_at (x : ByteArray) (h : okr x = true) : ∃ a b c r, x.data.toList = a :: b :: c :: r ∧ 97 ≤ a.toNat ∧ a.toNat ≤ 122 ∧ 3 ≤ x.size ∧ x.size ≤ 1000 := by
  unfold okr at h
  match hd : x.data.toList, h with
  | a :: b :: c :: r, h =>
    simp only [Bool.and_eq_true, Nat.ble_eq] at h
    refine ⟨a, b, c, r, rfl, h.1.1, h.1.2, ?_, h.2⟩
    have hsz : x.size = (a :: b :: c :: r).length := by rw [← hd, Array.length_toList]; rfl
    rw [hsz]; simp
/-- the short form of a word -/
def sht (x : ByteArray) : ByteArray := match x.data.toList with | a :: b :: c :: _ => ⟨#[Lib.upperB a, b, c]⟩ | _ => ⟨#[]⟩
theorem rshort_s (x : ByteArray) (h : okr x = true) (S : ByteArray) (hS : Hid (sht x = S)) (w : World) : Calls Tryd.prog 48 #[.string x] w fun e w' => e = .returned (.string S) ∧ Below w.heap.size w w' := by
  obtain ⟨a, b, c, r, hd, h1, h2, h3, h4⟩ := okr_at x h
  have hx0 : x[0]'(by omega) = a := by
    have : x.data.toList[0]? = some a := by rw [hd]; rfl
    rw [Array.getElem?_toList] at this
    obtain ⟨_, e⟩ := Array.getElem?_eq_some_iff.1 this
    exact e
  refine rshort_any x ⟨h3, h4⟩ (by rw [hx0]; exact ⟨h1, h2⟩) S (Lib.hid ?_) w
  have e2 : (x.extract 1 3).data.toList = [b, c] := by rw [Lib.extract_data, hd]; rfl
  rw [bs_of e2, hx0, ← hS.out, sht, hd]
  rfl
theorem okr_weeks : ∀ x ∈ rweeksL, okr x = true := by decide +kernel
theorem txt_weeksR : ∀ k : Nat, k < 7 → txt weeksL (k : Int) = sht (rweeksL.getD k ⟨#[]⟩) := by decide +kernel
set_option maxRecDepth 100000 in
theorem rWeekText_any (n : Int) (S : ByteArray) (hS : Hid (txt weeksL n = S)) (w : World) : Calls Tryd.prog 28 #[.int .i64 n] w fun e w' => e = .returned (.string S) ∧ Below w.heap.size w w' := by
  have h := hS.out
  by_cases hn : 0 ≤ n ∧ n ≤ 6
  · obtain ⟨k, rfl⟩ : ∃ k : Nat, n = (k : Int) := ⟨n.toNat, by omega⟩
    have hk : k < 7 := by omega
    rw [txt_weeksR k hk] at h
    have hx : rweeksL[k]? = some (rweeksL.getD k ⟨#[]⟩) := by
      have hl : k < rweeksL.length := hk
      rw [List.getD_eq_getElem?_getD, List.getElem?_eq_getElem hl]; rfl
    have ho := okr_weeks _ (List.mem_of_getElem? hx)
    generalize rweeksL.getD k ⟨#[]⟩ = x at *
    have HB0 := Bs.hal (Lib.hid (Bs.mk0 w)) (.cells (strV rweeksL).toArray 9)
    have HCs : Hid (Cs (w.alloc (.cells (strV rweeksL).toArray 9)) w.heap.size (strV rweeksL)) := Lib.hid (Cs.new _ _ _)
    have HX := Lib.hid hx
    have HO := Lib.hid ho
    have HS := Lib.hid h
    have g2 : ¬ (6 : Int) < (k : Int) := by omega
    have g3 : (0 : Int) ≤ (k : Int) := by omega
    have g4 : (k : Int) < 7 := by omega
    clear hS h hx ho hn
    go_enter Tryd.func28, Tryd.ntmps28
    go_wp2_with fail
    refine (rweeks_any w).mono ?_; rintro e w1 ⟨rfl, hw1⟩
    rw [hw1] at HB0 HCs
    have c0 := HCs.out.at k (strV_at _ _ _ HX.out)
    clear hw1
    go_wp2_with fail
    refine (rshort_s x HO.out S HS w1).mono ?_; rintro e w2 ⟨rfl, hb⟩
    have HB2 := Bs.hbl HB0 hb
    go_wp2
    go_ret
    exact ⟨rfl, HB2.out⟩
  · have hz : txt weeksL n = ⟨#[]⟩ := by
      by_cases e : n < 0
      · exact txt_out _ _ (by omega)
      · exact txt_weeks n (by omega)
    rw [hz] at h
    subst h
    by_cases h1 : n < 0
    · go_enter Tryd.func28, Tryd.ntmps28
      go_wp2
      go_ret
      exact ⟨rfl, Below.refl _ _⟩
    · have h2 : 6 < n := by omega
      go_enter Tryd.func28, Tryd.ntmps28
      go_wp2
      go_ret
      exact ⟨rfl, Below.refl _ _⟩
end Go.Proofs.YtedcfnaphfgfjaaDoor
