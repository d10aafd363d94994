/- The walk of NameBytes. -/
import Derived.Test.YtndpoijmkdephaaDoorLaw07f
import Derived.Deep.DeepCutAuto
namespace Go.Proofs.YtndpoijmkdephaaDoor
open Go.RowKit
open Go.Maps (Keyed)
theorem grown_bl {w w' : World} (h : Below w.heap.size w w') (row : Option Nat) : w.grownBy w' row := ⟨h.os, h.tape, h.output, h.size, fun k hk _ => h.block k hk⟩
/-- what a function of the map does with a string -/
def KindF (m : Nat) (F : FuncId) : Prop := ∀ (S : ByteArray) (r : Bool) (w : World), S.size ≤ 1000 → Nm.nk m S.data.toList = r → KdW w → Calls Tryd.prog F #[.string S] w fun e w' => e = .returned (.bool r) ∧ Below w.heap.size w w'
theorem kindF (x : Int) (F : Nat) (h : (x = 4 ∧ F = 12) ∨ (x = 6 ∧ F = 14) ∨ (x = 30 ∧ F = 10)) : ∃ m : Nat, x = (m : Int) ∧ (m = 4 ∨ m = 6 ∨ m = 30) ∧ (∀ args w, (callFunc F args).run Tryd.prog w = .ok (.enter F args) w) ∧ KindF m F := by
  rcases h with ⟨rfl, rfl⟩ | ⟨rfl, rfl⟩ | ⟨rfl, rfl⟩
  · exact ⟨4, rfl, by simp, enters_nletter, fun S r w hs hr hk => nletter_any S (by omega) r hr w hk⟩
  · exact ⟨6, rfl, by simp, enters_nabbr, fun S r w hs hr hk => nabbr_any S (by omega) r hr w hk⟩
  · exact ⟨30, rfl, by simp, enters_nset, fun S r w hs hr hk => nset_any S (by omega) r hr w hk⟩
set_option maxRecDepth 100000 in
set_option maxHeartbeats 4000000 in
theorem bytes_walk (W0 : World) (v : Value) (D : List (List UInt8)) (hI : Drf W0 v D) (hl : ∀ l ∈ D, l.length ≤ maxLen) (hz : D.length ≤ maxLen) (u : Value) (zs : List UInt8) (hJ : Byts W0 u zs) (hzs : zs.length ≤ maxLen) (cc : Int) (hcc : (Lit.int .u8 cc).wf = true) (x : Int) (hx : (Lit.int .u8 x).wf = true) (hT : KdW W0) :
    Calls Tryd.prog 5 #[v, u, .int .u8 cc, .int .u8 x] W0 fun e w' => e = .returned (.bool true) ∧ Below W0.heap.size W0 w' := by
  have hb := bounds_u8 hcc
  have hb2 := bounds_u8 hx
  have HC := Lib.hid (Ns.mk0 hT)
  have HT0 := Lib.hid hT
  obtain ⟨c, rfl⟩ : ∃ c : UInt8, cc = (c.toNat : Int) := ⟨UInt8.ofNat cc.toNat, by rw [UInt8.toNat_ofNat']; omega⟩
  obtain ⟨A, hA⟩ : ∃ A, Lx.bs (Nm.zoneS D) = A := ⟨_, rfl⟩
  have hAd : Nm.zoneS D = A.data.toList := by rw [← hA, Lx.data_bs]
  have hzr := Nm.zoneS_zr D
  have hzp := Nm.zr_pos hzr.1
  rw [hAd] at hzr hzp
  have hsz : A.data.toList.length = A.size := by simp
  rw [hsz] at hzr hzp
  obtain ⟨k, hk⟩ : ∃ k : Nat, x % (A.size : Int) = (k : Int) := ⟨(x % (A.size : Int)).toNat, by have := Int.emod_nonneg x (show (A.size : Int) ≠ 0 by omega); omega⟩
  have hk1 : k < A.size := by have := Int.emod_lt_of_pos x (show (0 : Int) < A.size by omega); omega
  have hA1 : (0 : Int) < (A.size : Int) := by omega
  have hA2 : (A.size : Int) ≤ 59 := by omega
  have hk0 : (0 : Int) ≤ (k : Int) := by omega
  have hk2 : (k : Int) < (A.size : Int) := by omega
  have hx0 : 0 ≤ x := hb2.1
  have hx1 : x < 256 := by omega
  have hc0 : (0 : Int) ≤ (c.toNat : Int) := by omega
  have hc1 : (c.toNat : Int) < 256 := by omega
  obtain ⟨bL, HL⟩ : ∃ b, Hid (Nm.isL c = b) := ⟨_, Lib.hid rfl⟩
  obtain ⟨bG, HG⟩ : ∃ b, Hid (Nm.isG c = b) := ⟨_, Lib.hid rfl⟩
  obtain ⟨bB, HBB⟩ : ∃ b, Hid (decide (A.data.toList.take k = [] ∨ (A.data.toList.take k).getLast? = some 47) = b) := ⟨_, Lib.hid rfl⟩
  obtain ⟨bW, HBW⟩ : ∃ b, Hid ((if bB then Nm.atP c else Nm.inP c) = b) := ⟨_, Lib.hid rfl⟩
  have HZ := Lib.hid hzr
  have HI := Lib.hid hI
  have HJ := Lib.hid hJ
  have HZS := Lib.hid hzs
  have HS := Lib.hid hA
  have HD1 := Lib.hid hl
  have HD2 := Lib.hid hz
  have HK1 := Lib.hid hk1
  have HSZ := Lib.hid hsz
  clear hI hl hz hJ hzs hcc hx hT hb hb2 hA hAd hzr hzp hsz
  go_enter Tryd.func5, Tryd.ntmps5
  go_wp2_with fail
  refine (zone7_s v D HD1 HD2 A HS HI.out HC).mono ?_; rintro e w1 ⟨rfl, _, HC⟩
  go_upto_region 3 with fail
  go_cut [10, 11] (fun s10 s11 wx => s10 = .int .i64 k ∧ s11 = .bool bL ∧ w1 = wx)
  case first =>
    have hr := HL.out
    rw [Nm.isL_iff] at hr
    have HR := Lib.hid hr
    clear hr
    generalize c.toNat = y at *
    have ways : y < 65 ∨ (65 ≤ y ∧ y ≤ 90) ∨ (90 < y ∧ y < 97) ∨ (97 ≤ y ∧ y ≤ 122) ∨ 122 < y := by omega
    rcases ways with h | ⟨h1, h2⟩ | ⟨h1, h2⟩ | ⟨h1, h2⟩ | h
    · have a1 : ¬ (65 : Int) ≤ (y : Int) := by omega
      have a2 : ¬ (97 : Int) ≤ (y : Int) := by omega
      go_wp2_with fail
      go_meet
      exact ⟨by first | rfl | rw [hk], by rw [← HR.out, decide_eq_false (by omega), decide_eq_false (p := 97 ≤ y) (by omega)]; rfl, rfl⟩
    · have a1 : (65 : Int) ≤ (y : Int) := by omega
      have a2 : (y : Int) ≤ 90 := by omega
      go_wp2_with fail
      go_meet
      exact ⟨by first | rfl | rw [hk], by rw [← HR.out, decide_eq_true h1, decide_eq_true h2]; rfl, rfl⟩
    · have a1 : (65 : Int) ≤ (y : Int) := by omega
      have a2 : ¬ (y : Int) ≤ 90 := by omega
      have a3 : ¬ (97 : Int) ≤ (y : Int) := by omega
      go_wp2_with fail
      go_meet
      exact ⟨by first | rfl | rw [hk], by rw [← HR.out, decide_eq_false (p := y ≤ 90) (by omega), decide_eq_false (p := 97 ≤ y) (by omega)]; simp, rfl⟩
    · have a1 : (65 : Int) ≤ (y : Int) := by omega
      have a2 : ¬ (y : Int) ≤ 90 := by omega
      have a3 : (97 : Int) ≤ (y : Int) := by omega
      have a4 : (y : Int) ≤ 122 := by omega
      go_wp2_with fail
      go_meet
      exact ⟨by first | rfl | rw [hk], by rw [← HR.out, decide_eq_true h1, decide_eq_true h2]; simp, rfl⟩
    · have a1 : (65 : Int) ≤ (y : Int) := by omega
      have a2 : ¬ (y : Int) ≤ 90 := by omega
      have a3 : (97 : Int) ≤ (y : Int) := by omega
      have a4 : ¬ (y : Int) ≤ 122 := by omega
      go_wp2_with fail
      go_meet
      exact ⟨by first | rfl | rw [hk], by rw [← HR.out, decide_eq_false (p := y ≤ 90) (by omega), decide_eq_false (p := y ≤ 122) (by omega)]; simp, rfl⟩
  case rest =>
  obtain ⟨rfl, rfl, rfl⟩ := hcut
  clear hk
  go_upto_region 4 with fail
  go_cut [12] (fun s12 wx => s12 = .bool bG ∧ w1 = wx)
  case first =>
    have hr := HG.out
    rw [Nm.isG_iff] at hr
    have HR := Lib.hid hr
    clear hr
    generalize c.toNat = y at *
    have ways : y < 48 ∨ (48 ≤ y ∧ y ≤ 57) ∨ 57 < y := by omega
    rcases ways with h | ⟨h1, h2⟩ | h
    · have a1 : ¬ (48 : Int) ≤ (y : Int) := by omega
      go_wp2_with fail
      go_meet
      exact ⟨by rw [← HR.out, decide_eq_false (by omega)]; rfl, rfl⟩
    · have a1 : (48 : Int) ≤ (y : Int) := by omega
      have a2 : (y : Int) ≤ 57 := by omega
      go_wp2_with fail
      go_meet
      exact ⟨by rw [← HR.out, decide_eq_true h1, decide_eq_true h2]; rfl, rfl⟩
    · have a1 : (48 : Int) ≤ (y : Int) := by omega
      have a2 : ¬ (y : Int) ≤ 57 := by omega
      go_wp2_with fail
      go_meet
      exact ⟨by rw [← HR.out, decide_eq_false (p := y ≤ 57) (by omega)]; simp, rfl⟩
  case rest =>
  obtain ⟨rfl, rfl⟩ := hcut
  go_upto_region 5 with fail
  go_cut [13] (fun s13 wx => s13 = .bool bB ∧ w1 = wx)
  case first =>
    by_cases h0 : k = 0
    · have e0 : ((k : Int) == 0) = true := by simpa using h0
      have hB : bB = true := by rw [← HBB.out, h0]; rfl
      clear h0
      go_wp2_with fail
      go_meet
      exact ⟨by rw [hB], rfl⟩
    · have e0 : ((k : Int) == 0) = false := by simpa using h0
      obtain ⟨j, hj⟩ : ∃ j, k = j + 1 := ⟨k - 1, by omega⟩
      have hj1 : (k : Int) - 1 = (j : Int) := by omega
      have hj2 : j < A.size := by omega
      have hj3 : (0 : Int) ≤ (j : Int) := by omega
      have hj4 : (j : Int) < (A.size : Int) := by omega
      have hlast : (A.data.toList.take k).getLast? = some A[j] := by
        have := HSZ.out
        rw [hj, List.take_succ_eq_append_getElem (by omega), List.getLast?_concat]; rfl
      have hne : A.data.toList.take k ≠ [] := by intro e; rw [e] at hlast; cases hlast
      have hB := HBB.out
      rw [hlast] at hB
      by_cases h47 : A[j] = 47
      · have z0 : ((A[j].toNat : Int) == 47) = true := Nm.byte_eq (n := 47) (by rw [h47]; rfl) (by omega)
        have hB2 : bB = true := by rw [← hB, decide_eq_true (.inr (by rw [h47]))]
        clear hB h47 hlast hne hj h0
        go_wp2_with fail
        go_meet
        exact ⟨by rw [hB2], rfl⟩
      · have z0 : ((A[j].toNat : Int) == 47) = false := Nm.byte_ne (n := 47) h47 (by omega)
        have hB2 : bB = false := by rw [← hB, decide_eq_false (fun e => e.elim hne (fun e => h47 (Option.some.inj e)))]
        clear hB h47 hlast hne hj h0
        go_wp2_with fail
        go_meet
        exact ⟨by rw [hB2], rfl⟩
  case rest =>
  obtain ⟨rfl, rfl⟩ := hcut
  go_upto_region 6 with fail
  go_cut [14] (fun s14 wx => s14 = .bool bW ∧ w1 = wx)
  case first =>
    rename_i hmeet
    refine want_region c bL bG bB bW HL HG HBW w1 _ _ _ _ _ _ _ _ _ _ _ _ _ _ _ _ _ _ _ _ _ _ _ _ _ _ _ _ _ _ _ _ _ _ _ _ _ _ _ _ _ _ _ _ _ _ _ _ _ _ _ _ _ _ _ _ _ _ _ _ _ _ _ _ _ _ _ _ _ _ _ _ _ _ _ _ _ _ _ _ _ _ _ _ _ _ _ _ _ _ _ _ _ _ _ _ _ _ _ _ _ _ _ _ _ _ _ _ _ _ _ _ _ _ _ _ _ _ _ _ _ _ _ _ _ _ _ _ _ _ _ _ _ _ _ _ _ _ _ _ _ _ _ _ _ _ _ _ _ _ _ _ _ _ _ _ _ _ _ _ _ _ _ _ _ _ (Lib.hid ?_)
    intro x58 x59 x60 x61 x62 x63 x64 x65 x66 x67 x68 x69 x70 x71 x72 x73 x74 x75 x76 x77 x78 x79 x80 x81
    refine hmeet _ _ ?_
    go_meet
    exact ⟨rfl, rfl⟩
  case rest =>
  obtain ⟨rfl, rfl⟩ := hcut
  have hcv := byte_one c
  have hcw := hcv w1.heap.size
  have hq3 : ¬ 9223372036854775807 < (A.extract 0 k).size + 1 := by rw [ByteArray.size_extract]; have := HK1.out; omega
  have hq4 : ¬ 9223372036854775807 < (A.extract 0 k).size + 1 + (A.extract (k + 1) A.size).size := by rw [ByteArray.size_extract, ByteArray.size_extract]; have := HK1.out; omega
  go_wp2_with fail
  go_region
  replace HC := Ns.hdr (Ns.hal HC (.cells #[.int .u8 (c.toNat : Int)] 5))
  have HB : Hid (Nm.chg A.data.toList k c = (A.extract 0 k ++ ⟨#[c]⟩ ++ A.extract (k + 1) A.size).data.toList) := Lib.hid (Nm.chg_bs A k c).symm
  clear hcw hq3 hq4
  generalize (w1.alloc (.cells #[.int .u8 (c.toNat : Int)] 5)).drew = w2 at *
  generalize A.extract 0 k ++ ⟨#[c]⟩ ++ A.extract (k + 1) A.size = E at *
  go_upto_region 8 with fail
  go_cut [107] (fun s107 wx => s107 = .bool false ∧ Below w2.heap.size w2 wx)
  case first =>
    by_cases h47 : c = 47
    · have z0 : ((c.toNat : Int) != 47) = false := Nm.bne_of (r := true) (Nm.byte_eq (n := 47) (by rw [h47]; rfl) (by omega))
      clear h47
      go_wp2_with fail
      go_meet
      exact ⟨rfl, Below.refl _ _⟩
    have z0 : ((c.toNat : Int) != 47) = true := Nm.bne_of (r := false) (Nm.byte_ne (n := 47) h47 (by omega))
    have hkA : k < A.size := HK1.out
    by_cases h48 : A[k] = 47
    · have z1 : ((A[k].toNat : Int) != 47) = false := Nm.bne_of (r := true) (Nm.byte_eq (n := 47) (by rw [h48]; rfl) (by omega))
      clear h47 h48
      go_wp2_with fail
      go_meet
      exact ⟨rfl, Below.refl _ _⟩
    have z1 : ((A[k].toNat : Int) != 47) = true := Nm.bne_of (r := false) (Nm.byte_ne (n := 47) h48 (by omega))
    have hzz := Nm.zone_chg A.data.toList k c (by have := HSZ.out; omega) (by have := HSZ.out; omega) HZ.out.1 h48 h47 bB HBB.out
    rw [HBW.out, HB.out] at hzz
    have HZZ := Lib.hid hzz
    have hbb : (bW == bW) = true := beq_rr bW
    clear hzz h47 h48
    go_wp2_with fail
    refine (nzone_any E bW HZZ.out w2 HC.out.2).mono ?_; rintro e w3 ⟨rfl, hb⟩
    go_wp2_with fail
    go_meet
    exact ⟨rfl, hb⟩
  case rest =>
  obtain ⟨rfl, hb⟩ := hcut
  replace HC := Ns.hbl HC hb
  clear hb HB HBB HZ HSZ HK1 HBW
  have hmm := @run_makeMap Tryd.prog
  have kLaw := Maps.int_keyed Tryd.underlying3
  go_wp2_with (first
    | (refine wpList_insert_own _ rfl _ _ _ 31 rfl 3 23 kLaw Tryd.underlying31 fnR _ 0 (.map []) rfl (World.ownsMap_made _ _ _ _) (by unfold maxLen; omega) (.int .i64 4) (fnV 12) (.int .i64 4) rfl rfl (Maps.keyOf_int_mk Tryd.underlying3 (by decide)) _ [] fnR4 ?_; intro w3 hown1 hg1)
    | (refine wpList_insert_own _ rfl _ _ _ 31 rfl 3 23 kLaw Tryd.underlying31 fnR _ 1 _ rfl hown1 (by unfold maxLen; omega) (.int .i64 6) (fnV 14) (.int .i64 6) rfl rfl (Maps.keyOf_int_mk Tryd.underlying3 (by decide)) _ [] fnR6 ?_; intro w4 hown2 hg2)
    | (refine wpList_insert_own _ rfl _ _ _ 31 rfl 3 23 kLaw Tryd.underlying31 fnR _ 2 _ rfl hown2 (by unfold maxLen; omega) (.int .i64 30) (fnV 10) (.int .i64 30) rfl rfl (Maps.keyOf_int_mk Tryd.underlying3 (by decide)) _ [] fnR30 ?_; intro w5 hown3 hg3)
    | (at_range; refine wpList_range_own _ rfl _ 31 rfl 3 23 kLaw Tryd.underlying31 _ _ 3 fnD rfl (fnD_eq ▸ hown3) ?_; intro w6 hrg0 hg4 hs4)
    | fail)
  go_frame
  have hb6 : Hid (Below _ _ w6) := Lib.hid (((((Below.refl _ _).alloc (Nat.le_refl _) (.map #[] 0)).grown hg1 (by simp) (fun j hj => by cases hj; exact Nat.le_refl _)).grown hg2 (Nat.le_trans (by simp) hg1.size) (fun j hj => by cases hj; exact Nat.le_refl _)).grown hg3 (Nat.le_trans (Nat.le_trans (by simp) hg1.size) hg2.size) (fun j hj => by cases hj; exact Nat.le_refl _) |>.grown hg4 (Nat.le_trans (Nat.le_trans (Nat.le_trans (by simp) hg1.size) hg2.size) hg3.size) (fun j hj => by cases hj))
  have hr6 := Nat.le_trans HC.out.1.size (Nat.le_trans (Nat.le_trans (Nat.le_trans (show _ ≤ (World.alloc _ (.map #[] 0)).heap.size by simp) hg1.size) hg2.size) hg3.size)
  replace HC := Ns.hbl HC hb6.out
  have HRG := Lib.hid hrg0
  have HR6 := Lib.hid hr6
  clear hb6 hg1 hg2 hg3 hg4 hs4 hown1 hown2 hown3 hmm hrg0 hr6
  generalize wc.heap.size = bb at *
  generalize w5.heap.size = rr at *
  have HCV := Lib.hid hcv
  clear hcv
  go_loopw [16] (fun _ wr => ∃ left cnt, Hid (wr.ranges Tryd.prog 3 fnR bb rr 3 fnD left cnt) ∧ Hid (Ns W0 wr)) (fun _ wr => wr.rangeLeft bb rr)
  case atStart => exact ⟨_, _, HRG, HC⟩
  case round =>
    obtain ⟨left, cnt, hrg, HC⟩ := hrel
    go_wp2_with (first
      | (at_next; refine wpList_next_ranges _ rfl _ rfl 3 kLaw fnR (Value.int .i64) fnV (fun key kl hkey => by obtain ⟨x, rfl, _⟩ := Maps.keyOf_int_inv Tryd.underlying3 hkey; exact ⟨x, rfl⟩) fnR_inv bb rr 3 fnD _ _ rfl hrg.out ?_ ?_)
      | fail)
    · intro hc0 hl0
      go_wp2_with fail
      refine (works7_s HC).mono ?_; rintro e w8 ⟨rfl, HC⟩
      go_wp2
      go_ret
      exact ⟨rfl, HC.out.1⟩
    · intro y F kl z1 z2 w7 cnt7 hkey hlk hR hat hrg1 hlt hg1 hs1 hen
      obtain ⟨y', e1, e2, _⟩ := Maps.keyOf_int_inv Tryd.underlying3 hkey
      cases e1
      subst e2
      obtain ⟨m, rfl, hm, hF, HK⟩ := kindF y F (fnD_at y (z1, z2) F hat hR)
      have hb7 : Below W0.heap.size W0 w7 := HC.out.1.grown hg1 HC.out.1.size (fun j hj => by cases hj; exact HR6.out)
      have hkd : KdW w7 := HT0.out.bl hb7
      replace HC : Hid (Ns W0 w7) := Lib.hid ⟨hb7, hkd⟩
      have HRG1 := Lib.hid hrg1
      have HGT := Lib.hid (show w7.rangeLeft bb rr < wr.rangeLeft bb rr by rw [hrg1.left_eq, hrg.out.left_eq]; exact hlt)
      obtain ⟨L, hL⟩ : ∃ L, Lx.bs (Nm.letS zs 3 m) = L := ⟨_, rfl⟩
      have hLd : Nm.letS zs 3 m = L.data.toList := by rw [← hL, Lx.data_bs]
      have hLn := Nm.letS_len zs 3 m
      have hLa := Nm.letS_all zs 3 m
      rw [hLd] at hLn hLa
      have hLz : L.data.toList.length = L.size := by simp
      rw [hLz] at hLn
      have hL3 : 3 ≤ L.size := by omega
      have hLm : L.size ≤ m := by omega
      have hm30 : m ≤ 30 := by omega
      obtain ⟨i, hi⟩ : ∃ i : Nat, x % (L.size : Int) = (i : Int) := ⟨(x % (L.size : Int)).toNat, by have := Int.emod_nonneg x (show (L.size : Int) ≠ 0 by omega); omega⟩
      have hi1 : i < L.size := by have := Int.emod_lt_of_pos x (show (0 : Int) < L.size by omega); omega
      have hkl := Nm.nk_letters m hm L.data.toList (by omega) (by omega) hLa
      have hkc := Nm.nk_chg m hm L.data.toList i c (by omega) (by omega) (by omega) hLa
      obtain ⟨bF, HF⟩ : ∃ b, Hid ((Nm.isL c || (decide (m = 30 ∧ 0 < i) && (Nm.isG c || c == 95 || c == 45))) = b) := ⟨_, Lib.hid rfl⟩
      rw [HF.out] at hkc
      have HKL := Lib.hid hkl
      have HKC := Lib.hid hkc
      have HLS := Lib.hid hL
      have HI1 := Lib.hid hi1
      have HLM := Lib.hid (show L.size ≤ 1000 by omega)
      have HM3 := Lib.hid hm
      have hm0 : (0 : Int) ≤ (m : Int) := by omega
      have hL0 : (0 : Int) < (L.size : Int) := by omega
      have hL1 : (L.size : Int) ≤ 30 := by omega
      have hi0 : (0 : Int) ≤ (i : Int) := by omega
      have hi2 : (i : Int) < (L.size : Int) := by omega
      have HM10 := Lib.hid (show m ≤ 1000 by omega)
      unfold fnV at hen
      clear hkey hlk hR hat hrg1 hlt hg1 hs1 hb7 hkd hL hLd hLn hLa hLz hL3 hLm hkl hkc hi1 hrg hm30 hm
      go_wp2_with fail
      refine (letters7_s u zs HZS.out _ _ 3 m rfl rfl HM10.out (by decide) L HLS (HJ.out.bl HC.out.1) HC).mono ?_; rintro e w8 ⟨rfl, rfl, HC⟩
      go_upto_region 14 with fail
      go_cut [19] (fun s19 wx => s19 = .int .i64 i ∧ w7 = wx)
      case first =>
        go_wp2_with fail
        go_meet
        exact ⟨by first | rfl | rw [hi], rfl⟩
      case rest =>
      obtain ⟨rfl, rfl⟩ := hcut
      have hcw := HCV.out w7.heap.size
      have hq3 : ¬ 9223372036854775807 < (L.extract 0 i).size + 1 := by rw [ByteArray.size_extract]; omega
      have hq4 : ¬ 9223372036854775807 < (L.extract 0 i).size + 1 + (L.extract (i + 1) L.size).size := by rw [ByteArray.size_extract, ByteArray.size_extract]; omega
      clear hi
      go_wp2_with fail
      go_region
      replace HC := Ns.hdr (Ns.hal HC (.cells #[.int .u8 (c.toNat : Int)] 5))
      have HRG2 : Hid (((w7.alloc (.cells #[.int .u8 (c.toNat : Int)] 5)).drew).ranges Tryd.prog 3 fnR bb rr 3 fnD (fun z => left z && !z.sameKey (.int .i64 (m : Int))) cnt7) := Lib.hid (HRG1.out.alloc _)
      have HGT2 : Hid ((w7.alloc (.cells #[.int .u8 (c.toNat : Int)] 5)).drew.rangeLeft bb rr < wr.rangeLeft bb rr) := Lib.hid (by rw [HRG2.out.left_eq, ← HRG1.out.left_eq]; exact HGT.out)
      have HB : Hid (Nm.chg L.data.toList i c = (L.extract 0 i ++ ⟨#[c]⟩ ++ L.extract (i + 1) L.size).data.toList) := Lib.hid (Nm.chg_bs L i c).symm
      have HES : Hid ((L.extract 0 i ++ ⟨#[c]⟩ ++ L.extract (i + 1) L.size).size ≤ 1000) := Lib.hid (by
        have h1 := congrArg List.length HB.out
        rw [Nm.chg_len _ _ _ (by have := HI1.out; simpa using this)] at h1
        rw [Lib.size_eq, ← h1]; have := HLM.out; simpa using this)
      clear hcw hq3 hq4 HRG1 HGT hen
      generalize (w7.alloc (.cells #[.int .u8 (c.toNat : Int)] 5)).drew = w9 at *
      generalize L.extract 0 i ++ ⟨#[c]⟩ ++ L.extract (i + 1) L.size = E2 at *
      go_upto_region 16 with fail
      go_cut [21] (fun s21 wx => s21 = .bool bF ∧ w9 = wx)
      case first =>
        have hw := HF.out
        rw [HL.out, HG.out] at hw
        have HW := Lib.hid hw
        clear hw
        cases bL with
        | true =>
          go_wp2_with fail
          go_meet
          exact ⟨by rw [← HW.out]; rfl, rfl⟩
        | false =>
        by_cases h30 : m = 30
        case neg =>
          have y0 : ((m : Int) == 30) = false := by simp; omega
          have HBF : Hid (bF = false) := Lib.hid (by rw [← HW.out]; simp [h30])
          clear h30
          go_wp2_with fail
          go_meet
          exact ⟨by rw [HBF.out], rfl⟩
        have y0 : ((m : Int) == 30) = true := by simp; omega
        by_cases hi0' : 0 < i
        case neg =>
          have y1 : ¬ (0 : Int) < (i : Int) := by omega
          have HBF : Hid (bF = false) := Lib.hid (by rw [← HW.out]; simp [hi0'])
          clear h30 hi0'
          go_wp2_with fail
          go_meet
          exact ⟨by rw [HBF.out], rfl⟩
        have y1 : (0 : Int) < (i : Int) := by omega
        have HW2 : Hid ((bG || c == 95 || c == 45) = bF) := Lib.hid (by rw [← HW.out, decide_eq_true ⟨h30, hi0'⟩]; rfl)
        clear h30 hi0' HW
        cases bG with
        | true =>
          go_wp2_with fail
          go_meet
          exact ⟨by rw [← HW2.out]; rfl, rfl⟩
        | false =>
        by_cases h95 : c = 95
        · have z0 : ((c.toNat : Int) == 95) = true := Nm.byte_eq (n := 95) (by rw [h95]; rfl) (by omega)
          have HBF : Hid (bF = true) := Lib.hid (by rw [← HW2.out, h95]; rfl)
          clear h95
          go_wp2_with fail
          go_meet
          exact ⟨by rw [HBF.out], rfl⟩
        have z0 : ((c.toNat : Int) == 95) = false := Nm.byte_ne (n := 95) h95 (by omega)
        by_cases h45 : c = 45
        · have z1 : ((c.toNat : Int) == 45) = true := Nm.byte_eq (n := 45) (by rw [h45]; rfl) (by omega)
          have HBF : Hid (bF = true) := Lib.hid (by rw [← HW2.out, h45]; rfl)
          clear h95 h45
          go_wp2_with fail
          go_meet
          exact ⟨by rw [HBF.out], rfl⟩
        have z1 : ((c.toNat : Int) == 45) = false := Nm.byte_ne (n := 45) h45 (by omega)
        have HBF : Hid (bF = false) := Lib.hid (by rw [← HW2.out]; simp [h95, h45])
        clear h95 h45
        go_wp2_with fail
        go_meet
        exact ⟨by rw [HBF.out], rfl⟩
      case rest =>
      obtain ⟨rfl, rfl⟩ := hcut
      have hff : (bF == bF) = true := beq_rr bF
      have HK2 := Lib.hid HK
      clear HK
      go_wp2_with (go_at_fn F; first | (refine (HK2.out L true _ HLM.out HKL.out HC.out.2).mono ?_; rintro e w10 ⟨rfl, hb10⟩) | (refine (HK2.out E2 bF _ HES.out (HB.out ▸ HKC.out) (HC.out.2.bl hb10)).mono ?_; rintro e w11 ⟨rfl, hb11⟩))
      have hrgE := (HRG2.out.kept (grown_bl hb10 none) (by simp) (by simp)).kept (grown_bl hb11 none) (by simp) (by simp)
      refine ⟨⟨_, _, Lib.hid hrgE, Ns.hbl (Ns.hbl HC hb10) hb11⟩, ?_⟩
      rw [hrgE.left_eq, ← HRG2.out.left_eq]
      exact HGT2.out
end Go.Proofs.YtndpoijmkdephaaDoor
