/- Package name: the other closures, all, and the four functions. -/
import Derived.Test.YtndpoijmkdephaaDoorNa
import Derived.Shelf.Abstract
namespace Go.Proofs.YtndpoijmkdephaaDoor
open Go.RowKit
theorem sst_any (c : UInt8) (k : Nat) (hk : k < 1000000000000) (r : Bool) (k2 : Nat) (hr : Nm.sst k c = (r, k2)) (b : Nat) (hb : b ≠ 0) (w : World) (hK : KdW w) (hA : w.heap[b]? = some (.cells #[.int .i64 (k : Int)] 3 (0, 0))) :
    Calls Tryd.prog 39 #[.int .u8 (c.toNat : Int), .pointer (some ⟨b, 0, none⟩)] w fun e w' => e = .returned (.bool r) ∧ w.setCell ⟨b, 0, none⟩ (.int .i64 (k2 : Int)) = w' := by
  have cA := cell_of_one hA
  have fA := free_of_one hA
  have HA := Lib.hid hA
  have HK := Lib.hid hK
  unfold Nm.sst at hr
  have hc := c.toNat_lt
  have hc0 : (0 : Int) ≤ (c.toNat : Int) := by omega
  have hc1 : (c.toNat : Int) < 256 := by omega
  clear hA hK hc
  have ec : (.int .i64 ((k + 1 : Nat) : Int) : Value) = .int .i64 ((k : Int) + 1) := by rw [Int.natCast_add]; rfl
  have rA := one_setCell (u := .int .i64 ((k : Int) + 1)) HA.out
  have cA2 := cell_of_one rA
  have HK2 := Lib.hid (HK.out.set (o := 0) (.int .i64 ((k : Int) + 1)) hb)
  clear rA
  by_cases h0 : k = 0
  · rw [if_pos h0] at hr
    obtain ⟨h2, rfl⟩ := Prod.mk.inj hr
    have HR := Lib.hid h2
    subst h0
    clear hr h2
    go_enter Tryd.func39, Tryd.ntmps39
    go_wp2_with fail
    refine (is_any c 1 (by simp) r HR.out _ HK2.out).mono ?_
    rintro e w1 ⟨rfl, rfl⟩
    go_wp2
    go_ret
    exact ⟨rfl, rfl⟩
  · rw [if_neg h0] at hr
    obtain ⟨h2, rfl⟩ := Prod.mk.inj hr
    have h3 : ((k : Int) + 1 == 1) = false := by simp; omega
    rw [ec]
    clear hr h0 ec
    by_cases h14 : k + 1 ≤ 30
    · have h4 : (k : Int) + 1 ≤ 30 := by omega
      rw [decide_eq_true h14, Bool.true_and] at h2
      have HR := Lib.hid h2
      clear h2 h14
      go_enter Tryd.func39, Tryd.ntmps39
      go_wp2_with fail
      refine (is_any c 15 (by simp) r HR.out _ HK2.out).mono ?_
      rintro e w1 ⟨rfl, rfl⟩
      go_wp2
      go_ret
      exact ⟨rfl, rfl⟩
    · have h4 : ¬ (k : Int) + 1 ≤ 30 := by omega
      rw [decide_eq_false h14, Bool.false_and] at h2
      subst h2
      clear h14
      go_enter Tryd.func39, Tryd.ntmps39
      go_wp2
      go_ret
      exact ⟨rfl, rfl⟩
theorem lst_any (m : Nat) (c : UInt8) (k : Nat) (hk : k < 1000000000000) (r : Bool) (k2 : Nat) (hr : Nm.lst m k c = (r, k2)) (b b2 : Nat) (hb : b ≠ 0) (hne : b2 ≠ b) (w : World) (hK : KdW w) (hA : w.heap[b]? = some (.cells #[.int .i64 (k : Int)] 3 (0, 0))) (hM : w.cell? ⟨b2, 0, none⟩ = some (.int .i64 (m : Int))) :
    Calls Tryd.prog 40 #[.int .u8 (c.toNat : Int), .pointer (some ⟨b, 0, none⟩), .pointer (some ⟨b2, 0, none⟩)] w fun e w' => e = .returned (.bool r) ∧ w.setCell ⟨b, 0, none⟩ (.int .i64 (k2 : Int)) = w' := by
  have cA := cell_of_one hA
  have fA := free_of_one hA
  have HA := Lib.hid hA
  have HK := Lib.hid hK
  unfold Nm.lst at hr
  have hc := c.toNat_lt
  have hc0 : (0 : Int) ≤ (c.toNat : Int) := by omega
  have hc1 : (c.toNat : Int) < 256 := by omega
  have ec : (.int .i64 ((k + 1 : Nat) : Int) : Value) = .int .i64 ((k : Int) + 1) := by rw [Int.natCast_add]; rfl
  have rA := one_setCell (u := .int .i64 ((k : Int) + 1)) HA.out
  have cA2 := cell_of_one rA
  have HK2 := Lib.hid (HK.out.set (o := 0) (.int .i64 ((k : Int) + 1)) hb)
  have cM2 : (w.setCell ⟨b, 0, none⟩ (.int .i64 ((k : Int) + 1))).cell? ⟨b2, 0, none⟩ = some (.int .i64 (m : Int)) := cell_set hM hne
  obtain ⟨h2, rfl⟩ := Prod.mk.inj hr
  rw [ec]
  clear rA hA hK hc hr ec hM
  by_cases h14 : k + 1 ≤ m
  · have h4 : (k : Int) + 1 ≤ (m : Int) := by omega
    rw [decide_eq_true h14, Bool.true_and] at h2
    have HR := Lib.hid h2
    clear h2 h14
    go_enter Tryd.func40, Tryd.ntmps40
    go_wp2_with fail
    refine (is_any c 1 (by simp) r HR.out _ HK2.out).mono ?_
    rintro e w1 ⟨rfl, rfl⟩
    go_wp2
    go_ret
    exact ⟨rfl, rfl⟩
  · have h4 : ¬ (k : Int) + 1 ≤ (m : Int) := by omega
    rw [decide_eq_false h14, Bool.false_and] at h2
    subst h2
    clear h14
    go_enter Tryd.func40, Tryd.ntmps40
    go_wp2
    go_ret
    exact ⟨rfl, rfl⟩
/-- all goes through a string with a closure that counts -/
theorem all_any (s : ByteArray) (hs : s.size ≤ 100000000000) (F : FuncId) (hF : ∀ args w, (callFunc F args).run Tryd.prog w = .ok (.enter F args) w) (caps : Array Value) (st : Nat → UInt8 → Bool × Nat) (hst : ∀ k c, (st k c).2 ≤ k + 1) (St : Nat → World → Prop)
    (hc : ∀ (k : Nat) (c : UInt8) (wx : World), k < 1000000000000 → St k wx → Calls Tryd.prog F (#[.int .u8 (c.toNat : Int)] ++ caps) wx fun e w' => e = .returned (.bool (st k c).1) ∧ St (st k c).2 w')
    (r : Bool) (k2 : Nat) (hr : Nm.run st 0 s.data.toList = (r, k2)) (w : World) (h0 : St 0 w) :
    Calls Tryd.prog 22 #[.string s, .func (.func F) #[] caps] w fun e w' => e = .returned (.bool r) ∧ St k2 w' := by
  have HC := Lib.hid hc
  have HST := Lib.hid hst
  have HR := Lib.hid hr
  have H0 := Lib.hid h0
  clear hc hst hr h0
  go_enter Tryd.func22, Tryd.ntmps22
  go_wp2
  go_loopw [8] (fun i wr => ∃ k : Nat, k ≤ s.size ∧ i = .int .i64 k ∧ (Nm.run st 0 (s.data.toList.take k)).1 = true ∧ (Nm.run st 0 (s.data.toList.take k)).2 ≤ k ∧ St (Nm.run st 0 (s.data.toList.take k)).2 wr) (fun i _ => s.size - (intOf i).toNat)
  case atStart => exact ⟨0, by omega, rfl, rfl, Nat.le_refl _, H0.out⟩
  case round =>
    obtain ⟨k, hk, rfl, h1, h2, h3⟩ := hrel
    have HT := Lib.hid h1
    have HS := Lib.hid h3
    by_cases hks : k < s.size
    · have hsn : s.data.toList.take (k + 1) = s.data.toList.take k ++ [s[k]] := by
        have : s.data.toList.length = s.size := by simp
        rw [List.take_succ_eq_append_getElem (by omega)]
        rfl
      have hrn := Nm.run_snoc st 0 (s.data.toList.take k) s[k] h1
      rw [← hsn] at hrn
      have hcall := HC.out (Nm.run st 0 (s.data.toList.take k)).2 s[k] wr (by omega) h3
      have hle := HST.out (Nm.run st 0 (s.data.toList.take k)).2 s[k]
      have HN := Lib.hid hrn
      have HLE := Lib.hid (show (st (Nm.run st 0 (s.data.toList.take k)).2 s[k]).2 ≤ k + 1 by omega)
      have HCA := Lib.hid hcall
      have hk0 : (0 : Int) ≤ (k : Int) := by omega
      have hk1 : (k : Int) < (s.size : Int) := by omega
      clear h1 h2 h3 hsn hrn hcall hle
      cases hb : (st (Nm.run st 0 (s.data.toList.take k)).2 s[k]).1 with
      | true =>
        have HB := Lib.hid hb
        have HCB : Hid (Calls Tryd.prog F (#[.int .u8 (s[k].toNat : Int)] ++ caps) wr fun e w' => e = .returned (.bool true) ∧ St (st (Nm.run st 0 (s.data.toList.take k)).2 s[k]).2 w') := Lib.hid (by have := HCA.out; rwa [hb] at this)
        clear hb HCA
        go_wp2_with (go_at_fn F; refine HCB.out.mono ?_; rintro e w1 ⟨rfl, h3⟩)
        go_roundw
        case rel =>
          refine ⟨k + 1, by omega, by go_num, ?_, ?_, ?_⟩
          · rw [HN.out]; exact HB.out
          · rw [HN.out]; exact HLE.out
          · rw [HN.out]; exact h3
        case measure => simp [intOf]; omega
      | false =>
        have HB := Lib.hid hb
        have HCB : Hid (Calls Tryd.prog F (#[.int .u8 (s[k].toNat : Int)] ++ caps) wr fun e w' => e = .returned (.bool false) ∧ St (st (Nm.run st 0 (s.data.toList.take k)).2 s[k]).2 w') := Lib.hid (by have := HCA.out; rwa [hb] at this)
        have hfin : Nm.run st 0 s.data.toList = (false, (st (Nm.run st 0 (s.data.toList.take k)).2 s[k]).2) := by
          have := Nm.run_append st 0 (s.data.toList.take (k + 1)) (s.data.toList.drop (k + 1))
          rw [List.take_append_drop, HN.out, hb, if_neg (by decide)] at this
          rw [this]
          exact Prod.ext hb rfl
        rw [HR.out] at hfin
        obtain ⟨rfl, rfl⟩ := Prod.mk.inj hfin
        clear hb HCA hfin
        go_wp2_with (go_at_fn F; refine HCB.out.mono ?_; rintro e w1 ⟨rfl, h3⟩)
        go_ret
        exact ⟨rfl, h3⟩
    · have hke : k = s.size := by omega
      have hall : s.data.toList.take k = s.data.toList := List.take_of_length_le (by simp; omega)
      rw [hall, HR.out] at h1 h3
      simp only at h1 h3
      have H3 := Lib.hid h3
      subst h1 hke
      clear h2 h3 hall HT HS
      go_wp2
      go_ret
      exact ⟨rfl, H3.out⟩
/-- the state between two bytes: one number in a block of its own -/
def Cnt (W0 : World) (b : Nat) (k : Nat) (w : World) : Prop := Below W0.heap.size W0 w ∧ w.heap[b]? = some (.cells #[.int .i64 (k : Int)] 3 (0, 0))
theorem kd_lt {w : World} (h : KdW w) : 0 < w.heap.size := cell_lt (h 0 (by omega))
theorem Cnt.set {W0 w : World} {b k : Nat} (h : Cnt W0 b k w) (hb : W0.heap.size ≤ b) (k2 : Nat) : Cnt W0 b k2 (w.setCell ⟨b, 0, none⟩ (.int .i64 (k2 : Int))) :=
  ⟨h.1.setCell hb _, one_setCell h.2⟩
theorem Cnt.kd {W0 w : World} {b k : Nat} (h : Cnt W0 b k w) (hK : KdW W0) : KdW w := hK.bl h.1
theorem enters_zone (args : Array Value) (w : World) : (callFunc 37 args).run Tryd.prog w = .ok (.enter 37 args) w := enters_of Tryd.func37 (by kernel_rfl) rfl args w
theorem enters_set (args : Array Value) (w : World) : (callFunc 39 args).run Tryd.prog w = .ok (.enter 39 args) w := enters_of Tryd.func39 (by kernel_rfl) rfl args w
theorem enters_lets (args : Array Value) (w : World) : (callFunc 40 args).run Tryd.prog w = .ok (.enter 40 args) w := enters_of Tryd.func40 (by kernel_rfl) rfl args w
theorem zst_le (k : Nat) (c : UInt8) : (Nm.zst k c).2 ≤ k + 1 := by
  unfold Nm.zst; repeat' split
  all_goals (simp only; omega)
theorem sst_le (k : Nat) (c : UInt8) : (Nm.sst k c).2 ≤ k + 1 := by
  unfold Nm.sst; repeat' split
  all_goals (simp only; omega)
theorem mk_zone (w : World) : Calls Tryd.prog 21 #[] w fun e w' => e = .returned (.func (.func 37) #[] #[.pointer (some ⟨w.heap.size, 0, none⟩)]) ∧ w.alloc (.cells #[.int .i64 0] 3) = w' := by
  go_enter Tryd.func21, Tryd.ntmps21
  go_wp2
  go_ret
  exact ⟨rfl, rfl⟩
theorem mk_set (w : World) : Calls Tryd.prog 24 #[] w fun e w' => e = .returned (.func (.func 39) #[] #[.pointer (some ⟨w.heap.size, 0, none⟩)]) ∧ w.alloc (.cells #[.int .i64 0] 3) = w' := by
  go_enter Tryd.func24, Tryd.ntmps24
  go_wp2
  go_ret
  exact ⟨rfl, rfl⟩
theorem nzone_any (s : ByteArray) (r : Bool) (hr : Nm.zone s.data.toList = r) (w : World) (hK : KdW w) :
    Calls Tryd.prog 8 #[.string s] w fun e w' => e = .returned (.bool r) ∧ Below w.heap.size w w' := by
  have hg := kd_lt hK
  have hsz : s.data.toList.length = s.size := by simp
  unfold Nm.zone Nm.zr at hr
  have H0 : Hid (Cnt w w.heap.size 0 (w.alloc (.cells #[.int .i64 0] 3))) := Lib.hid ⟨(Below.refl _ _).alloc (Nat.le_refl _) _, row_new rfl⟩
  have HK := Lib.hid hK
  clear hK
  by_cases h60 : s.size ≤ 60
  · have h61 : (s.size : Int) ≤ 60 := by omega
    rw [hsz, decide_eq_true h60, Bool.true_and] at hr
    obtain ⟨⟨r1, k1⟩, hrun⟩ : ∃ x, Nm.run Nm.zst 0 s.data.toList = x := ⟨_, rfl⟩
    rw [hrun] at hr
    simp only at hr
    have hk1 : k1 < 1000000000000 := by
      have : ∀ (l : List UInt8) (k : Nat), (Nm.run Nm.zst k l).2 ≤ k + l.length := by
        intro l
        induction l with
        | nil => intro k; exact Nat.le_refl _
        | cons c l ih =>
          intro k
          have h1 := zst_le k c
          rw [Nm.run]
          split
          · have := ih (Nm.zst k c).2; simp; omega
          · simp; omega
      have := this s.data.toList 0
      rw [hrun, hsz] at this
      simp at this
      omega
    have hall := fun wx hx => all_any s (by omega) _ enters_zone #[.pointer (some ⟨w.heap.size, 0, none⟩)] Nm.zst zst_le (Cnt w w.heap.size) (fun k c wx hk hs => (zst_any c k hk _ _ rfl w.heap.size (by omega) wx (hs.kd HK.out) hs.2).mono fun _ _ ⟨he, hw⟩ => ⟨he, hw ▸ hs.set (Nat.le_refl _) _⟩) r1 k1 hrun wx hx
    have HA := Lib.hid hall
    clear hall
    cases r1 with
    | false =>
      rw [Bool.false_and] at hr
      subst hr
      clear hsz hrun hg hk1
      go_enter Tryd.func8, Tryd.ntmps8
      go_wp2_with fail
      refine (mk_zone _).mono ?_; rintro e w1 ⟨rfl, rfl⟩
      go_wp2_with fail
      refine (HA.out _ H0.out).mono ?_; rintro e w2 ⟨rfl, h2⟩
      have HB := Lib.hid h2
      clear h2
      go_wp2
      go_ret
      exact ⟨rfl, HB.out.1⟩
    | true =>
      rw [Bool.true_and] at hr
      have hz : Nm.zst k1 47 = (r, 0) := by unfold Nm.zst; rw [if_pos rfl, hr]
      have hlast := fun wx (hs : Cnt w w.heap.size k1 wx) => (zst_any 47 k1 hk1 r 0 hz w.heap.size (by omega) wx (hs.kd HK.out) hs.2).mono fun e w' (h : e = .returned (.bool r) ∧ _) => (⟨h.1, h.2 ▸ hs.set (Nat.le_refl _) 0⟩ : e = .returned (.bool r) ∧ Cnt w w.heap.size 0 w')
      have HL := Lib.hid hlast
      clear hsz hrun hg hk1 hr hz hlast
      go_enter Tryd.func8, Tryd.ntmps8
      go_wp2_with fail
      refine (mk_zone _).mono ?_; rintro e w1 ⟨rfl, rfl⟩
      go_wp2_with fail
      refine (HA.out _ H0.out).mono ?_; rintro e w2 ⟨rfl, h2⟩
      have HB := Lib.hid h2
      clear h2
      go_wp2_with fail
      refine (HL.out _ HB.out).mono ?_; rintro e w3 ⟨rfl, h2⟩
      replace HB := Lib.hid h2
      clear h2
      go_wp2
      go_ret
      exact ⟨rfl, HB.out.1⟩
  · have h61 : ¬ (s.size : Int) ≤ 60 := by omega
    rw [hsz, decide_eq_false h60, Bool.false_and] at hr
    subst hr
    clear hsz hg
    go_enter Tryd.func8, Tryd.ntmps8
    go_wp2_with fail
    refine (mk_zone _).mono ?_; rintro e w1 ⟨rfl, rfl⟩
    go_wp2
    go_ret
    exact ⟨rfl, H0.out.1⟩
theorem nset_any (s : ByteArray) (hs : s.size ≤ 100000000000) (r : Bool) (hr : Nm.set s.data.toList = r) (w : World) (hK : KdW w) :
    Calls Tryd.prog 10 #[.string s] w fun e w' => e = .returned (.bool r) ∧ Below w.heap.size w w' := by
  have hg := kd_lt hK
  have hsz : s.data.toList.length = s.size := by simp
  unfold Nm.set at hr
  have H0 : Hid (Cnt w w.heap.size 0 (w.alloc (.cells #[.int .i64 0] 3))) := Lib.hid ⟨(Below.refl _ _).alloc (Nat.le_refl _) _, row_new rfl⟩
  have HK := Lib.hid hK
  clear hK
  by_cases h0 : s.data.toList = []
  · have hee : s.toList.isEmpty = true := by rw [ByteArray.toList_eq, h0]; rfl
    rw [h0] at hr
    have hr2 : r = false := by rw [← hr]; rfl
    subst hr2
    clear hr h0 hsz hg
    go_enter Tryd.func10, Tryd.ntmps10
    go_wp2
    go_ret
    exact ⟨rfl, Below.refl _ _⟩
  · have hee : s.toList.isEmpty = false := by rw [ByteArray.toList_eq]; simpa using h0
    have h1 : 0 < s.size := by rw [← hsz]; exact List.length_pos_iff.2 h0
    rw [hsz, decide_eq_true h1, Bool.true_and] at hr
    obtain ⟨⟨r1, k1⟩, hrun⟩ : ∃ x, Nm.run Nm.sst 0 s.data.toList = x := ⟨_, rfl⟩
    rw [hrun] at hr
    simp only at hr
    subst hr
    have hall := fun wx hx => all_any s hs _ enters_set #[.pointer (some ⟨w.heap.size, 0, none⟩)] Nm.sst sst_le (Cnt w w.heap.size) (fun k c wx hk hs => (sst_any c k hk _ _ rfl w.heap.size (by omega) wx (hs.kd HK.out) hs.2).mono fun _ _ ⟨he, hw⟩ => ⟨he, hw ▸ hs.set (Nat.le_refl _) _⟩) r1 k1 hrun wx hx
    have HA := Lib.hid hall
    clear hall hsz hrun hg h0 h1
    go_enter Tryd.func10, Tryd.ntmps10
    go_wp2_with fail
    refine (mk_set _).mono ?_; rintro e w1 ⟨rfl, rfl⟩
    go_wp2_with fail
    refine (HA.out _ H0.out).mono ?_; rintro e w2 ⟨rfl, h2⟩
    have HB := Lib.hid h2
    clear h2
    go_wp2
    go_ret
    exact ⟨rfl, HB.out.1⟩
theorem mk_lets (m : Int) (w : World) : Calls Tryd.prog 27 #[.int .i64 m] w fun e w' => e = .returned (.func (.func 40) #[] #[.pointer (some ⟨w.heap.size + 1, 0, none⟩), .pointer (some ⟨w.heap.size, 0, none⟩)]) ∧ (w.alloc (.cells #[.int .i64 m] 3)).alloc (.cells #[.int .i64 0] 3) = w' := by
  go_enter Tryd.func27, Tryd.ntmps27
  go_wp2
  go_ret
  exact ⟨rfl, rfl⟩
/-- the state between two bytes: one number in a block of its own, and the most beside it -/
def Cnm (m : Nat) (W0 : World) (k : Nat) (w : World) : Prop := (Below W0.heap.size W0 w ∧ w.heap[W0.heap.size + 1]? = some (.cells #[.int .i64 (k : Int)] 3 (0, 0))) ∧ w.cell? ⟨W0.heap.size, 0, none⟩ = some (.int .i64 (m : Int))
theorem Cnm.set {m : Nat} {W0 w : World} {k : Nat} (h : Cnm m W0 k w) (k2 : Nat) : Cnm m W0 k2 (w.setCell ⟨W0.heap.size + 1, 0, none⟩ (.int .i64 (k2 : Int))) :=
  ⟨⟨h.1.1.setCell (p := ⟨W0.heap.size + 1, 0, none⟩) (Nat.le_succ _) _, one_setCell h.1.2⟩, cell_set h.2 (show W0.heap.size ≠ W0.heap.size + 1 by omega)⟩
theorem cnm_0 (m : Nat) (w : World) : Cnm m w 0 ((w.alloc (.cells #[.int .i64 (m : Int)] 3)).alloc (.cells #[.int .i64 0] 3)) :=
  ⟨⟨((Below.refl _ _).alloc (Nat.le_refl _) _).alloc (Nat.le_trans (Nat.le_succ _) (by simp)) _, row_new (by simp)⟩, cell_al (new_cell _ _ _ _ _ rfl)⟩
theorem lets_all (m : Nat) (s : ByteArray) (hs : s.size ≤ 100000000000) (r : Bool) (hr : (Nm.run (Nm.lst m) 0 s.data.toList).1 = r) (W0 w : World) (hK : KdW W0) (h0 : Cnm m W0 0 w) :
    Calls Tryd.prog 22 #[.string s, .func (.func 40) #[] #[.pointer (some ⟨W0.heap.size + 1, 0, none⟩), .pointer (some ⟨W0.heap.size, 0, none⟩)]] w fun e w' => e = .returned (.bool r) ∧ Below W0.heap.size W0 w' := by
  have hg := kd_lt hK
  refine (all_any s hs _ enters_lets #[.pointer (some ⟨W0.heap.size + 1, 0, none⟩), .pointer (some ⟨W0.heap.size, 0, none⟩)] (Nm.lst m) (fun k c => Nat.le_refl _) (Cnm m W0) (fun k c wx hk hs => (lst_any m c k hk _ _ rfl (W0.heap.size + 1) W0.heap.size (by omega) (by omega) wx (hK.bl hs.1.1) hs.1.2 hs.2).mono fun _ _ ⟨he, hw⟩ => ⟨he, hw ▸ hs.set _⟩) r (Nm.run (Nm.lst m) 0 s.data.toList).2 (Prod.ext hr rfl) w h0).mono ?_
  rintro e w' ⟨he, h⟩
  exact ⟨he, h.1.1⟩
theorem nletter_any (s : ByteArray) (hs : s.size ≤ 100000000000) (r : Bool) (hr : Nm.lets 1 4 s.data.toList = r) (w : World) (hK : KdW w) :
    Calls Tryd.prog 12 #[.string s] w fun e w' => e = .returned (.bool r) ∧ Below w.heap.size w w' := by
  have hsz : s.data.toList.length = s.size := by simp
  unfold Nm.lets at hr
  have HK := Lib.hid hK
  have H0 := Lib.hid (cnm_0 4 w)
  clear hK
  by_cases h0 : s.data.toList = []
  · have hee : s.toList.isEmpty = true := by rw [ByteArray.toList_eq, h0]; rfl
    rw [h0] at hr
    have hr2 : r = false := by rw [← hr]; rfl
    subst hr2
    clear hr h0 hsz
    go_enter Tryd.func12, Tryd.ntmps12
    go_wp2
    go_ret
    exact ⟨rfl, Below.refl _ _⟩
  · have hee : s.toList.isEmpty = false := by rw [ByteArray.toList_eq]; simpa using h0
    have h1 : 1 ≤ s.data.toList.length := List.length_pos_iff.2 h0
    rw [decide_eq_true h1, Bool.true_and] at hr
    have HR := Lib.hid hr
    clear hr h1 h0 hsz
    go_enter Tryd.func12, Tryd.ntmps12
    go_wp2_with fail
    refine (mk_lets _ _).mono ?_; rintro e w1 ⟨rfl, rfl⟩
    go_wp2_with fail
    refine (lets_all 4 s hs r HR.out w _ HK.out H0.out).mono ?_; rintro e w2 ⟨rfl, h2⟩
    have HB := Lib.hid h2
    clear h2
    go_wp2
    go_ret
    exact ⟨rfl, HB.out⟩
theorem nabbr_any (s : ByteArray) (hs : s.size ≤ 100000000000) (r : Bool) (hr : Nm.lets 3 6 s.data.toList = r) (w : World) (hK : KdW w) :
    Calls Tryd.prog 14 #[.string s] w fun e w' => e = .returned (.bool r) ∧ Below w.heap.size w w' := by
  have hsz : s.data.toList.length = s.size := by simp
  unfold Nm.lets at hr
  have HK := Lib.hid hK
  have H0 := Lib.hid (cnm_0 6 w)
  clear hK
  by_cases h0 : 3 ≤ s.data.toList.length
  · have h1 : (3 : Int) ≤ (s.size : Int) := by omega
    rw [decide_eq_true h0, Bool.true_and] at hr
    have HR := Lib.hid hr
    clear hr h0 hsz
    go_enter Tryd.func14, Tryd.ntmps14
    go_wp2_with fail
    refine (mk_lets _ _).mono ?_; rintro e w1 ⟨rfl, rfl⟩
    go_wp2_with fail
    refine (lets_all 6 s hs r HR.out w _ HK.out H0.out).mono ?_; rintro e w2 ⟨rfl, h2⟩
    have HB := Lib.hid h2
    clear h2
    go_wp2
    go_ret
    exact ⟨rfl, HB.out⟩
  · have h1 : ¬ (3 : Int) ≤ (s.size : Int) := by omega
    rw [decide_eq_false h0, Bool.false_and] at hr
    subst hr
    clear h0 hsz
    go_enter Tryd.func14, Tryd.ntmps14
    go_wp2
    go_ret
    exact ⟨rfl, Below.refl _ _⟩
end Go.Proofs.YtndpoijmkdephaaDoor
