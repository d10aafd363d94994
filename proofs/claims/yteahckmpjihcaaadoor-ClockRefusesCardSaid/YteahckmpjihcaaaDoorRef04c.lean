/- The document's answers of layer 4: the form of an amount. -/
import Derived.Test.YteahckmpjihcaaaDoorRef04b
import Derived.Deep.LoopGhost
namespace Go.Proofs.YteahckmpjihcaaaDoor
open Go.RowKit
theorem pair_at (x : Int) (s : ByteArray) (a : Nat) (m : Int) (hs : s.size ≤ 1000) (ha : a ≤ s.size + 6) (hm : Hid (prn (Of.pr (s.data.toList.drop a)) = m)) (hx : x = (a : Int)) (w : World) : Calls Tryd.prog 38 #[.string s, .int .i64 x] w fun e w' => e = .returned (.int .i64 m) ∧ ∃ n, w' = w.drewN n := by
  subst hx
  have := pair_any s a hs ha w
  rw [hm.out] at this
  exact this
/-- what form returns -/
def FormP (s : ByteArray) (w : World) (e : Ending) (w' : World) : Prop := ∃ (x : Int) (ok : Bool), e = .returned (.tuple #[.int .i64 x, .bool ok]) ∧ (ok = true → Of.form s.data.toList = some x) ∧ (ok = false → Of.form s.data.toList = none) ∧ ∃ n, w' = w.drewN n
theorem formP_no {s : ByteArray} {w w' : World} {e : Ending} (hf : Of.form s.data.toList = none) (he : e = .returned (.tuple #[.int .i64 0, .bool false])) (hw : ∃ n, w' = w.drewN n) : FormP s w e w' := ⟨0, false, he, (fun h => by cases h), (fun _ => hf), hw⟩
theorem formP_yes {s : ByteArray} {w w' : World} {e : Ending} {x : Int} (hf : Of.form s.data.toList = some x) (he : e = .returned (.tuple #[.int .i64 x, .bool true])) (hw : ∃ n, w' = w.drewN n) : FormP s w e w' := ⟨x, true, he, (fun _ => hf), (fun h => by cases h), hw⟩
theorem pr_size (s : ByteArray) (a : Nat) {m : Int} (h : Of.pr (s.data.toList.drop a) = some m) : a + 2 ≤ s.size := by
  rcases Nat.lt_or_ge s.size (a + 2) with k | k
  · exfalso
    have hl : (s.data.toList.drop a).length ≤ 1 := by simp; omega
    match s.data.toList.drop a, hl, h with
    | [], _, h => cases h
    | [_], _, h => cases h
    | _ :: _ :: _, hl, _ => simp at hl
  · exact k
/-- four digits ahead are no form -/
theorem four_no {l : List UInt8} (h : (l.take 4).all Of.isD = true) (hl : 4 ≤ l.length) : Of.form l = none := by
  match l, hl with
  | a :: b :: c :: d :: r, _ =>
    simp at h
    obtain ⟨ha, hb, hc, hd⟩ := h
    have e := Of.run3_3 a b c (d :: r) ha hb hc
    by_cases h48 : a = 48
    · exact Of.form_noneZ (by rw [e]; simp) (by simp [h48])
    · have ok : Of.okH (a :: b :: c :: d :: r) := ⟨by rw [e]; simp, fun h => h48 (by simpa using h.2)⟩
      exact Of.form_colon (c := d) ok (by rw [e]; rfl) (Of.ne58 hd)
set_option maxRecDepth 100000 in
set_option maxHeartbeats 4000000 in
theorem rform_any (s : ByteArray) (hs : s.size ≤ 1000) (w : World) : Calls Tryd.prog 30 #[.string s] w (FormP s w) := by
  go_enter Tryd.func30, Tryd.ntmps30
  go_wp2
  go_loop [4, 5] (fun n h => ∃ k : Nat, k ≤ 3 ∧ k ≤ s.size ∧ n = .int .i64 k ∧ h = .int .i64 (Of.val (s.data.toList.take k)) ∧ (s.data.toList.take k).all Of.isD = true) (fun n _ => 3 - (intOf n).toNat)
  case atStart => exact ⟨0, by omega, by omega, rfl, rfl, rfl⟩
  case round =>
    obtain ⟨k, hk, hks, rfl, rfl, hall⟩ := hrel
    have hls : s.data.toList.length = s.size := by simp
    have HLS := Lib.hid hls
    have hv := Of.val_nn _ hall
    have hp : (10 : Int) ^ (s.data.toList.take k).length ≤ 1000 := by
      have : (s.data.toList.take k).length ≤ 3 := by have := List.length_take_le k s.data.toList; omega
      generalize (s.data.toList.take k).length = n at *
      have : n = 0 ∨ n = 1 ∨ n = 2 ∨ n = 3 := by omega
      rcases this with rfl | rfl | rfl | rfl <;> decide
    have hv1 := hv.1
    have hv2 : Of.val (s.data.toList.take k) ≤ 999 := by omega
    have HAll := Lib.hid hall
    clear hv hp hall hls
    by_cases hd : ∃ h : k < s.size, Of.isD s[k] = true
    · obtain ⟨hb, hd⟩ := hd
      have hd1 : 48 ≤ (s[k].toNat : Int) ∧ (s[k].toNat : Int) ≤ 57 := by simpa [Of.isD] using hd
      obtain ⟨hd1, hd2⟩ := hd1
      have H1 := fun w => digit_yes (s[k].toNat : Int) _ rfl hd1 hd2 w
      have HC := Lib.hid (byte_at s k hb)
      have HD := Lib.hid hd
      have hdv : (s[k].toNat : Int) - 48 = Of.dv s[k] := rfl
      have HV := Lib.hid (Of.val_snoc _ _ _ HC.out)
      have HN := Lib.hid (Of.all_snoc _ _ _ HAll.out HC.out HD.out)
      have g1 : 0 ≤ Of.dv s[k] := (Of.isD_bd hd).1
      have g2 : Of.dv s[k] ≤ 9 := (Of.isD_bd hd).2
      rw [hdv] at H1
      clear hd hdv
      generalize Of.dv s[k] = p at *
      by_cases h3 : k < 3
      · go_wp2_with fail
        refine (H1 _).mono ?_; rintro e w1 ⟨rfl, rfl⟩
        go_wp2_with fail
        refine (H1 _).mono ?_; rintro e w1 ⟨rfl, rfl⟩
        go_wp2
        go_round
        case rel => exact ⟨k + 1, by omega, by omega, by go_num, by rw [HV.out], HN.out⟩
        case measure => simp [intOf]; omega
      · obtain rfl : k = 3 := by omega
        have HF := Lib.hid (four_no HN.out (by rw [HLS.out]; omega))
        go_wp2_with fail
        refine (H1 _).mono ?_; rintro e w1 ⟨rfl, rfl⟩
        go_wp2_with fail
        refine (H1 _).mono ?_; rintro e w1 ⟨rfl, rfl⟩
        go_wp2
        go_ret2
        exact formP_no HF.out rfl ⟨0, rfl⟩
    · have hrun := Of.run3_stop s.data.toList k hk HAll.out (.inr fun c hc => by
        rcases Nat.lt_or_ge k s.size with h | h
        · rw [byte_at s k h] at hc
          obtain rfl := Option.some.inj hc
          by_cases e : Of.isD s[k] = true
          · exact absurd ⟨h, e⟩ hd
          · simpa using e
        · rw [List.getElem?_eq_none (by rw [HLS.out]; exact h)] at hc; cases hc)
      have hlen : (Of.run3 s.data.toList).length = k := by rw [hrun, List.length_take, HLS.out]; omega
      have hval : Of.val (Of.run3 s.data.toList) = Of.val (s.data.toList.take k) := by rw [hrun]
      generalize Of.val (s.data.toList.take k) = V at *
      clear hrun HAll
      by_cases hb : k < s.size
      rotate_left
      · by_cases hk0 : k = 0
        · have HF := Lib.hid (Of.form_none0 (hlen.trans hk0))
          have hk1 : ((k : Int) == 0) = true := by simpa using hk0
          clear hd hlen hval hk0
          go_wp2
          go_ret2
          exact formP_no HF.out rfl ⟨0, rfl⟩
        have hk1 : ((k : Int) == 0) = false := by simpa using hk0
        by_cases hz : 1 < k ∧ s.data.toList[0]? = some 48
        · obtain ⟨hk2, hz⟩ := hz
          have HF := Lib.hid (Of.form_noneZ (by rw [hlen]; exact hk2) hz)
          have h0 : 0 < s.size := by omega
          have hzb : ((s[0].toNat : Int) == 48) = true := by
            have := byte_at s 0 h0
            rw [hz] at this
            rw [← Option.some.inj this]; rfl
          clear hd hlen hval hk0 hz
          go_wp2
          go_ret2
          exact formP_no HF.out rfl ⟨0, rfl⟩
        have hok : Of.okH s.data.toList := ⟨by rw [hlen]; exact hk0, by rw [hlen]; exact hz⟩
        have HF := Lib.hid (Of.form_end hok (by rw [HLS.out, hlen]; omega))
        rw [hval] at HF
        have h0 : 0 < s.size := by omega
        have hzb : 1 < k → ((s[0].toNat : Int) == 48) = false := by
          intro h1
          have h2 : s[0] ≠ 48 := fun e => hz ⟨h1, by rw [byte_at s 0 h0, e]⟩
          have h3 : s[0].toNat ≠ 48 := fun e => h2 (UInt8.toNat_inj.1 (by simpa using e))
          simp; omega
        have he1 : ((s.size : Int) == (k : Int)) = true := beq_of (by omega)
        have he2 : (s.size == k) = true := by simp; omega
        clear hd hlen hval hk0 hz hok
        by_cases hk2 : 1 < k
        all_goals
          have hb4 := hzb
          clear hzb
          first | replace hb4 := hb4 hk2 | clear hb4
          go_wp2
          go_ret2
          exact formP_yes HF.out (ret_ib (by omega) rfl) ⟨0, rfl⟩
      · have hnd : Of.isD s[k] = false := by
          by_cases e : Of.isD s[k] = true
          · exact absurd ⟨hb, e⟩ hd
          · simpa using e
        have hn1 : ¬ (48 ≤ (s[k].toNat : Int) ∧ (s[k].toNat : Int) ≤ 57) := by simpa [Of.isD] using hnd
        have ub : (s[k].toNat : Int) ≤ 255 := by have := s[k].toNat_lt; omega
        have HD := fun w => digit_no (s[k].toNat : Int) (by omega) ub hn1 w
        clear hd hn1 ub hnd
        by_cases hk0 : k = 0
        · have HF := Lib.hid (Of.form_none0 (hlen.trans hk0))
          have hk1 : ((k : Int) == 0) = true := by simpa using hk0
          clear hlen hval hk0
          go_wp2_with fail
          refine (HD _).mono ?_; rintro e w1 ⟨rfl, rfl⟩
          go_wp2
          go_ret2
          exact formP_no HF.out rfl ⟨0, rfl⟩
        have hk1 : ((k : Int) == 0) = false := by simpa using hk0
        by_cases hz : 1 < k ∧ s.data.toList[0]? = some 48
        · obtain ⟨hk2, hz⟩ := hz
          have HF := Lib.hid (Of.form_noneZ (by rw [hlen]; exact hk2) hz)
          have h0 : 0 < s.size := by omega
          have hzb : ((s[0].toNat : Int) == 48) = true := by
            have := byte_at s 0 h0
            rw [hz] at this
            rw [← Option.some.inj this]; rfl
          clear hlen hval hk0 hz
          go_wp2_with fail
          refine (HD _).mono ?_; rintro e w1 ⟨rfl, rfl⟩
          go_wp2
          go_ret2
          exact formP_no HF.out rfl ⟨0, rfl⟩
        have hok : Of.okH s.data.toList := ⟨by rw [hlen]; exact hk0, by rw [hlen]; exact hz⟩
        have h0 : 0 < s.size := by omega
        have hzb : 1 < k → ((s[0].toNat : Int) == 48) = false := by
          intro h1
          have h2 : s[0] ≠ 48 := fun e => hz ⟨h1, by rw [byte_at s 0 h0, e]⟩
          have h3 : s[0].toNat ≠ 48 := fun e => h2 (UInt8.toNat_inj.1 (by simpa using e))
          simp; omega
        have he1 : ((s.size : Int) == (k : Int)) = false := by simp; omega
        have he2 : (s.size == k) = false := by simp; omega
        have HOK := Lib.hid hok
        have HLN := Lib.hid hlen
        have HVL := Lib.hid hval
        clear hk0 hz hok hlen hval
        by_cases hk2 : 1 < k
        all_goals
          have hb4 := hzb
          clear hzb
          first | replace hb4 := hb4 hk2 | clear hb4
          by_cases hcc : s[k] = 58
          rotate_left
          · have HF := Lib.hid (Of.form_colon HOK.out (by rw [HLN.out]; exact byte_at s k hb) hcc)
            have hn58 : ((s[k].toNat : Int) != 58) = true := by
              have h3 : s[k].toNat ≠ 58 := fun e => hcc (UInt8.toNat_inj.1 (by simpa using e))
              simp; omega
            obtain ⟨m, hm⟩ : ∃ m, prn (Of.pr (s.data.toList.drop (k + 1))) = m := ⟨_, rfl⟩
            have HM := Lib.hid hm
            clear hcc hm
            go_wp2_with fail
            refine (HD _).mono ?_; rintro e w1 ⟨rfl, rfl⟩
            go_wp2_with fail
            refine (pair_at _ s (k + 1) _ hs (by omega) HM (by simp) _).mono ?_; rintro e w1 ⟨rfl, n1, rfl⟩
            go_wp2
            go_ret2
            exact formP_no HF.out rfl ⟨_, rfl⟩
          have hn58 : ((s[k].toNat : Int) != 58) = false := by rw [hcc]; rfl
          have HCC := Lib.hid (show s.data.toList[(Of.run3 s.data.toList).length]? = some 58 by rw [HLN.out, byte_at s k hb, hcc])
          have HR := Lib.hid (show s.data.toList.drop ((Of.run3 s.data.toList).length + 1) = s.data.toList.drop (k + 1) by rw [HLN.out])
          clear hcc
          cases hm : Of.pr (s.data.toList.drop (k + 1)) with
          | none =>
            have HF := Lib.hid (Of.form_min HOK.out HCC.out HR.out (.inl hm))
            have HM : Hid (prn (Of.pr (s.data.toList.drop (k + 1))) = -1) := Lib.hid (by rw [hm]; rfl)
            clear hm
            go_wp2_with fail
            refine (HD _).mono ?_; rintro e w1 ⟨rfl, rfl⟩
            go_wp2_with fail
            refine (pair_at _ s (k + 1) _ hs (by omega) HM (by simp) _).mono ?_; rintro e w1 ⟨rfl, n1, rfl⟩
            go_wp2
            go_ret2
            exact formP_no HF.out rfl ⟨_, rfl⟩
          | some m =>
            have hmb := Of.pr_bd hm
            obtain ⟨hm1, hm2⟩ := hmb
            have hsz : k + 3 ≤ s.size := pr_size s (k + 1) hm
            have HM : Hid (prn (Of.pr (s.data.toList.drop (k + 1))) = m) := Lib.hid (by rw [hm]; rfl)
            have HMM := Lib.hid hm
            clear hm
            by_cases h3 : s.size = k + 3
            · have HF := Lib.hid (Of.form_two HOK.out HCC.out HR.out HMM.out (by apply List.eq_nil_of_length_eq_zero; simp; omega))
              rw [HVL.out] at HF
              have e3 : ((s.size : Int) == (k : Int) + 3) = true := beq_of (by omega)
              clear h3
              go_wp2_with fail
              refine (HD _).mono ?_; rintro e w1 ⟨rfl, rfl⟩
              go_wp2_with fail
              refine (pair_at _ s (k + 1) _ hs (by omega) HM (by simp) _).mono ?_; rintro e w1 ⟨rfl, n1, rfl⟩
              go_wp2
              go_ret2
              exact formP_yes HF.out (ret_ib (by omega) rfl) ⟨_, rfl⟩
            have hb3 : k + 3 < s.size := by omega
            have e3 : ((s.size : Int) == (k : Int) + 3) = false := by simp; omega
            have HC3 := Lib.hid (show (s.data.toList.drop (k + 1))[2]? = some s[k + 3] by rw [List.getElem?_drop, byte_at s _ (by omega)])
            have HR3 := Lib.hid (show (s.data.toList.drop (k + 1)).drop 3 = s.data.toList.drop (k + 4) by rw [List.drop_drop])
            clear h3
            by_cases hcc3 : s[k + 3] = 58
            rotate_left
            · have HF := Lib.hid (Of.form_min HOK.out HCC.out HR.out (.inr (Of.tl2_colon HC3.out hcc3)))
              have hn583 : ((s[k + 3].toNat : Int) != 58) = true := by
                have h3 : s[k + 3].toNat ≠ 58 := fun e => hcc3 (UInt8.toNat_inj.1 (by simpa using e))
                simp; omega
              obtain ⟨m2, hm2⟩ : ∃ m, prn (Of.pr (s.data.toList.drop (k + 4))) = m := ⟨_, rfl⟩
              have HM2 := Lib.hid hm2
              clear hcc3 hm2
              go_wp2_with fail
              refine (HD _).mono ?_; rintro e w1 ⟨rfl, rfl⟩
              go_wp2_with fail
              refine (pair_at _ s (k + 1) _ hs (by omega) HM (by simp) _).mono ?_; rintro e w1 ⟨rfl, n1, rfl⟩
              go_wp2_with fail
              refine (pair_at _ s (k + 4) _ hs (by omega) HM2 (by simp) _).mono ?_; rintro e w1 ⟨rfl, n2, rfl⟩
              go_wp2
              go_ret2
              exact formP_no HF.out rfl ⟨n1 + n2, by simp⟩
            have hn583 : ((s[k + 3].toNat : Int) != 58) = false := by rw [hcc3]; rfl
            rw [hcc3] at HC3
            clear hcc3
            cases hs2 : Of.pr (s.data.toList.drop (k + 4)) with
            | none =>
              have HF := Lib.hid (Of.form_min HOK.out HCC.out HR.out (.inr (Of.tl2_none HC3.out HR3.out (.inl hs2))))
              have HM2 : Hid (prn (Of.pr (s.data.toList.drop (k + 4))) = -1) := Lib.hid (by rw [hs2]; rfl)
              clear hs2
              go_wp2_with fail
              refine (HD _).mono ?_; rintro e w1 ⟨rfl, rfl⟩
              go_wp2_with fail
              refine (pair_at _ s (k + 1) _ hs (by omega) HM (by simp) _).mono ?_; rintro e w1 ⟨rfl, n1, rfl⟩
              go_wp2_with fail
              refine (pair_at _ s (k + 4) _ hs (by omega) HM2 (by simp) _).mono ?_; rintro e w1 ⟨rfl, n2, rfl⟩
              go_wp2
              go_ret2
              exact formP_no HF.out rfl ⟨n1 + n2, by simp⟩
            | some q =>
              have hqb := Of.pr_bd hs2
              obtain ⟨hq1, hq2⟩ := hqb
              have hsz6 : k + 6 ≤ s.size := pr_size s (k + 4) hs2
              have HM2 : Hid (prn (Of.pr (s.data.toList.drop (k + 4))) = q) := Lib.hid (by rw [hs2]; rfl)
              by_cases h6 : s.size = k + 6
              · have HF := Lib.hid (Of.form_three HOK.out HCC.out HR.out HMM.out HC3.out HR3.out hs2 (by apply List.eq_nil_of_length_eq_zero; simp; omega))
                rw [HVL.out] at HF
                have e6 : ((s.size : Int) != (k : Int) + 6) = false := by simp; omega
                clear h6 hs2
                go_wp2_with fail
                refine (HD _).mono ?_; rintro e w1 ⟨rfl, rfl⟩
                go_wp2_with fail
                refine (pair_at _ s (k + 1) _ hs (by omega) HM (by simp) _).mono ?_; rintro e w1 ⟨rfl, n1, rfl⟩
                go_wp2_with fail
                refine (pair_at _ s (k + 4) _ hs (by omega) HM2 (by simp) _).mono ?_; rintro e w1 ⟨rfl, n2, rfl⟩
                go_wp2
                go_ret2
                exact formP_yes HF.out (ret_ib (by omega) rfl) ⟨n1 + n2, by simp⟩
              · have HF := Lib.hid (Of.form_min HOK.out HCC.out HR.out (.inr (Of.tl2_none HC3.out HR3.out (.inr (by intro e; have := congrArg List.length e; simp at this; omega)))))
                have e6 : ((s.size : Int) != (k : Int) + 6) = true := by simp; omega
                clear h6 hs2
                go_wp2_with fail
                refine (HD _).mono ?_; rintro e w1 ⟨rfl, rfl⟩
                go_wp2_with fail
                refine (pair_at _ s (k + 1) _ hs (by omega) HM (by simp) _).mono ?_; rintro e w1 ⟨rfl, n1, rfl⟩
                go_wp2_with fail
                refine (pair_at _ s (k + 4) _ hs (by omega) HM2 (by simp) _).mono ?_; rintro e w1 ⟨rfl, n2, rfl⟩
                go_wp2
                go_ret2
                exact formP_no HF.out rfl ⟨n1 + n2, by simp⟩
end Go.Proofs.YteahckmpjihcaaaDoor
