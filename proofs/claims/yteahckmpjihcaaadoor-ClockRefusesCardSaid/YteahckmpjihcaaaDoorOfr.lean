/- Package offset: the contract of read: no digits, a zero ahead; and the ways up to the minutes. -/
import Derived.Test.YteahckmpjihcaaaDoorOfp
import Derived.BigRegion
import Derived.LoopN
namespace Go.Proofs.YteahckmpjihcaaaDoor
open Go.RowKit
set_option maxHeartbeats 1000000 in
theorem read_nil (s : ByteArray) (w : World) (hs : s.size ≤ maxLen) (h0 : (Of.run3 s.data.toList).length = 0) : Calls Tryd.prog 29 #[.string s] w (ReadP s w) := by
  have H1 := h1_of (V := 0) (by rw [List.eq_nil_of_length_eq_zero h0]; rfl) h0
  have HF := Lib.hid (Of.form_none0 h0)
  clear h0
  go_enter Tryd.func29, Tryd.ntmps29
  go_wp2_with fail
  refine (num_at 0 _ _ s H1 _ _ _ hs (by omega) (by simp; omega) _ (row_new (by simp)) (by simp [go_sem]) rfl).mono ?_
  rintro e w' ⟨rfl, rfl⟩
  go_wp2
  exact bodyPost_ret (v := .tuple #[.agg #[.int .i64 0, .int .i64 0, .int .i64 0], .bool false]) (by simp [results, Tryd.results29, go_sem]) rfl (readP_no 0 0 0 HF.out (by repeat (first | exact Below.refl _ _ | refine Below.drew ?_ | refine Below.setCell ?_ (by simp) _ | refine Below.alloc ?_ (by simp <;> omega) _)))
set_option maxHeartbeats 1000000 in
theorem read_zero (s : ByteArray) (w : World) (hs : s.size ≤ maxLen) (V : Int) (H : Nat) (hV : Of.val (Of.run3 s.data.toList) = V) (hH : (Of.run3 s.data.toList).length = H) (h1 : 1 < H) (hz : s.data.toList[0]? = some 48) : Calls Tryd.prog 29 #[.string s] w (ReadP s w) := by
  have H1 := h1_of hV hH
  have HF := Lib.hid (Of.form_noneZ (by omega) hz)
  have hle := (Of.run3_le s.data.toList).2
  have h0 : 0 < s.size := by simp at hle; omega
  have hb := byte_at s 0 h0
  rw [hz] at hb
  have hb2 : ((s[0].toNat : Int) == 48) = true := by rw [← Option.some.inj hb]; rfl
  have hb3 : ((H : Int) == 0) = false := by simp; omega
  clear hV hH hz hb hle
  go_enter Tryd.func29, Tryd.ntmps29
  go_wp2_with fail
  refine (num_at 0 _ _ s H1 _ _ _ hs (by omega) (by simp; omega) _ (row_new (by simp)) (by simp [go_sem]) rfl).mono ?_
  rintro e w' ⟨rfl, rfl⟩
  go_wp2
  exact bodyPost_ret (v := .tuple #[.agg #[.int .i64 0, .int .i64 0, .int .i64 0], .bool false]) (by simp [results, Tryd.results29, go_sem]) rfl (readP_no 0 0 0 HF.out (by repeat (first | exact Below.refl _ _ | refine Below.drew ?_ | refine Below.setCell ?_ (by simp) _ | refine Below.alloc ?_ (by simp <;> omega) _)))
set_option maxHeartbeats 2000000 in
theorem read_end (s : ByteArray) (w : World) (hs : s.size ≤ maxLen) (V : Int) (H : Nat) (hV : Of.val (Of.run3 s.data.toList) = V) (hH : (Of.run3 s.data.toList).length = H) (hH1 : 1 ≤ H) (hok : Of.okH s.data.toList) (he : s.size ≤ H) : Calls Tryd.prog 29 #[.string s] w (ReadP s w) := by
  have H1 := h1_of hV hH
  have hle := (Of.run3_le s.data.toList).2
  have hle3 := (Of.run3_le s.data.toList).1
  have hv := Of.val_run3 s.data.toList
  have hls : s.data.toList.length = s.size := by simp
  rw [hH] at hle hle3
  rw [hV] at hv
  rw [hls] at hle
  have h0 : 0 < s.size := by omega
  have hb3 : ((H : Int) == 0) = false := by simp; omega
  have HB := Lib.hid (byte_at s 0 h0)
  have HO := Lib.hid hok
  have hz : 1 < H → ((s[0].toNat : Int) == 48) = false := by
    intro h1
    have := hok.2
    rw [hH, HB.out] at this
    have h2 : s[0] ≠ 48 := fun e => this ⟨h1, by rw [e]⟩
    have h3 : s[0].toNat ≠ 48 := fun e => h2 (UInt8.toNat_inj.1 (by simpa using e))
    simp; omega
  clear hok
  have HF := Lib.hid (Of.form_end HO.out (by rw [hH, hls]; exact he))
  rw [hV] at HF
  have heq : ((H : Int) == (s.size : Int)) = true := beq_of (by omega)
  clear hV hH hls hle
  by_cases h1 : 1 < H
  all_goals
    have hb4 := hz
    clear hz
    first | replace hb4 := hb4 h1 | clear hb4
    go_enter Tryd.func29, Tryd.ntmps29
    go_wp2_with fail
    refine (num_at 0 _ _ s H1 _ _ _ hs (by omega) (by simp; omega) _ (row_new (by simp)) (by simp [go_sem]) rfl).mono ?_
    rintro e w' ⟨rfl, rfl⟩
    go_wp2
    refine wp_loop_rounds 3 ?_
    rw [rounds_succ]
    go_wp2
    go_region
    go_wp2
    exact bodyPost_ret (v := .tuple #[.agg #[.int .i64 V, .int .i64 0, .int .i64 0], .bool true]) (by simp [results, Tryd.results29, go_sem]) rfl (readP_yes HF.out hv (by omega) (by omega) (by repeat (first | exact Below.refl _ _ | refine Below.drew ?_ | refine Below.setCell ?_ (by simp) _ | refine Below.alloc ?_ (by simp <;> omega) _)))
  
set_option maxHeartbeats 2000000 in
theorem read_colon (s : ByteArray) (w : World) (hs : s.size ≤ maxLen) (V : Int) (H : Nat) (hV : Of.val (Of.run3 s.data.toList) = V) (hH : (Of.run3 s.data.toList).length = H) (hH1 : 1 ≤ H) (hok : Of.okH s.data.toList) (hcl : H < s.size) (hcc : s[H] ≠ 58) : Calls Tryd.prog 29 #[.string s] w (ReadP s w) := by
  have H1 := h1_of hV hH
  have hle := (Of.run3_le s.data.toList).2
  have hle3 := (Of.run3_le s.data.toList).1
  have hv := Of.val_run3 s.data.toList
  have hls : s.data.toList.length = s.size := by simp
  rw [hH] at hle hle3
  rw [hV] at hv
  rw [hls] at hle
  have h0 : 0 < s.size := by omega
  have hb3 : ((H : Int) == 0) = false := by simp; omega
  have HB := Lib.hid (byte_at s 0 h0)
  have HO := Lib.hid hok
  have hz : 1 < H → ((s[0].toNat : Int) == 48) = false := by
    intro h1
    have := hok.2
    rw [hH, HB.out] at this
    have h2 : s[0] ≠ 48 := fun e => this ⟨h1, by rw [e]⟩
    have h3 : s[0].toNat ≠ 48 := fun e => h2 (UInt8.toNat_inj.1 (by simpa using e))
    simp; omega
  clear hok
  have hc := byte_at s H hcl
  have HF := Lib.hid (Of.form_colon HO.out (by rw [hH]; exact hc) hcc)
  have hn : ((s[H].toNat : Int) != 58) = true := by
    have h3 : s[H].toNat ≠ 58 := fun e => hcc (UInt8.toNat_inj.1 (by simpa using e))
    simp; omega
  clear hV hH hls hle hc hcc
  by_cases h1 : 1 < H
  all_goals
    have hb4 := hz
    clear hz
    first | replace hb4 := hb4 h1 | clear hb4
    go_enter Tryd.func29, Tryd.ntmps29
    go_wp2_with fail
    refine (num_at 0 _ _ s H1 _ _ _ hs (by omega) (by simp; omega) _ (row_new (by simp)) (by simp [go_sem]) rfl).mono ?_
    rintro e w' ⟨rfl, rfl⟩
    go_wp2
    refine wp_loop_rounds 3 ?_
    rw [rounds_succ]
    go_wp2
    exact bodyPost_ret (v := .tuple #[.agg #[.int .i64 0, .int .i64 0, .int .i64 0], .bool false]) (by simp [results, Tryd.results29, go_sem]) rfl (readP_no 0 0 0 HF.out (by repeat (first | exact Below.refl _ _ | refine Below.drew ?_ | refine Below.setCell ?_ (by simp) _ | refine Below.alloc ?_ (by simp <;> omega) _)))
  
set_option maxHeartbeats 2000000 in
theorem read_min2 (s : ByteArray) (w : World) (hs : s.size ≤ maxLen) (V : Int) (H : Nat) (hV : Of.val (Of.run3 s.data.toList) = V) (hH : (Of.run3 s.data.toList).length = H) (hH1 : 1 ≤ H) (hok : Of.okH s.data.toList) (hcl : H < s.size) (hcc : s[H] = 58) (V2 : Int) (D2 : Nat) (hV2 : Of.val (Of.run3 (s.data.toList.drop (H + 1))) = V2) (hD2 : (Of.run3 (s.data.toList.drop (H + 1))).length = D2) (hd : D2 ≠ 2) : Calls Tryd.prog 29 #[.string s] w (ReadP s w) := by
  have H1 := h1_of hV hH
  have hle := (Of.run3_le s.data.toList).2
  have hle3 := (Of.run3_le s.data.toList).1
  have hv := Of.val_run3 s.data.toList
  have hls : s.data.toList.length = s.size := by simp
  rw [hH] at hle hle3
  rw [hV] at hv
  rw [hls] at hle
  have h0 : 0 < s.size := by omega
  have hb3 : ((H : Int) == 0) = false := by simp; omega
  have HB := Lib.hid (byte_at s 0 h0)
  have HO := Lib.hid hok
  have hz : 1 < H → ((s[0].toNat : Int) == 48) = false := by
    intro h1
    have := hok.2
    rw [hH, HB.out] at this
    have h2 : s[0] ≠ 48 := fun e => this ⟨h1, by rw [e]⟩
    have h3 : s[0].toNat ≠ 48 := fun e => h2 (UInt8.toNat_inj.1 (by simpa using e))
    simp; omega
  clear hok
  have hc := byte_at s H hcl
  rw [hcc] at hc
  rw [← hH] at hc
  have H2 := h2_of (H + 1) hV2 hD2
  have HF := Lib.hid (Of.form_min HO.out hc (by rw [hH]) (by
    have hh := (Of.run3_le (s.data.toList.drop (H + 1))).1
    rcases Nat.lt_or_ge D2 2 with h | h
    · exact .inl (Of.pr_short _ (by omega))
    · exact .inr (Of.three_no _ (by omega)).1))
  have ht : ((D2 : Int) != 2) = true := by simp; omega
  have hn : ((s[H].toNat : Int) != 58) = false := by rw [hcc]; rfl
  clear hV hH hls hle hc hcc
  clear hV2 hD2 hd
  by_cases h1 : 1 < H
  all_goals
    have hb4 := hz
    clear hz
    first | replace hb4 := hb4 h1 | clear hb4
    go_enter Tryd.func29, Tryd.ntmps29
    go_wp2_with fail
    refine (num_at 0 _ _ s H1 _ _ _ hs (by omega) (by simp; omega) _ (row_new (by simp)) (by simp [go_sem]) rfl).mono ?_
    rintro e w' ⟨rfl, rfl⟩
    go_wp2
    refine wp_loop_rounds 3 ?_
    rw [rounds_succ]
    go_wp2_with fail
    refine (num_at (H + 1) _ _ s H2 _ _ _ hs (by omega) (by simp; omega) _ (row_al (row_new (by simp))) (by simp [go_sem]) (by simp)).mono ?_
    rintro e w' ⟨rfl, rfl⟩
    go_wp2
    exact bodyPost_ret (v := .tuple #[.agg #[.int .i64 0, .int .i64 0, .int .i64 0], .bool false]) (by simp [results, Tryd.results29, go_sem]) rfl (readP_no 0 0 0 HF.out (by repeat (first | exact Below.refl _ _ | refine Below.drew ?_ | refine Below.setCell ?_ (by simp) _ | refine Below.alloc ?_ (by simp <;> omega) _)))
  
set_option maxHeartbeats 2000000 in
theorem read_min59 (s : ByteArray) (w : World) (hs : s.size ≤ maxLen) (V : Int) (H : Nat) (hV : Of.val (Of.run3 s.data.toList) = V) (hH : (Of.run3 s.data.toList).length = H) (hH1 : 1 ≤ H) (hok : Of.okH s.data.toList) (hcl : H < s.size) (hcc : s[H] = 58) (V2 : Int) (D2 : Nat) (hV2 : Of.val (Of.run3 (s.data.toList.drop (H + 1))) = V2) (hD2 : (Of.run3 (s.data.toList.drop (H + 1))).length = D2) (hd : D2 = 2) (hv59 : 59 < V2) : Calls Tryd.prog 29 #[.string s] w (ReadP s w) := by
  have H1 := h1_of hV hH
  have hle := (Of.run3_le s.data.toList).2
  have hle3 := (Of.run3_le s.data.toList).1
  have hv := Of.val_run3 s.data.toList
  have hls : s.data.toList.length = s.size := by simp
  rw [hH] at hle hle3
  rw [hV] at hv
  rw [hls] at hle
  have h0 : 0 < s.size := by omega
  have hb3 : ((H : Int) == 0) = false := by simp; omega
  have HB := Lib.hid (byte_at s 0 h0)
  have HO := Lib.hid hok
  have hz : 1 < H → ((s[0].toNat : Int) == 48) = false := by
    intro h1
    have := hok.2
    rw [hH, HB.out] at this
    have h2 : s[0] ≠ 48 := fun e => this ⟨h1, by rw [e]⟩
    have h3 : s[0].toNat ≠ 48 := fun e => h2 (UInt8.toNat_inj.1 (by simpa using e))
    simp; omega
  clear hok
  have hc := byte_at s H hcl
  rw [hcc] at hc
  rw [← hH] at hc
  have H2 := h2_of (H + 1) hV2 hD2
  have hl2 := (Of.run3_le (s.data.toList.drop (H + 1))).2
  rw [hD2, List.length_drop, hls] at hl2
  have hv2 := Of.val_run3 (s.data.toList.drop (H + 1))
  rw [hV2] at hv2
  have ht : ((D2 : Int) != 2) = false := by simp; omega
  have hp2 : Of.pr (s.data.toList.drop (H + 1)) = none := by
    rw [Of.run3_two _ (by omega), if_neg (by omega)]
  have HF := Lib.hid (Of.form_min HO.out hc (by rw [hH]) (.inl hp2))
  have hn : ((s[H].toNat : Int) != 58) = false := by rw [hcc]; rfl
  clear hV hH hls hle hc hcc
  clear hV2 hD2 hd hp2
  by_cases h1 : 1 < H
  all_goals
    have hb4 := hz
    clear hz
    first | replace hb4 := hb4 h1 | clear hb4
    go_enter Tryd.func29, Tryd.ntmps29
    go_wp2_with fail
    refine (num_at 0 _ _ s H1 _ _ _ hs (by omega) (by simp; omega) _ (row_new (by simp)) (by simp [go_sem]) rfl).mono ?_
    rintro e w' ⟨rfl, rfl⟩
    go_wp2
    refine wp_loop_rounds 3 ?_
    rw [rounds_succ]
    go_wp2_with fail
    refine (num_at (H + 1) _ _ s H2 _ _ _ hs (by omega) (by simp; omega) _ (row_al (row_new (by simp))) (by simp [go_sem]) (by simp)).mono ?_
    rintro e w' ⟨rfl, rfl⟩
    go_wp2
    exact bodyPost_ret (v := .tuple #[.agg #[.int .i64 0, .int .i64 0, .int .i64 0], .bool false]) (by simp [results, Tryd.results29, go_sem]) rfl (readP_no 0 0 0 HF.out (by repeat (first | exact Below.refl _ _ | refine Below.drew ?_ | refine Below.setCell ?_ (by simp) _ | refine Below.alloc ?_ (by simp <;> omega) _)))
  
set_option maxHeartbeats 2000000 in
theorem read_end2 (s : ByteArray) (w : World) (hs : s.size ≤ maxLen) (V : Int) (H : Nat) (hV : Of.val (Of.run3 s.data.toList) = V) (hH : (Of.run3 s.data.toList).length = H) (hH1 : 1 ≤ H) (hok : Of.okH s.data.toList) (hcl : H < s.size) (hcc : s[H] = 58) (V2 : Int) (D2 : Nat) (hV2 : Of.val (Of.run3 (s.data.toList.drop (H + 1))) = V2) (hD2 : (Of.run3 (s.data.toList.drop (H + 1))).length = D2) (hd : D2 = 2) (hv59 : V2 ≤ 59) (he : s.size ≤ H + 3) : Calls Tryd.prog 29 #[.string s] w (ReadP s w) := by
  have H1 := h1_of hV hH
  have hle := (Of.run3_le s.data.toList).2
  have hle3 := (Of.run3_le s.data.toList).1
  have hv := Of.val_run3 s.data.toList
  have hls : s.data.toList.length = s.size := by simp
  rw [hH] at hle hle3
  rw [hV] at hv
  rw [hls] at hle
  have h0 : 0 < s.size := by omega
  have hb3 : ((H : Int) == 0) = false := by simp; omega
  have HB := Lib.hid (byte_at s 0 h0)
  have HO := Lib.hid hok
  have hz : 1 < H → ((s[0].toNat : Int) == 48) = false := by
    intro h1
    have := hok.2
    rw [hH, HB.out] at this
    have h2 : s[0] ≠ 48 := fun e => this ⟨h1, by rw [e]⟩
    have h3 : s[0].toNat ≠ 48 := fun e => h2 (UInt8.toNat_inj.1 (by simpa using e))
    simp; omega
  clear hok
  have hc := byte_at s H hcl
  rw [hcc] at hc
  rw [← hH] at hc
  have H2 := h2_of (H + 1) hV2 hD2
  have hl2 := (Of.run3_le (s.data.toList.drop (H + 1))).2
  rw [hD2, List.length_drop, hls] at hl2
  have hv2 := Of.val_run3 (s.data.toList.drop (H + 1))
  rw [hV2] at hv2
  have ht : ((D2 : Int) != 2) = false := by simp; omega
  have hp2 : Of.pr (s.data.toList.drop (H + 1)) = some V2 := by
    rw [Of.run3_two _ (by omega), if_pos (by omega), hV2]
  have HF := Lib.hid (Of.form_two HO.out hc (by rw [hH]) hp2 (by apply List.eq_nil_of_length_eq_zero; simp; omega))
  rw [hV] at HF
  have heq : ((H : Int) + 1 + (D2 : Int) == (s.size : Int)) = true := beq_of (by omega)
  have hlt : decide ((H : Int) + 1 + (D2 : Int) < (s.size : Int)) = false := by simp; omega
  have hn : ((s[H].toNat : Int) != 58) = false := by rw [hcc]; rfl
  clear hV hH hls hle hc hcc
  have hd1 : 2 ≤ D2 := by omega
  have hd2 : D2 ≤ 2 := by omega
  clear hd
  clear hV2 hD2 hp2
  by_cases h1 : 1 < H
  all_goals
    have hb4 := hz
    clear hz
    first | replace hb4 := hb4 h1 | clear hb4
    go_enter Tryd.func29, Tryd.ntmps29
    go_wp2_with fail
    refine (num_at 0 _ _ s H1 _ _ _ hs (by omega) (by simp; omega) _ (row_new (by simp)) (by simp [go_sem]) rfl).mono ?_
    rintro e w' ⟨rfl, rfl⟩
    go_wp2
    refine wp_loop_rounds 3 ?_
    rw [rounds_succ]
    go_wp2_with fail
    refine (num_at (H + 1) _ _ s H2 _ _ _ hs (by omega) (by simp; omega) _ (row_al (row_new (by simp))) (by simp [go_sem]) (by simp)).mono ?_
    rintro e w' ⟨rfl, rfl⟩
    go_wp2
    rw [rounds_succ]
    go_wp2
    go_region
    go_wp2
    exact bodyPost_ret (v := .tuple #[.agg #[.int .i64 V, .int .i64 V2, .int .i64 0], .bool true]) (by simp [results, Tryd.results29, go_sem]) rfl (readP_yes HF.out hv (by omega) (by omega) (by repeat (first | exact Below.refl _ _ | refine Below.drew ?_ | refine Below.setCell ?_ (by simp) _ | refine Below.alloc ?_ (by simp <;> omega) _)))
  
end Go.Proofs.YteahckmpjihcaaaDoor
