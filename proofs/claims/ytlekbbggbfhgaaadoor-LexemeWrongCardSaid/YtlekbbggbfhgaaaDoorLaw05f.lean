/- The walk of LexemeBack. -/
import Derived.Test.YtlekbbggbfhgaaaDoorLaw05c
import Derived.Test.YtlekbbggbfhgaaaDoorMade
import Derived.Test.YtlekbbggbfhgaaaDoorLe
import Derived.Test.YtlekbbggbfhgaaaDoorRef05d
namespace Go.Proofs.YtlekbbggbfhgaaaDoor
open Go.RowKit
theorem made_s {W0 w : World} (v : Value) (D : List (List UInt8)) (hI : Drf w v D) (HC : Hid (Ms W0 w)) : Calls Tryd.prog 21 #[v] w fun e w' => ∃ u, e = .returned u ∧ Hid (Strs w' u ((Lx.made D).map Lx.bs)) ∧ Below w.heap.size w w' ∧ Hid (Ms W0 w') :=
  (made_any v D w hI).mono fun _ _ ⟨u, he, hs, hb⟩ => ⟨u, he, Lib.hid hs, hb, Ms.hbl HC hb⟩
theorem Strs.block {w : World} {a : Option Addr} {n c : Nat} {L : List ByteArray} (h : Strs w (.slice a n c) L) (hn : 0 < n) : ∃ b off, a = some ⟨b, off, none⟩ ∧ b < w.heap.size ∧ ∀ j s, L[j]? = some s → w.cell? ⟨b, off + j, none⟩ = some (.string s) := by
  rcases h with ⟨a', c', e, rfl⟩ | ⟨b, o, c', e, _, hb, hc⟩
  · injection e with _ e2 _; omega
  · injection e with e1 _ _
    exact ⟨b, o, e1, hb, hc⟩
theorem contains_c (s : ByteArray) (c : UInt8) (r : Bool) (h : s.data.toList.contains c = r) (w : World) : Calls Tryd.prog 22 #[.string s, .string ⟨#[c]⟩] w fun e w' => e = .returned (.bool r) ∧ w = w' := by
  refine (Tryd.strings_Contains_one s c w).mono ?_
  rintro e w' ⟨rfl, rfl⟩
  rw [Lx.index_has, h]
  exact ⟨rfl, rfl⟩
theorem flds_of (l : List UInt8) (hl : l.length ≤ 300) (Q : List (List UInt8)) (h : Lx.scan l [] [] false false = some Q) : flds (Lx.bs l) = (Q.map Lx.bs, 0) := by
  unfold flds
  rw [if_neg (by rw [Lx.size_bs]; omega), Lx.data_bs, h]; rfl
set_option maxRecDepth 100000 in
set_option maxHeartbeats 4000000 in
theorem back_core (W0 : World) (v : Value) (D : List (List UInt8)) (hI : Drf W0 v D) (cm : ByteArray) (q : Nat) (hq : min cm.size 40 = q) (hM : MaxW W0) : Calls Tryd.prog 5 #[v, .string cm] W0 fun e w' => e = .returned (.bool true) ∧ Below W0.heap.size W0 w' := by
  have HC := Lib.hid (Ms.mk0 hM)
  have HI := Lib.hid hI
  have hmin : min (cm.size : Int) 40 = (q : Int) := by omega
  have hq0 : (0 : Int) ≤ (q : Int) := by omega
  have hqc : (q : Int) ≤ (cm.size : Int) := by omega
  have hwr := fun x hx => (Lx.made_each D x hx).1
  have hml := Lx.made_line D
  have hll := Lx.made_len D
  have hjn := Lx.jn_ok (Lx.made D) hwr (by omega)
  have h12 := fun x hx => (Lx.made_each D x hx).2
  generalize hQ : Lx.made D = Q at *
  obtain ⟨C, hC⟩ : ∃ C : List UInt8, cm.extract 0 q = Lx.bs C ∧ C.length ≤ 40 := by
    refine ⟨(cm.data.toList.drop 0).take (q - 0), ext_bs cm 0 q, ?_⟩
    rw [List.length_take]; omega
  obtain ⟨hC1, hC2⟩ := hC
  have hmap : (Q.map Lx.bs).map (·.data.toList) = Q := by
    rw [List.map_map]
    have : ((fun x : ByteArray => x.data.toList) ∘ Lx.bs) = id := by funext x; exact Lx.data_bs x
    rw [this, List.map_id]
  have hj : Lx.jn ((Q.map Lx.bs).map (·.data.toList)) = (Lx.bs (Lx.line Q), 0) := by rw [hmap]; exact hjn
  have hls : (Lx.bs (Lx.line Q)).size ≤ 180 := by rw [Lx.size_bs]; exact hml
  have hCs : (Lx.bs C).size ≤ 40 := by rw [Lx.size_bs]; exact hC2
  have s32 : (⟨#[32]⟩ : ByteArray) = Lx.bs [32] := rfl
  have s939 : (⟨#[9, 32, 9]⟩ : ByteArray) = Lx.bs [9, 32, 9] := rfl
  have s2 : (⟨#[32, 32]⟩ : ByteArray) = Lx.bs [32, 32] := rfl
  have s35 : (⟨#[35]⟩ : ByteArray) = Lx.bs [35] := rfl
  have s323 : (⟨#[32, 35, 32]⟩ : ByteArray) = Lx.bs [32, 35, 32] := rfl
  have f0 : flds (Lx.bs (Lx.line Q)) = (Q.map Lx.bs, 0) := flds_of _ (by omega) Q (Lx.back0 Q hwr)
  have f1 : flds (⟨#[32]⟩ ++ Lx.bs (Lx.line Q)) = (Q.map Lx.bs, 0) := by
    rw [s32, app_bs]; exact flds_of _ (by simp; omega) Q (Lx.back1 Q hwr)
  have f2 : flds (⟨#[9, 32, 9]⟩ ++ Lx.bs (Lx.line Q) ++ ⟨#[32, 32]⟩) = (Q.map Lx.bs, 0) := by
    rw [s939, s2, app_bs, app_bs]; exact flds_of _ (by simp; omega) Q (Lx.back2 Q hwr)
  have f3 : flds (Lx.bs (Lx.line Q) ++ ⟨#[35]⟩ ++ Lx.bs C) = (Q.map Lx.bs, 0) := by
    rw [s35, app_bs, app_bs]; exact flds_of _ (by simp; omega) Q (Lx.back3 Q hwr C)
  have f4 : flds (Lx.bs (Lx.line Q) ++ ⟨#[32, 35, 32]⟩ ++ Lx.bs C) = (Q.map Lx.bs, 0) := by
    rw [s323, app_bs, app_bs]; exact flds_of _ (by simp; omega) Q (Lx.back4 Q hwr C)
  have hwx : ∀ x ∈ Q.map Lx.bs, Lx.jn ([x].map (·.data.toList)) = (Lx.bs (Lx.write x.data.toList), 0) ∧ x.size ≤ 12 := by
    intro x hx
    obtain ⟨y, hy, rfl⟩ := List.mem_map.1 hx
    have e : Lx.line [y] = Lx.write y := by unfold Lx.line; rw [List.map_cons, List.map_nil, Lib.join_one]
    have h1 := Lx.jn_ok [y] (fun z hz => by rw [List.mem_singleton.1 hz]; exact hwr y hy) (by rw [e]; have := (Lx.write_len y).2; have := h12 y hy; omega)
    refine ⟨?_, by rw [Lx.size_bs]; exact h12 y hy⟩
    rw [List.map_cons, List.map_nil, Lx.data_bs, h1, e]
  have hLl : (Q.map Lx.bs).length ≤ 12 := by rw [List.length_map]; exact hll
  have hz : ∀ x ∈ Q.map Lx.bs, x.size ≤ 1000 := fun x hx => by have := (hwx x hx).2; omega
  have hQL : (Lx.made D).map Lx.bs = Q.map Lx.bs := by rw [hQ]
  generalize Q.map Lx.bs = L at *
  have HQL := Lib.hid hQL
  generalize Lx.bs (Lx.line Q) = N at *
  generalize Lx.bs C = CC at *
  have HJ := Lib.hid hj
  have HZ := Lib.hid hz
  have HW := Lib.hid hwx
  have HLl := Lib.hid hLl
  have g1 : ¬ 9223372036854775807 < 1 + N.size := by omega
  have g2 : ¬ 9223372036854775807 < 3 + N.size := by omega
  have g3 : ¬ 9223372036854775807 < 3 + N.size + 2 := by omega
  have g4 : ¬ 9223372036854775807 < N.size + 1 := by omega
  have g5 : ¬ 9223372036854775807 < N.size + 1 + CC.size := by omega
  have g6 : ¬ 9223372036854775807 < N.size + 3 := by omega
  have g7 : ¬ 9223372036854775807 < N.size + 3 + CC.size := by omega
  have hfl : ∀ i, i < 5 → flds ([N, ⟨#[32]⟩ ++ N, ⟨#[9, 32, 9]⟩ ++ N ++ ⟨#[32, 32]⟩, N ++ ⟨#[35]⟩ ++ CC, N ++ ⟨#[32, 35, 32]⟩ ++ CC].getD i N) = (L, 0) := by
    intro i hi
    have : i = 0 ∨ i = 1 ∨ i = 2 ∨ i = 3 ∨ i = 4 := by omega
    rcases this with rfl | rfl | rfl | rfl | rfl
    · exact f0
    · exact f1
    · exact f2
    · exact f3
    · exact f4
  have HFL := Lib.hid hfl
  clear hQ hQL hM hI hq hwr hml hll hjn h12 hmap hj hls hCs s32 s939 s2 s35 s323 f0 f1 f2 f3 f4 hwx hz hfl hLl hC2
  go_enter Tryd.func5, Tryd.ntmps5
  go_wp2_with fail
  refine (made_s v D HI.out HC).mono ?_; rintro e w1 ⟨u, rfl, HU, _, HC⟩
  rw [HQL.out] at HU
  obtain ⟨ua, uc, rfl⟩ := HU.out.len
  go_wp2_with fail
  refine (join_s _ L (by have := HLl.out; omega) HZ.out N 0 HJ HU.out HC).mono ?_; rintro e w2 ⟨rfl, hb, HC⟩
  replace HU := Strs.hbl HU hb
  clear hb
  go_wp2_with fail
  have HV : Hid (∀ i, i < 5 → (w2.alloc (.cells #[.string N, .string (⟨#[32]⟩ ++ N), .string (⟨#[9, 32, 9]⟩ ++ N ++ ⟨#[32, 32]⟩), .string (N ++ ⟨#[35]⟩ ++ CC), .string (N ++ ⟨#[32, 35, 32]⟩ ++ CC)] 9)).cell? ⟨w2.heap.size, i, none⟩ = some (.string ([N, ⟨#[32]⟩ ++ N, ⟨#[9, 32, 9]⟩ ++ N ++ ⟨#[32, 32]⟩, N ++ ⟨#[35]⟩ ++ CC, N ++ ⟨#[32, 35, 32]⟩ ++ CC].getD i N))) := Lib.hid fun i hi => by
    have : i = 0 ∨ i = 1 ∨ i = 2 ∨ i = 3 ∨ i = 4 := by omega
    rcases this with rfl | rfl | rfl | rfl | rfl <;> exact new_cell _ _ _ _ _ rfl
  replace HC := Ms.hal HC (.cells #[.string N, .string (⟨#[32]⟩ ++ N), .string (⟨#[9, 32, 9]⟩ ++ N ++ ⟨#[32, 32]⟩), .string (N ++ ⟨#[35]⟩ ++ CC), .string (N ++ ⟨#[32, 35, 32]⟩ ++ CC)] 9)
  replace HU : Hid (Strs (w2.alloc (.cells #[.string N, .string (⟨#[32]⟩ ++ N), .string (⟨#[9, 32, 9]⟩ ++ N ++ ⟨#[32, 32]⟩), .string (N ++ ⟨#[35]⟩ ++ CC), .string (N ++ ⟨#[32, 35, 32]⟩ ++ CC)] 9)) (.slice ua L.length uc) L) := Lib.hid (HU.out.al _)
  have hg : w2.heap.size < (w2.alloc (.cells #[.string N, .string (⟨#[32]⟩ ++ N), .string (⟨#[9, 32, 9]⟩ ++ N ++ ⟨#[32, 32]⟩), .string (N ++ ⟨#[35]⟩ ++ CC), .string (N ++ ⟨#[32, 35, 32]⟩ ++ CC)] 9)).heap.size := by simp
  generalize [N, ⟨#[32]⟩ ++ N, ⟨#[9, 32, 9]⟩ ++ N ++ ⟨#[32, 32]⟩, N ++ ⟨#[35]⟩ ++ CC, N ++ ⟨#[32, 35, 32]⟩ ++ CC] = five at *
  generalize w2.alloc (.cells #[.string N, .string (⟨#[32]⟩ ++ N), .string (⟨#[9, 32, 9]⟩ ++ N ++ ⟨#[32, 32]⟩), .string (N ++ ⟨#[35]⟩ ++ CC), .string (N ++ ⟨#[32, 35, 32]⟩ ++ CC)] 9) = W1 at *
  generalize w2.heap.size = g at *
  go_loopw [47] (fun i wr => ∃ k : Nat, k ≤ 5 ∧ i = .int .i64 k ∧ Below W1.heap.size W1 wr) (fun i _ => 5 - (intOf i).toNat)
  case atStart => exact ⟨0, by omega, rfl, Below.refl _ _⟩
  case round =>
    obtain ⟨k, hk, rfl, hb⟩ := hrel
    have HP := Lib.hid (HC.out.bl hb)
    have HU2 := Lib.hid (HU.out.bl hb)
    by_cases hk5 : k < 5
    · have c0 := (hb.cell (p := ⟨g, k, none⟩) hg).trans (HV.out k hk5)
      have HX := Lib.hid (HFL.out k hk5)
      generalize five.getD k N = s at *
      have HB2 := Lib.hid hb
      clear hb
      go_wp2_with fail
      refine (fields_s s L 0 HX HP).mono ?_; rintro e w3 ⟨y, rfl, HY, hb3, HP⟩
      replace HU2 := Strs.hbl HU2 hb3
      have HB3 := Lib.hid ((HB2.out.trans (hb3.mono HB2.out.size) : Below W1.heap.size W1 w3))
      clear hb3
      go_wp2_with fail
      refine (eq_s y _ L L true (by simp) (by have := HLl.out; omega) (by have := HLl.out; omega) HY.out HU2.out HP).mono ?_; rintro e w4 ⟨rfl, hb4, HP⟩
      have HB4 := Lib.hid ((HB3.out.trans (hb4.mono HB3.out.size) : Below W1.heap.size W1 w4))
      clear hb4
      go_wp2
      go_roundw
      case rel => first | exact ⟨k + 1, by omega, by go_num, HB4.out⟩ | ((repeat apply Exists.intro); exact ⟨⟨k + 1, by omega, by go_num, HB4.out⟩, rfl⟩)
      case measure => simp [intOf] <;> omega
    · obtain rfl : k = 5 := by omega
      clear hb HV HFL hg HC HU
      generalize wr = W2 at *
      have HC := HP
      have HU := HU2
      clear HP HU2
      go_wp2
      go_loopw [67] (fun i wr => ∃ k : Nat, k ≤ L.length ∧ i = .int .i64 k ∧ Below W2.heap.size W2 wr) (fun i _ => L.length - (intOf i).toNat)
      case atStart => exact ⟨0, by omega, rfl, Below.refl _ _⟩
      case round =>
        obtain ⟨k, hk, rfl, hb⟩ := hrel
        have HP := Lib.hid (HC.out.bl hb)
        have HB2 := Lib.hid hb
        by_cases hkn : k < L.length
        · obtain ⟨b, off, rfl, hbl, hcl⟩ := HU.out.block (by omega)
          have c0 := (hb.cell (p := ⟨b, off + k, none⟩) hbl).trans (hcl k L[k] (List.getElem?_eq_getElem hkn))
          obtain ⟨hyj, hys⟩ := HW.out L[k] (List.getElem_mem hkn)
          have hL12 : L.length ≤ 12 := HLl.out
          have hk0 : (0 : Int) ≤ (k : Int) := by omega
          have hk1 : (k : Int) < (L.length : Int) := by omega
          clear hb hbl hcl
          generalize L[k] = y at *
          have HE := isEmpty_list y
          have q1 : ¬ 9223372036854775807 < 1 + y.size := by omega
          have q2 : ¬ 9223372036854775807 < 1 + y.size + 1 := by omega
          cases he : y.data.toList.isEmpty with
          | true =>
            have hw : Lx.wants y.data.toList = true := by unfold Lx.wants; rw [he]; rfl
            have h1 : y.toList.isEmpty = true := HE.trans he
            rw [wr_quoted y hw] at hyj
            have hqq : ((⟨#[34]⟩ ++ y ++ ⟨#[34]⟩ : ByteArray).toList != (⟨#[34]⟩ ++ y ++ ⟨#[34]⟩ : ByteArray).toList) = false := by simp
            have HYJ := Lib.hid hyj
            clear hyj hw he HE
            go_wp2_with fail
            refine (join_s _ [y] (by simp) (by simp; omega) (⟨#[34]⟩ ++ y ++ ⟨#[34]⟩) 0 HYJ (strs_new [y] rfl rfl (by simp) rfl) (Ms.hal HP _)).mono ?_; rintro e w5 ⟨rfl, hb5, HP⟩
            have HB5 := Lib.hid (((HB2.out.alloc HB2.out.size _).trans (hb5.mono (by have := HB2.out.size; simp; omega)) : Below W2.heap.size W2 w5))
            clear hb5
            go_wp2
            go_roundw
            case rel => (repeat apply Exists.intro); exact ⟨⟨k + 1, by omega, by go_num, HB5.out⟩, rfl⟩
            case measure => simp [intOf] <;> omega
          | false =>
            have h1 : y.toList.isEmpty = false := HE.trans he
            cases hc1 : y.data.toList.contains 32 with
            | true =>
              have hw : Lx.wants y.data.toList = true := by unfold Lx.wants; rw [he, hc1]; rfl
              rw [wr_quoted y hw] at hyj
              have hqq : ((⟨#[34]⟩ ++ y ++ ⟨#[34]⟩ : ByteArray).toList != (⟨#[34]⟩ ++ y ++ ⟨#[34]⟩ : ByteArray).toList) = false := by simp
              have HYJ := Lib.hid hyj
              have hx1 := fun w => contains_c y 32 true hc1 w
              clear hyj hw he HE hc1
              go_wp2_with fail
              refine (hx1 _).mono ?_; rintro e w4 ⟨rfl, rfl⟩
              go_wp2_with fail
              refine (join_s _ [y] (by simp) (by simp; omega) (⟨#[34]⟩ ++ y ++ ⟨#[34]⟩) 0 HYJ (strs_new [y] rfl rfl (by simp) rfl) (Ms.hal HP _)).mono ?_; rintro e w5 ⟨rfl, hb5, HP⟩
              have HB5 := Lib.hid (((HB2.out.alloc HB2.out.size _).trans (hb5.mono (by have := HB2.out.size; simp; omega)) : Below W2.heap.size W2 w5))
              clear hb5
              go_wp2
              go_roundw
              case rel => (repeat apply Exists.intro); exact ⟨⟨k + 1, by omega, by go_num, HB5.out⟩, rfl⟩
              case measure => simp [intOf] <;> omega
            | false =>
              have hx1 := fun w => contains_c y 32 false hc1 w
              cases hc2 : y.data.toList.contains 35 with
              | true =>
                have hw : Lx.wants y.data.toList = true := by unfold Lx.wants; rw [he, hc1, hc2]; rfl
                rw [wr_quoted y hw] at hyj
                have hqq : ((⟨#[34]⟩ ++ y ++ ⟨#[34]⟩ : ByteArray).toList != (⟨#[34]⟩ ++ y ++ ⟨#[34]⟩ : ByteArray).toList) = false := by simp
                have HYJ := Lib.hid hyj
                have hx2 := fun w => contains_c y 35 true hc2 w
                clear hyj hw he HE hc1 hc2
                go_wp2_with fail
                refine (hx1 _).mono ?_; rintro e w4 ⟨rfl, rfl⟩
                go_wp2_with fail
                refine (hx2 _).mono ?_; rintro e w4 ⟨rfl, rfl⟩
                go_wp2_with fail
                refine (join_s _ [y] (by simp) (by simp; omega) (⟨#[34]⟩ ++ y ++ ⟨#[34]⟩) 0 HYJ (strs_new [y] rfl rfl (by simp) rfl) (Ms.hal HP _)).mono ?_; rintro e w5 ⟨rfl, hb5, HP⟩
                have HB5 := Lib.hid (((HB2.out.alloc HB2.out.size _).trans (hb5.mono (by have := HB2.out.size; simp; omega)) : Below W2.heap.size W2 w5))
                clear hb5
                go_wp2
                go_roundw
                case rel => (repeat apply Exists.intro); exact ⟨⟨k + 1, by omega, by go_num, HB5.out⟩, rfl⟩
                case measure => simp [intOf] <;> omega
              | false =>
                have hw : Lx.wants y.data.toList = false := by unfold Lx.wants; rw [he, hc1, hc2]; rfl
                rw [wr_plain y hw] at hyj
                have hqq : (y.toList != y.toList) = false := by simp
                have HYJ := Lib.hid hyj
                have hx2 := fun w => contains_c y 35 false hc2 w
                clear hyj hw he HE hc1 hc2
                go_wp2_with fail
                refine (hx1 _).mono ?_; rintro e w4 ⟨rfl, rfl⟩
                go_wp2_with fail
                refine (hx2 _).mono ?_; rintro e w4 ⟨rfl, rfl⟩
                go_wp2_with fail
                refine (join_s _ [y] (by simp) (by simp; omega) y 0 HYJ (strs_new [y] rfl rfl (by simp) rfl) (Ms.hal HP _)).mono ?_; rintro e w5 ⟨rfl, hb5, HP⟩
                have HB5 := Lib.hid (((HB2.out.alloc HB2.out.size _).trans (hb5.mono (by have := HB2.out.size; simp; omega)) : Below W2.heap.size W2 w5))
                clear hb5
                go_wp2
                go_roundw
                case rel => (repeat apply Exists.intro); exact ⟨⟨k + 1, by omega, by go_num, HB5.out⟩, rfl⟩
                case measure => simp [intOf] <;> omega
        · obtain rfl : k = L.length := by omega
          clear hb
          go_wp2_with fail
          refine (works_s HP).mono ?_; rintro e w6 ⟨rfl, HP⟩
          go_wp2
          go_ret
          exact ⟨rfl, HP.out.1⟩
theorem back_walk (W0 : World) (v : Value) (D : List (List UInt8)) (hI : Drf W0 v D) (_hz : ∀ l ∈ D, l.length ≤ maxLen) (_hl : D.length ≤ maxLen) (cm : ByteArray) (_ws : cm.size ≤ maxLen) (hM : MaxW W0) : Calls Tryd.prog 5 #[v, .string cm] W0 fun e w' => e = .returned (.bool true) ∧ Below W0.heap.size W0 w' :=
  back_core W0 v D hI cm _ rfl hM
end Go.Proofs.YtlekbbggbfhgaaaDoor
