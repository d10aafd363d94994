/- The walk of WordBack. -/
import Derived.Test.YtiompmplnmkakaaDoorLaw08d
import Derived.Test.YtiompmplnmkakaaDoorCas
import Derived.Deep.RegionHeld3
namespace Go.Proofs.YtiompmplnmkakaaDoor
open Go.RowKit
/-- a list of words lies in block h -/
def Xq (L : List ByteArray) (F : Nat) (N : Int) (g h : Nat) (w : World) : Prop :=
  w.cell? ⟨h, 0, none⟩ = some (.slice (some ⟨g, 0, none⟩) L.length L.length) ∧ w.cell? ⟨h, 1, none⟩ = some (.func (.func F) #[] #[]) ∧ w.cell? ⟨h, 2, none⟩ = some (.int .i64 N) ∧ Cs w g (strV L)
theorem Xq.bl {L : List ByteArray} {F : Nat} {N : Int} {g h : Nat} {w w1 : World} (hx : Xq L F N g h w) (k : Below w.heap.size w w1) : Xq L F N g h w1 := ⟨cell_bl k hx.1, cell_bl k hx.2.1, cell_bl k hx.2.2.1, hx.2.2.2.bl k⟩
theorem Xq.hbl {L : List ByteArray} {F : Nat} {N : Int} {g h : Nat} {w w1 : World} (hx : Hid (Xq L F N g h w)) (k : Below w.heap.size w w1) : Hid (Xq L F N g h w1) := Lib.hid (hx.out.bl k)
theorem Xq.hdw {L : List ByteArray} {F : Nat} {N : Int} {g h : Nat} {w w1 : World} (hx : Hid (Xq L F N g h w)) (k : Dw w w1) : Hid (Xq L F N g h w1) := Lib.hid (hx.out.bl (k.below' _))
theorem dw_drew {a b : World} (h : Dw a b) : Dw a b.drew := h.trans ⟨1, rfl⟩
theorem ext_eq (x y : ByteArray) (n : Nat) : ((y.extract 0 n).toList == (x.extract 0 n).toList) = true ↔ (Wd.nats y.data.toList).take n = (Wd.nats x.data.toList).take n := by
  have e : ∀ z : ByteArray, (z.extract 0 n).toList = z.data.toList.take n := fun z => by
    rw [ByteArray.toList_eq, Lib.extract_data]; rfl
  rw [e, e, beq_iff_eq]
  constructor
  · intro h
    rw [Wd.nats, Wd.nats, ← List.map_take, ← List.map_take, h]
  · intro h
    refine Wd.nats_inj _ _ ?_
    rw [Wd.nats, Wd.nats, List.map_take, List.map_take]
    exact h
set_option maxRecDepth 100000 in
set_option maxHeartbeats 4000000 in
theorem back_core (a0 a1 a2 B : Int) (q i m : Nat) (x : ByteArray) (h0 : 0 ≤ a0 ∧ a0 ≤ 255) (h1 : 0 ≤ a1 ∧ a1 ≤ 255) (h2 : 0 ≤ a2 ∧ a2 ≤ 255) (hB : 0 ≤ B ∧ B ≤ 65535) (hq : a0 % 4 = (q : Int)) (hq4 : q < 4) (hi : a1 % ((RQ q).length : Int) = (i : Int)) (hil : i < (RQ q).length) (hx : (RQ q)[i]? = some x) (hm : a2 % (x.size : Int) = (m : Int)) (hxs : x.size ≤ 100 ∧ 0 < x.size) (hmx : m < x.size) (hlow : Hid (Wd.low x.data.toList = Wd.nats x.data.toList))
    (hP : Hid ((0 < Wd.oth (wl (RQ q)) i (m + 1) (RQ q).length ∧ m + 1 < x.size ∧ Wd.fnd (wl (LQ q)) ((Wd.nats x.data.toList).take (m + 1)) = (0, 8)) ∨ (¬ (0 < Wd.oth (wl (RQ q)) i (m + 1) (RQ q).length ∧ m + 1 < x.size) ∧ Wd.fnd (wl (LQ q)) ((Wd.nats x.data.toList).take (m + 1)) = ((i : Int) + NQ q, 0) ∧ Wd.fnd (wl (LQ q)) (Wd.nats x.data.toList) = ((i : Int) + NQ q, 0))))
    (W0 : World) (hT : TabW W0) : Calls Tryd.prog 5 #[.int .u8 a0, .int .u8 a1, .int .u8 a2, .int .u16 B] W0 fun e w' => e = .returned (.bool true) ∧ Below W0.heap.size W0 w' := by
  have HC := Lib.hid (Wo.mk0 hT)
  obtain ⟨hl1, hl2⟩ := len_q q hq4
  obtain ⟨h00, h01⟩ := h0
  obtain ⟨h10, h11⟩ := h1
  obtain ⟨h20, h21⟩ := h2
  obtain ⟨hx1, hx2⟩ := hxs
  clear hT
  go_enter Tryd.func5, Tryd.ntmps5
  go_wp2_with fail
  refine (lists_any _).mono ?_; rintro e w1 ⟨rfl, hL, hb, hsz⟩
  have HC1 := Wo.hbl HC hb
  have hLq := hL.l q hq4
  have hFq := hL.find q hq4
  have hNq := hL.first q hq4
  have HWq := hL.words q hq4
  have hq0 : (0 : Int) ≤ (q : Int) := by omega
  have hq1 : (q : Int) < 4 := by omega
  have H4 := Lib.hid hq4
  have hE := enters_q q hq4
  have HF : Hid (∀ (wx : World) (s : ByteArray) (r1 r2 : Int), Hid (Wd.fnd (wl (LQ q)) (Wd.low s.data.toList) = (r1, r2)) → Hid (Wo W0 wx) → Calls Tryd.prog (FQ q) #[.string s] wx fun e w' => e = .returned (.tuple #[.int .i64 r1, .int .i64 r2]) ∧ Below wx.heap.size wx w' ∧ Hid (Wo W0 w')) := Lib.hid (fun wx s r1 r2 hr hc => find_q q hq4 s r1 r2 hr hc)
  have hN0 : 0 ≤ NQ q ∧ NQ q ≤ 1 := by rcases q_split q hq4 with rfl | rfl | rfl | rfl <;> decide
  obtain ⟨hN1, hN2⟩ := hN0
  clear hL hb HC
  generalize FQ q = F at *
  generalize NQ q = N at *
  generalize hRQ : RQ q = L at *
  generalize hh : W0.heap.size = h at *
  have hX : Xq L F N (h + q) (h + 5) (w1.alloc (.cells #[.slice (some ⟨h + q, 0, none⟩) L.length L.length, .func (.func F) #[] #[], .int .i64 N] 31)) :=
    ⟨row_cell (row_new hsz.symm) rfl, row_cell (row_new hsz.symm) rfl, row_cell (row_new hsz.symm) rfl, HWq.al _⟩
  have HX := Lib.hid hX
  have HC2 := Wo.hal HC1 (.cells #[.slice (some ⟨h + q, 0, none⟩) L.length L.length, .func (.func F) #[] #[], .int .i64 N] 31)
  have hi0 : (0 : Int) ≤ (i : Int) := by omega
  have hi1 : (i : Int) < (L.length : Int) := by omega
  have hl0 : ¬ L.length = 0 := by omega
  have hm0 : (0 : Int) ≤ (m : Int) := by omega
  have hm1 : (m : Int) + 1 ≤ (x.size : Int) := by omega
  have hxz : ¬ x.size = 0 := by omega
  have x0 := HX.out.1
  have c0 := HX.out.2.2.2.at i (strV_at _ _ _ hx)
  have H5 := Lib.hid hsz
  clear hX HWq HC1 hh
  go_wp2_with (refine wpList_store_row rfl 31 _ _ rfl (h + 5) #[.slice (some ⟨h + q, 0, none⟩) L.length L.length, .func (.func F) #[] #[], .int .i64 N] rfl rfl _ _ (row_new hsz.symm) sz31 rfl (by simp [Value.oneCell']) ?_; rw [setRow_new hsz.symm])
  clear hLq hFq hNq hq hq0 hq1 hsz x0 c0
  generalize w1.alloc (.cells #[.slice (some ⟨h + q, 0, none⟩) L.length L.length, .func (.func F) #[] #[], .int .i64 N] 31) = w2 at *
  obtain ⟨n, hn⟩ : ∃ n : Nat, 1 + (m : Int) = (n : Int) := ⟨m + 1, by omega⟩
  have hn1 : n = m + 1 := by omega
  rw [hi, hm, hn]
  have HI := Lib.hid hi
  have HN1 := Lib.hid hn1
  have HM := Lib.hid hm
  have g1 : (1 : Int) ≤ (n : Int) := by omega
  have g2 : (n : Int) ≤ (x.size : Int) := by omega
  have hxL := Lib.hid hx
  have hRQ2 := Lib.hid hRQ
  have HB := Lib.hid hB
  clear hn1 hmx hi hm hn hm0 hm1 h00 h01 h10 h11 h20 h21 hx hRQ hB hl0 hxz
  go_loopw [13, 14] (fun o j wr => ∃ (k O : Nat), k ≤ L.length ∧ O ≤ k ∧ o = .int .i64 O ∧ j = .int .i64 k ∧ Hid (O = Wd.oth (wl L) i n k) ∧ Dw w2 wr) (fun _ j _ => L.length - (intOf j).toNat)
  case atStart => exact ⟨0, 0, by omega, by omega, rfl, rfl, rfl, Dw.refl _⟩
  case round =>
    obtain ⟨k, O, hk, hO, rfl, rfl, HO, hd⟩ := hrel
    have HD := Lib.hid hd
    have HXr := Xq.hdw HX hd
    have x0 := HXr.out.1
    by_cases hkl : k < L.length
    · have hy : L[k]? = some (L[k]) := List.getElem?_eq_getElem hkl
      generalize L[k] = y at *
      have y0 := HXr.out.2.2.2.at k (strV_at _ _ _ hy)
      have hoth : Wd.oth (wl L) i n (k + 1) = Wd.oth (wl L) i n k + (if k ≠ i ∧ n ≤ (Wd.nats y.data.toList).length ∧ (Wd.nats y.data.toList).take n = (Wd.nats x.data.toList).take n then 1 else 0) := by
        rw [Wd.oth, wl_at L k y hy, wl_at L i x hxL.out]
      have hk0 : (0 : Int) ≤ (k : Int) := by omega
      have hk1 : (k : Int) < (L.length : Int) := by omega
      clear hy
      by_cases hki : k = i
      · have hne : ((k : Int) != (i : Int)) = false := by rw [hki]; simp
        rw [if_neg (fun h => h.1 hki), Nat.add_zero] at hoth
        have HO2 : Hid (O = Wd.oth (wl L) i n (k + 1)) := Lib.hid (by rw [hoth]; exact HO.out)
        clear hoth hki hd
        go_wp2
        go_region
        go_wp2
        go_roundw
        case rel => exact ⟨k + 1, O, by omega, by omega, rfl, by go_num, HO2, dw_drew HD.out⟩
        case measure => simp [intOf] <;> omega
      · have hne : ((k : Int) != (i : Int)) = true := by simp; omega
        by_cases hny : n ≤ y.size
        · have g3 : (n : Int) ≤ (y.size : Int) := by omega
          by_cases hey : (Wd.nats y.data.toList).take n = (Wd.nats x.data.toList).take n
          · have hex : ((y.extract 0 n).toList == (x.extract 0 n).toList) = true := (ext_eq x y n).2 hey
            rw [if_pos ⟨hki, by rw [Wd.nats_len]; exact hny, hey⟩] at hoth
            have HO2 : Hid (O + 1 = Wd.oth (wl L) i n (k + 1)) := Lib.hid (by rw [hoth]; exact congrArg (· + 1) HO.out)
            clear hoth hki hd hey
            go_wp2
            go_region
            go_wp2
            go_roundw
            case rel => exact ⟨k + 1, O + 1, by omega, by omega, by go_num, by go_num, HO2, dw_drew HD.out⟩
            case measure => simp [intOf] <;> omega
          · have hex : ((y.extract 0 n).toList == (x.extract 0 n).toList) = false := by
              rw [Bool.eq_false_iff]
              exact fun h => hey ((ext_eq x y n).1 h)
            rw [if_neg (fun h => hey h.2.2), Nat.add_zero] at hoth
            have HO2 : Hid (O = Wd.oth (wl L) i n (k + 1)) := Lib.hid (by rw [hoth]; exact HO.out)
            clear hoth hki hd hey
            go_wp2
            go_region
            go_wp2
            go_roundw
            case rel => exact ⟨k + 1, O, by omega, by omega, rfl, by go_num, HO2, dw_drew HD.out⟩
            case measure => simp [intOf] <;> omega
        · have g3 : ¬ (n : Int) ≤ (y.size : Int) := by omega
          rw [if_neg (fun h => hny (by rw [← Wd.nats_len]; exact h.2.1)), Nat.add_zero] at hoth
          have HO2 : Hid (O = Wd.oth (wl L) i n (k + 1)) := Lib.hid (by rw [hoth]; exact HO.out)
          clear hoth hki hd
          go_wp2
          go_region
          go_wp2
          go_roundw
          case rel => exact ⟨k + 1, O, by omega, by omega, rfl, by go_num, HO2, dw_drew HD.out⟩
          case measure => simp [intOf] <;> omega
    · obtain rfl : k = L.length := by omega
      have HCr := Wo.hdw HC2 HD.out
      have p1 := HXr.out.2.1
      have hz : (x.extract 0 n).size ≤ 1000 := by rw [ByteArray.size_extract]; omega
      have hlo : Wd.low (x.extract 0 n).data.toList = (Wd.nats x.data.toList).take n := by
        rw [← hlow.out, Lib.extract_data, Wd.low, Wd.low, List.map_take]; rfl
      have hpp := hP.out
      rw [← HN1.out, ← HO.out, ← hlo] at hpp
      have HZ := Lib.hid hz
      have hb0 := HB.out
      clear hkl hk hd hz hP
      rcases hpp with ⟨o1, o2, o3⟩ | ⟨o1, o3, o4⟩
      · have HFD : ∀ S : ByteArray, Hid (Wd.low S.data.toList = Wd.low (x.extract 0 n).data.toList) → Hid (Wd.fnd (wl (LQ q)) (Wd.low S.data.toList) = (0, 8)) := fun S h => Lib.hid (by rw [h.out]; exact o3)
        have q1 : (0 : Int) < (O : Int) := by omega
        have q2 : (n : Int) < (x.size : Int) := by omega
        have HFQ := Lib.hid HFD
        clear HFD o1 o2 o3 hlo
        go_wp2_with fail
        clear x0
        replace HXr := Xq.hdw HXr (dw_drew (Dw.refl _))
        replace HCr := Wo.hdr HCr
        go_region_held3 (fun w' => w'.cell? ⟨h + 5, 1, none⟩ = some (.func (.func F) #[] #[]) ∧ Xq L F N (h + q) (h + 5) w' ∧ Wo W0 w') (first | exact ⟨p1, HXr.out, HCr.out⟩)
          (first
            | (go_at_call 24; refine (cased_any _ HZ.out B HB.out _).mono ?_; rintro e w3 ⟨S, rfl, HS, hb⟩; replace p1 := cell_bl hb p1; replace HXr := Xq.hbl HXr hb; replace HCr := Wo.hbl HCr hb; clear hb)
            | (go_at_fn F; refine (HF.out _ _ 0 8 (HFQ.out _ HS) HCr).mono ?_; rintro e w4 ⟨rfl, hb, HC4⟩; replace p1 := cell_bl hb p1; replace HXr := Xq.hbl HXr hb; replace HCr := HC4; clear hb))
        go_wp2_with fail
        refine (works8_s HCr).mono ?_; rintro e w6 ⟨rfl, HC6⟩
        go_wp2
        go_ret
        exact ⟨rfl, HC6.out.1⟩
      · have HFD : ∀ S : ByteArray, Hid (Wd.low S.data.toList = Wd.low (x.extract 0 n).data.toList) → Hid (Wd.fnd (wl (LQ q)) (Wd.low S.data.toList) = ((i : Int) + N, 0)) := fun S h => Lib.hid (by rw [h.out]; exact o3)
        have HFW : ∀ S : ByteArray, Hid (Wd.low S.data.toList = Wd.low x.data.toList) → Hid (Wd.fnd (wl (LQ q)) (Wd.low S.data.toList) = ((i : Int) + N, 0)) := fun S h => Lib.hid (by rw [h.out, hlow.out]; exact o4)
        have HFQ := Lib.hid HFD
        have HFV := Lib.hid HFW
        have hz2 : x.size ≤ 1000 := by omega
        have HZ2 := Lib.hid hz2
        have e1 : ((i : Int) + N == (i : Int) + N) = true := by simp
        have hw : -9223372036854775808 ≤ (i : Int) + N ∧ (i : Int) + N ≤ 9223372036854775807 := by omega
        have hwr := wrap64_of hw
        have HO1 := Lib.hid o1
        clear HFD HFW o1 o3 o4 hlo hz2 hw
        have hsplit : ¬ (0 : Int) < (O : Int) ∨ ((0 : Int) < (O : Int) ∧ ¬ (n : Int) < (x.size : Int)) := by
          by_cases h : 0 < O
          · exact .inr ⟨by omega, fun h2 => HO1.out ⟨h, by omega⟩⟩
          · exact .inl (by omega)
        go_wp2_with fail
        clear x0
        replace HXr := Xq.hdw HXr (dw_drew (Dw.refl _))
        replace HCr := Wo.hdr HCr
        go_region_held3 (fun w' => w'.cell? ⟨h + 5, 1, none⟩ = some (.func (.func F) #[] #[]) ∧ Xq L F N (h + q) (h + 5) w' ∧ Wo W0 w') (first | exact ⟨p1, HXr.out, HCr.out⟩)
          (first
            | (go_at_call 24; refine (cased_any _ HZ.out B HB.out _).mono ?_; rintro e w3 ⟨S, rfl, HS, hb⟩; replace p1 := cell_bl hb p1; replace HXr := Xq.hbl HXr hb; replace HCr := Wo.hbl HCr hb; clear hb)
            | (go_at_fn F; refine (HF.out _ _ ((i : Int) + N) 0 (HFQ.out _ HS) HCr).mono ?_; rintro e w4 ⟨rfl, hb, HC4⟩; replace p1 := cell_bl hb p1; replace HXr := Xq.hbl HXr hb; replace HCr := HC4; clear hb))
        generalize w4 = w5 at *
        clear HS
        rcases hsplit with q1 | ⟨q1, q2⟩
        · go_wp2_with fail
          replace HXr := Xq.hdw HXr (dw_drew (Dw.refl _))
          replace HCr := Wo.hdr HCr
          go_region_held3 (fun w' => w'.cell? ⟨h + 5, 1, none⟩ = some (.func (.func F) #[] #[]) ∧ Xq L F N (h + q) (h + 5) w' ∧ Wo W0 w') (first | exact ⟨p1, HXr.out, HCr.out⟩)
            (first
              | (go_at_call 24; refine (cased_any _ HZ2.out B HB.out _).mono ?_; rintro e w3 ⟨S, rfl, HS, hb⟩; replace p1 := cell_bl hb p1; replace HXr := Xq.hbl HXr hb; replace HCr := Wo.hbl HCr hb; clear hb)
              | (go_at_fn F; refine (HF.out _ _ ((i : Int) + N) 0 (HFV.out _ HS) HCr).mono ?_; rintro e w4 ⟨rfl, hb, HC4⟩; replace p1 := cell_bl hb p1; replace HXr := Xq.hbl HXr hb; replace HCr := HC4; clear hb))
          have p2 := HXr.out.2.2.1
          go_wp2_with fail
          refine (works8_s HCr).mono ?_; rintro e w6 ⟨rfl, HC6⟩
          go_wp2
          go_ret
          exact ⟨rfl, HC6.out.1⟩
        · go_wp2_with fail
          replace HXr := Xq.hdw HXr (dw_drew (Dw.refl _))
          replace HCr := Wo.hdr HCr
          go_region_held3 (fun w' => w'.cell? ⟨h + 5, 1, none⟩ = some (.func (.func F) #[] #[]) ∧ Xq L F N (h + q) (h + 5) w' ∧ Wo W0 w') (first | exact ⟨p1, HXr.out, HCr.out⟩)
            (first
              | (go_at_call 24; refine (cased_any _ HZ2.out B HB.out _).mono ?_; rintro e w3 ⟨S, rfl, HS, hb⟩; replace p1 := cell_bl hb p1; replace HXr := Xq.hbl HXr hb; replace HCr := Wo.hbl HCr hb; clear hb)
              | (go_at_fn F; refine (HF.out _ _ ((i : Int) + N) 0 (HFV.out _ HS) HCr).mono ?_; rintro e w4 ⟨rfl, hb, HC4⟩; replace p1 := cell_bl hb p1; replace HXr := Xq.hbl HXr hb; replace HCr := HC4; clear hb))
          have p2 := HXr.out.2.2.1
          go_wp2_with fail
          refine (works8_s HCr).mono ?_; rintro e w6 ⟨rfl, HC6⟩
          go_wp2
          go_ret
          exact ⟨rfl, HC6.out.1⟩
end Go.Proofs.YtiompmplnmkakaaDoor
