/- The walk of DayspecWords: it returns true. -/
import Derived.Test.YtedcfnaphfgfjaaDoorDyD
namespace Go.Proofs.YtedcfnaphfgfjaaDoor
open Go.RowKit Go.Shelf
set_option maxRecDepth 100000 in
set_option maxHeartbeats 8000000 in
theorem words_core (A M B D C : Int) (hA : 0 ≤ A ∧ A ≤ 255) (hM : 0 ≤ M ∧ M ≤ 255) (hB : 0 ≤ B ∧ B ≤ 255) (hD : 0 ≤ D ∧ D ≤ 255) (hC : 0 ≤ C ∧ C ≤ 255) (w q kk : Nat) (hw : w < 7) (ew : A % 7 = (w : Int)) (X : ByteArray) (hX : wdB w = X) (n l r : Nat) (hn : X.size = n) (hl : lsB w = l) (hr : (n : Int) - (l : Int) = (r : Int)) (hq : M % ((r : Int) + 1) = (q : Int)) (hk : C % 3 = (kk : Int)) (dd : Nat) (hd : D % 31 = (dd : Int))
    (W0 : World) (hT : TabY0 W0 ∧ MaxY W0) :
    Calls Tryd.prog 5 #[.int .u8 A, .int .u8 M, .int .u8 B, .int .u8 D, .int .u8 C] W0 fun e w' => e = .returned (.bool true) ∧ Below W0.heap.size W0 w' := by
  have HC0 := Lib.hid (Ys.mk0 (TabY.of hT))
  have HC := Lib.hid (Bs.mk0 W0)
  have hsz := wd_sizes w hw
  rw [hX, hn] at hsz
  have hlb : 1 ≤ l ∧ l ≤ 2 := by rw [← hl]; unfold lsB; split <;> omega
  have hqr : q ≤ r := by have := Int.emod_lt_of_pos M (b := (r : Int) + 1) (by omega); omega
  have tW := wLst_at w hw
  have tL := lLst_at w hw
  rw [hX] at tW
  rw [hl] at tL
  obtain ⟨P, hP⟩ : ∃ P, X.extract 0 (l + q) = P := ⟨_, rfl⟩
  have hPs : P.size = l + q := by rw [← hP, ByteArray.size_extract]; omega
  have HPP := Lib.hid hP
  have w7 : (w : Int) < 7 := by omega
  have w0 : (0 : Int) ≤ (w : Int) := by omega
  have q1 : (l : Int) + (q : Int) ≤ (n : Int) := by omega
  have q2 : (0 : Int) ≤ (l : Int) + (q : Int) := by omega
  have q3 : (q : Int) ≤ 9 := by omega
  have q4 : (l : Int) ≤ 2 := by omega
  have q5 : (r : Int) ≤ 9 := by omega
  have q6 : (0 : Int) ≤ (r : Int) := by omega
  have q7 : (kk : Int) ≤ 2 := by omega
  have q8 : (n : Int) ≤ 9 := by omega
  have BD := Lib.hid (And.intro hA (And.intro hD hC))
  have HW := Lib.hid (And.intro hw (And.intro (show q ≤ (wdB w).size - lsB w by rw [hX, hn, hl]; omega) (And.intro (show kk < 3 by omega) (show dd < 31 by omega))))
  have HH := Lib.hid (And.intro hX (And.intro hn (And.intro hl (And.intro hqr (And.intro hd hlb)))))
  obtain ⟨v, hv⟩ : ∃ v, dayW kk dd = v := ⟨_, rfl⟩
  have hv32 : v < 32 := by rw [← hv]; unfold dayW; split <;> omega
  have HV := Lib.hid (show (0 ≤ 1 + (kk : Int) ∧ 1 + (kk : Int) ≤ 255) ∧ (0 ≤ (w : Int) ∧ (w : Int) ≤ 255) ∧ Dfm.mK (1 + (kk : Int)) = ((kk + 2 : Nat) : Int) ∧ Dfm.mW (1 + (kk : Int)) (w : Int) = (w : Int) ∧ Dfm.mD (1 + (kk : Int)) D = (v : Int) by
    refine ⟨by omega, by omega, by unfold Dfm.mK; omega, ?_, ?_⟩
    · unfold Dfm.mW; rw [if_neg (by omega)]; omega
    · unfold Dfm.mD; rw [← hv, hd]; unfold dayW
      by_cases e : kk = 0
      · rw [if_pos (by omega), if_pos e]; rfl
      · rw [if_neg (by omega), if_neg e]; omega)
  obtain ⟨v1, hv1⟩ : ∃ v1, v / 10 = v1 := ⟨_, rfl⟩
  obtain ⟨v2, hv2⟩ : ∃ v2, v % 10 = v2 := ⟨_, rfl⟩
  have e1 : (v : Int) / 10 = (v1 : Int) := by omega
  have e2 : (v : Int) % 10 = (v2 : Int) := by omega
  have v1b : (v1 : Int) ≤ 3 := by omega
  have v2b : (v2 : Int) ≤ 9 := by omega
  have v0 : (0 : Int) ≤ (v : Int) := by omega
  have htt := trim_two v hv32
  rw [hv1, hv2] at htt
  obtain ⟨N, hN⟩ : ∃ N : ByteArray, (⟨(dcl v).toArray⟩ : ByteArray) = N := ⟨_, rfl⟩
  have hNs : N.size ≤ 2 := by rw [← hN]; exact decB_size (v : Int)
  obtain ⟨DD, hDD⟩ : ∃ DD : ByteArray, (⟨#[UInt8.ofNat (48 + v1), UInt8.ofNat (48 + v2)]⟩ : ByteArray) = DD := ⟨_, rfl⟩
  have hcv0 : ∀ (g : Nat) (wx : World), wx.cell? ⟨g, 0, none⟩ = some (.int .u8 (48 + (v1 : Int))) → wx.cell? ⟨g, 1, none⟩ = some (.int .u8 (48 + (v2 : Int))) → (convert 38 9 (.slice (some ⟨g, 0, none⟩) 2 2)).run Tryd.prog wx = .ok (.string DD) wx := by
    intro g wx a b
    rw [← hDD]
    exact two_y (48 + v1) (48 + v2) g wx (by rw [a]; simp) (by rw [b]; simp)
  have hd2 : DD.size = 2 := by rw [← hDD]; rfl
  have hz2 : ¬ 9223372036854775807 < 1 + DD.size := by omega
  have HT1 : Hid (∀ wx : World, Calls Tryd.prog 14 #[.string ((⟨#[48]⟩ : ByteArray) ++ DD), .string ⟨#[48]⟩] wx fun e w' => e = .returned (.string DD) ∧ wx = w') := Lib.hid (fun wx => (Tryd.strings_TrimPrefix _ _ wx).mono fun e w' ⟨a, b⟩ => ⟨by rw [a, two_data, ← hDD]; show Ending.returned (.string ⟨(Lib.trimPrefix [48, UInt8.ofNat (48 + v1), UInt8.ofNat (48 + v2)] [48]).toArray⟩) = _; rw [htt.1], b.symm⟩)
  have HT2 : Hid (∀ wx : World, Calls Tryd.prog 14 #[.string DD, .string ⟨#[48]⟩] wx fun e w' => e = .returned (.string N) ∧ wx = w') := Lib.hid (fun wx => (Tryd.strings_TrimPrefix _ _ wx).mono fun e w' ⟨a, b⟩ => ⟨by rw [a, ← hDD, ← hN]; show Ending.returned (.string ⟨(Lib.trimPrefix [UInt8.ofNat (48 + v1), UInt8.ofNat (48 + v2)] [48]).toArray⟩) = _; rw [htt.2], b.symm⟩)
  have z1 : ¬ 9223372036854775807 < P.size + 2 := by omega
  have z2 : ¬ 9223372036854775807 < P.size + 2 + N.size := by omega
  have z3 : ¬ 9223372036854775807 < 4 + P.size := by omega
  have HN := Lib.hid (And.intro hv (And.intro hN hPs))
  clear hv hv1 hv2 htt hDD hN
  obtain ⟨hA1, hA2⟩ := hA
  obtain ⟨hM1, hM2⟩ := hM
  obtain ⟨hB1, hB2⟩ := hB
  obtain ⟨hC1, hC2⟩ := hC
  clear hT hX hl hsz hqr hlb
  go_enter Tryd.func5, Tryd.ntmps5
  go_wp2_with fail
  refine (ymade_at (1 + (kk : Int)) (w : Int) D (((kk + 2 : Nat) : Int)) (w : Int) ((v : Nat) : Int) HV.out.1 HV.out.2.1 BD.out.2.1 HV.out.2.2.1 HV.out.2.2.2.1 HV.out.2.2.2.2 _).mono ?_; rintro x w1 ⟨rfl, hb⟩
  replace HC := Bs.hbl (Bs.hal (Bs.hal HC _) _) hb
  clear hb tW tL
  have h14 := Dx.new w1 (((kk + 2 : Nat) : Int)) (w : Int) ((v : Nat) : Int)
  have hcv := hcv0 (w1.heap.size + 1)
  go_upto_block 0 with (go_at_call 14; first | (refine (HT1.out _).mono ?_; rintro x w2 ⟨rfl, rfl⟩) | (refine (HT2.out _).mono ?_; rintro x w2 ⟨rfl, rfl⟩))
  clear hcv hcv0
  replace HC := Bs.hal (Bs.hal HC (.cells #[.int .i64 ((kk : Int) + 2), .int .i64 (w : Int), .int .i64 (v : Int)] 23)) (.cells #[.int .u8 (48 + (v1 : Int)), .int .u8 (48 + (v2 : Int))] 5)
  replace h14 := Dx.al h14 (.cells #[.int .u8 (48 + (v1 : Int)), .int .u8 (48 + (v2 : Int))] 5)
  have ek : (((kk + 2 : Nat)) : Int) = (kk : Int) + 2 := by omega
  rw [ek] at h14
  generalize (w1.alloc (.cells #[.int .i64 ((kk : Int) + 2), .int .i64 (w : Int), .int .i64 (v : Int)] 23)).alloc (.cells #[.int .u8 (48 + (v1 : Int)), .int .u8 (48 + (v2 : Int))] 5) = w5 at *
  generalize w1.heap.size = b14 at *
  have HG := Lib.hid (Dx.lt h14)
  have HG0 := Lib.hid HC.out.size
  go_cut [16] (fun s wx => wx = w5 ∧ ∃ T, s = .string T ∧ Hid (T.data.toList = strW w q kk dd))
  case first =>
    have p0 := Dx.c0 h14
    have hPd : P.data.toList = (wdB w).data.toList.take (lsB w + q) := by rw [HH.out.1, HH.out.2.2.1, ← HPP.out, Lib.extract_data]; rfl
    have hNd : N.data.toList = dcl (dayW kk dd) := by rw [← HN.out.2.1, HN.out.1]
    have HPD := Lib.hid (And.intro hPd hNd)
    have k3 : kk = 0 ∨ kk = 1 ∨ kk = 2 := by omega
    clear hPd hNd
    rcases k3 with k3 | k3 | k3
    · have g2 : ((kk : Int) + 2 == 2) = true := beq_iff_eq.2 (by omega)
      have HK := Lib.hid k3
      clear k3
      go_wp2_with fail
      go_meet
      exact ⟨rfl, _, rfl, Lib.hid (by rw [two_data, HPD.out.1, strW, if_pos HK.out])⟩
    · have g2 : ((kk : Int) + 2 == 2) = false := beq_eq_false_iff_ne.2 (by omega)
      have g4 : ((kk : Int) + 2 == 4) = false := beq_eq_false_iff_ne.2 (by omega)
      have HK := Lib.hid k3
      clear k3
      go_wp2_with fail
      go_meet
      exact ⟨rfl, _, rfl, Lib.hid (by rw [two_data, two_data, HPD.out.1, HPD.out.2, strW, if_neg (by have := HK.out; omega), if_pos HK.out])⟩
    · have g2 : ((kk : Int) + 2 == 2) = false := beq_eq_false_iff_ne.2 (by omega)
      have g4 : ((kk : Int) + 2 == 4) = true := beq_iff_eq.2 (by omega)
      have HK := Lib.hid k3
      clear k3
      go_wp2_with fail
      go_meet
      exact ⟨rfl, _, rfl, Lib.hid (by rw [two_data, two_data, HPD.out.1, HPD.out.2, strW, if_neg (by have := HK.out; omega), if_neg (by have := HK.out; omega)])⟩
  case rest =>
    obtain ⟨rfl, T, rfl, HT⟩ := hcut
    have hparse := words_at w q kk dd HW.out.1 HW.out.2.1 HW.out.2.2.1 HW.out.2.2.2
    have hln := strW_len w q kk dd
    rw [← HT.out] at hparse hln
    have hlen : T.data.toList.length = T.size := by rw [Array.length_toList]; rfl
    have hTs : T.size ≤ 1000 := by rw [hlen, HH.out.2.2.1] at hln; have := HH.out.2.2.2.1; have := HH.out.2.2.2.2.2; omega
    have HPA := Lib.hid hparse
    clear hparse hln
    have hcv := Lib.run_convert_string_bytes (P := Tryd.prog) wc 9 38 5 T Tryd.underlying9 Tryd.underlying38 Tryd.underlying5
    go_wp2
    clear hcv
    replace HC := Bs.hbl HC (below_bytes wc 5 T)
    replace h14 := Dx.bl h14 (below_bytes wc 5 T)
    have hgW := HC.out.size
    have hg14 : b14 < wc.heap.size := HG.out
    have hW0g : W0.heap.size ≤ wc.heap.size := HG0.out
    have hc0 : ∀ j b, T.data.toList[j]? = some b → (Lib.bytesWorld wc 5 T).cell? ⟨wc.heap.size, j, none⟩ = some (.int .u8 (b.toNat : Int)) := by
      intro j b hj
      obtain ⟨h1, h2⟩ := List.getElem?_eq_some_iff.1 hj
      rw [Lib.bytesWorld_cell wc _ T j (by omega), List.getD_eq_getElem?_getD, hj]
      rfl
    have hf0 : ∀ j, j < T.size → (Lib.bytesWorld wc 5 T).frozen? ⟨wc.heap.size, j, none⟩ = false := by
      intro j hj
      have := Lib.bytesWorld_at_new wc 5 T
      simp [World.frozen?, this, Lib.bytesCells]
      omega
    have hsz0 : wc.heap.size < (Lib.bytesWorld wc 5 T).heap.size := by rw [Lib.bytesWorld_size]; omega
    generalize Lib.bytesWorld wc 5 T = w6 at *
    have hcap := grownCap_ge wc T.size 0 5
    generalize grownCap wc T.size 0 5 = cap at *
    generalize wc.heap.size = bb at *
    have HPB := Lib.hid (And.intro HPA.out.1 HPA.out.2)
    have hnb : b14 ≠ bb := by omega
    go_loopw [89] (fun i wr => ∃ (k : Nat) (L : List UInt8), k ≤ T.size ∧ i = .int .i64 k ∧ Hid (L.length = T.size ∧ Wd.low L = Wd.low T.data.toList ∧ ∀ c ∈ L, c.toNat < 128) ∧ Hid (∀ j b, L[j]? = some b → wr.cell? ⟨bb, j, none⟩ = some (.int .u8 (b.toNat : Int))) ∧ Hid (∀ j, j < T.size → wr.frozen? ⟨bb, j, none⟩ = false) ∧ Hid (Bs W0 wr) ∧ Hid (Dx wr b14 ((kk : Int) + 2) (w : Int) (v : Int)) ∧ bb < wr.heap.size) (fun i _ => T.size - (intOf i).toNat)
    case atStart => exact ⟨0, T.data.toList, by omega, rfl, Lib.hid ⟨hlen, rfl, HPA.out.2⟩, Lib.hid hc0, Lib.hid hf0, HC, h14, hsz0⟩
    case round =>
      obtain ⟨k, L, hk, rfl, HL, HCE, HF, HB, HDX, hbw⟩ := hrel
      clear hc0 hf0 HC h14 hsz0
      by_cases hkl : k < T.size
      · have hx : L[k]? = some (L[k]'(by rw [HL.out.1]; exact hkl)) := List.getElem?_eq_getElem _
        have hx1 := HL.out.2.2 _ (List.getElem_mem (show k < L.length by rw [HL.out.1]; exact hkl))
        generalize L[k]'(by rw [HL.out.1]; exact hkl) = c at *
        have c0 := HCE.out k c hx
        have f0 := HF.out k hkl
        have hcl := c.toNat_lt
        have hk0 : (0 : Int) ≤ (k : Int) := by omega
        have hk1 : (k : Int) < (T.size : Int) := by omega
        have hk2 : (k : Int) + 1 ≤ (T.size : Int) := by omega
        have hk3 : (k : Int) ≤ (k : Int) + 1 := by omega
        have hk4 : (k : Int) + 1 ≤ (cap : Int) := by omega
        have hk5 : ¬ cap = k := by omega
        have hcv1 : ∀ cp : Nat, (convert 38 9 (.slice (some ⟨bb, k, none⟩) 1 cp)).run Tryd.prog wr = .ok (.string ⟨#[c]⟩) wr := fun cp => by
          have := run_convert_bytes_arg (P := Tryd.prog) wr 38 5 Tryd.underlying38 Tryd.underlying5 bb k 1 cp [(c.toNat : Int)] rfl (fun i hi => by obtain rfl : i = 0 := (by omega); exact c0) 9 Tryd.underlying9
          rw [this]
          have e : strOfNums [(c.toNat : Int)] = ⟨#[c]⟩ := by
            show (⟨#[UInt8.ofNat (c.toNat : Int).toNat]⟩ : ByteArray) = _
            rw [Int.toNat_natCast, UInt8.ofNat_toNat]
          rw [e]
        have hup : ∀ wx : World, Calls Tryd.prog 15 #[.string ⟨#[c]⟩] wx fun e w' => e = .returned (.string ⟨#[Lib.upperB c]⟩) ∧ Below wx.heap.size wx w' := fun wx => Tryd.strings_ToUpper_ascii ⟨#[c]⟩ wx (by show 1 ≤ _; omega) (fun j b hj => by
          match j, hj with
          | 0, hj => obtain rfl := Option.some.inj hj; exact hx1)
        have HUP := Lib.hid hup
        have HX := Lib.hid hx
        have HX1 := Lib.hid hx1
        clear hx hx1 hup
        go_wp2_with (go_at_call 15; refine (HUP.out _).mono ?_; rintro x w7 ⟨rfl, hb⟩; have c7 := cell_bl hb c0; have f7 := ((bcell hb).2 bb k hbw).trans f0)
        all_goals refine ⟨?_, by simp [intOf] <;> omega⟩
        all_goals first
          | exact ⟨k + 1, L, by omega, by go_num, HL, HCE, HF, HB, HDX, hbw⟩
          | refine ⟨k + 1, L.set k (Lib.upperB c), by omega, by go_num, Lib.hid ⟨by rw [List.length_set]; exact HL.out.1, by rw [low_setU L k c HX.out HX1.out]; exact HL.out.2.1, set_lt L k _ HL.out.2.2 (upper_lt c HX1.out)⟩, Lib.hid ?_, Lib.hid ?_, Bs.hset (Bs.hbl HB hb) ⟨bb, k, none⟩ _ hW0g, Dx.other (Dx.bl HDX hb) ⟨bb, k, none⟩ _ hnb, by have := hb.size; simp; omega⟩
        · intro j b hj
          by_cases e : j = k
          · subst e
            rw [List.getElem?_set_self (by rw [HL.out.1]; exact hkl)] at hj
            obtain rfl := Option.some.inj hj
            exact World.cell?_setCell_same' _ _ _ (by rw [c7]; rfl)
          · rw [List.getElem?_set_ne (fun h => e h.symm)] at hj
            have hne : (⟨bb, k, none⟩ : Addr) ≠ ⟨bb, j, none⟩ := fun h => e (by injection h with _ h2 _; exact h2.symm)
            rw [World.cell?_setCell_other _ _ _ _ hne]
            exact cell_bl hb (HCE.out j b hj)
        · intro j hj
          rw [World.frozen?_setCell]
          exact ((bcell hb).2 bb j hbw).trans (HF.out j hj)
      · obtain rfl : k = T.size := by omega
        have hcvb := run_convert_bytes_back (P := Tryd.prog) wr 38 9 5 ⟨bb, 0, none⟩ cap L Tryd.underlying38 Tryd.underlying5 Tryd.underlying9 (fun j hj => by
          have := HCE.out j L[j] (List.getElem?_eq_getElem hj)
          by_cases e : j = 0
          · subst e; exact this
          · simpa [Addr.add, e] using this)
        rw [HL.out.1] at hcvb
        have hp2 : Dy.parse (⟨L.toArray⟩ : ByteArray).data.toList = ((((kk + 2 : Nat) : Int), ((w : Nat) : Int), ((dayW kk dd : Nat) : Int)), 0) := by
          rw [← HPB.out.1]
          exact Dy.parse_same _ _ HL.out.2.1
        have ek2 : (((kk + 2 : Nat)) : Int) = (kk : Int) + 2 := by omega
        rw [HN.out.1, ek2] at hp2
        have hLz : (⟨L.toArray⟩ : ByteArray).size < 4294967281 := by
          show L.toArray.size < _
          rw [List.size_toArray, HL.out.1]; omega
        generalize (⟨L.toArray⟩ : ByteArray) = V at *
        have HP := Lib.hid hp2
        have HVZ := Lib.hid hLz
        have s1 := beq_selfI ((kk : Int) + 2)
        have s2 := beq_selfI (w : Int)
        have s3 := beq_selfI (v : Int)
        clear hp2 hLz
        go_wp2_with fail
        refine (yParse_s V HVZ.out ((kk : Int) + 2) (w : Int) (v : Int) 0 HP (Ys.of HC0 HB)).mono ?_; rintro x w8 ⟨rfl, hb, _⟩
        replace HB := Bs.hal (Bs.hbl HB hb) (.cells #[.int .i64 ((kk : Int) + 2), .int .i64 (w : Int), .int .i64 (v : Int)] 23)
        replace HDX := Dx.al (Dx.bl HDX hb) (.cells #[.int .i64 ((kk : Int) + 2), .int .i64 (w : Int), .int .i64 (v : Int)] 23)
        clear hb hcvb
        have p0 := Dx.c0 HDX
        have p1 := Dx.c1 HDX
        have p2 := Dx.c2 HDX
        have hl2 : l = 2 ∨ l = 1 := by have := HH.out.2.2.2.2.2; omega
        rcases hl2 with hl2 | hl2
        · have g2 : ((l : Int) == 2) = true := beq_iff_eq.2 (by omega)
          have h1p : (1 : Int) ≤ (P.size : Int) := by have := HN.out.2.2; omega
          have hone := one_at w HW.out.1 (by rw [HH.out.2.2.1]; exact hl2)
          have hPt : (P.extract 0 1).data.toList = (wdB w).data.toList.take 1 := by
            rw [HH.out.1, ← HPP.out, ext_to, ext_to, List.take_take]
            congr 1
            omega
          have hPz : (P.extract 0 1).size = 1 := by rw [ByteArray.size_extract]; omega
          obtain ⟨Y, hY⟩ : ∃ Y, P.extract 0 1 = Y := ⟨_, rfl⟩
          rw [hY] at hPt hPz
          rw [← hPt] at hone
          have hone2 : Dy.parse ((⟨#[108, 97, 115, 116]⟩ : ByteArray) ++ Y).data.toList = ((0, 0, 0), 8) := by rw [two_data]; exact hone
          have hYz : ((⟨#[108, 97, 115, 116]⟩ : ByteArray) ++ Y).size < 4294967281 := by rw [two_app]; show 4 + _ < _; omega
          have hYs : ¬ 9223372036854775807 < 4 + Y.size := by omega
          have HO := Lib.hid hone2
          have HYZ := Lib.hid hYz
          clear hone hPt hl2 hone2 hYz
          go_wp2_with fail
          refine (yParse_s _ HYZ.out 0 0 0 8 HO (Ys.of HC0 HB)).mono ?_; rintro x w9 ⟨rfl, hb, _⟩
          replace HB := Bs.hal (Bs.hbl HB hb) (.cells #[.int .i64 0, .int .i64 0, .int .i64 0] 23)
          clear hb
          go_wp2_with fail
          refine (works9_s (Ys.of HC0 HB)).mono ?_; rintro x w10 ⟨rfl, hb, _⟩
          go_wp2
          go_ret
          exact ⟨rfl, (Bs.hbl HB hb).out⟩
        · have g2 : ((l : Int) == 2) = false := beq_eq_false_iff_ne.2 (by omega)
          clear hl2
          go_wp2_with fail
          refine (works9_s (Ys.of HC0 HB)).mono ?_; rintro x w10 ⟨rfl, hb, _⟩
          go_wp2
          go_ret
          exact ⟨rfl, (Bs.hbl HB hb).out⟩
theorem words_walk (A : Int) (wA : (Lit.int .u8 A).wf = true) (M : Int) (wM : (Lit.int .u8 M).wf = true) (B : Int) (wB : (Lit.int .u8 B).wf = true) (D : Int) (wD : (Lit.int .u8 D).wf = true) (C : Int) (wC : (Lit.int .u8 C).wf = true) (W0 : World) (hT : TabY0 W0 ∧ MaxY W0) :
    Calls Tryd.prog 5 #[.int .u8 A, .int .u8 M, .int .u8 B, .int .u8 D, .int .u8 C] W0 fun e w' => e = .returned (.bool true) ∧ Below W0.heap.size W0 w' := by
  have hA := bounds_u8 wA
  have hM := bounds_u8 wM
  have hB := bounds_u8 wB
  have hD := bounds_u8 wD
  have hC := bounds_u8 wC
  have hw : (A % 7).toNat < 7 := by omega
  have hs := wd_sizes _ hw
  have hl : lsB (A % 7).toNat ≤ 2 := by unfold lsB; split <;> omega
  have hr : (((wdB (A % 7).toNat).size : Nat) : Int) - (lsB (A % 7).toNat : Int) = (((wdB (A % 7).toNat).size - lsB (A % 7).toNat : Nat) : Int) := by omega
  have hq := Int.emod_nonneg M (b := (((wdB (A % 7).toNat).size - lsB (A % 7).toNat : Nat) : Int) + 1) (by omega)
  exact words_core A M B D C hA hM hB hD hC (A % 7).toNat (M % ((((wdB (A % 7).toNat).size - lsB (A % 7).toNat : Nat) : Int) + 1)).toNat (C % 3).toNat hw (by omega) _ rfl _ _ _ rfl rfl hr (by rw [Int.toNat_of_nonneg hq]) (by omega) (D % 31).toNat (by omega) W0 hT
end Go.Proofs.YtedcfnaphfgfjaaDoor
