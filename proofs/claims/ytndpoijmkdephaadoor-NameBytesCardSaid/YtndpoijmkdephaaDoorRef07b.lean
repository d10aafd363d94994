/- The document's answers of layer 7: names of sets and zones. -/
import Derived.Test.YtndpoijmkdephaaDoorRef07
namespace Go.Proofs.YtndpoijmkdephaaDoor
open Go.RowKit
namespace Nm
theorem inP_cases {c : UInt8} (h : inP c = true) : isL c = true ∨ (isL c = false ∧ isG c = true) ∨ (isL c = false ∧ isG c = false ∧ c = 46) ∨ (isL c = false ∧ isG c = false ∧ c = 95) ∨ (isL c = false ∧ isG c = false ∧ c = 43) ∨ (isL c = false ∧ isG c = false ∧ c = 45) := by
  rw [inP_eq] at h
  cases hl : isL c with
  | true => exact .inl rfl
  | false =>
    cases hg : isG c with
    | true => exact .inr (.inl ⟨rfl, rfl⟩)
    | false =>
      simp only [hl, hg, Bool.false_or, Bool.or_eq_true, beq_iff_eq] at h
      simp only [reduceCtorEq, false_or, true_and, and_false]
      rcases h with ((h | h) | h) | h <;> simp [h]
theorem inP_not {c : UInt8} (h : inP c = false) : isL c = false ∧ isG c = false ∧ c ≠ 46 ∧ c ≠ 95 ∧ c ≠ 43 ∧ c ≠ 45 := by
  rw [inP_eq] at h
  simp only [Bool.or_eq_false_iff, beq_eq_false_iff_ne] at h
  simp only [ne_eq]
  exact ⟨h.1.1.1.1.1, h.1.1.1.1.2, h.1.1.1.2, h.1.1.2, h.1.2, h.2⟩
theorem inS_cases {c : UInt8} (h : inS c = true) : isL c = true ∨ (isL c = false ∧ isG c = true) ∨ (isL c = false ∧ isG c = false ∧ c = 95) ∨ (isL c = false ∧ isG c = false ∧ c = 45) := by
  rw [inS_eq] at h
  cases hl : isL c with
  | true => exact .inl rfl
  | false =>
    cases hg : isG c with
    | true => exact .inr (.inl ⟨rfl, rfl⟩)
    | false =>
      simp only [hl, hg, Bool.false_or, Bool.or_eq_true, beq_iff_eq] at h
      simp only [reduceCtorEq, false_or, true_and, and_false]
      rcases h with h | h <;> simp [h]
theorem inS_not {c : UInt8} (h : inS c = false) : isL c = false ∧ isG c = false ∧ c ≠ 95 ∧ c ≠ 45 := by
  rw [inS_eq] at h
  simp only [Bool.or_eq_false_iff, beq_eq_false_iff_ne] at h
  simp only [ne_eq]
  exact ⟨h.1.1.1, h.1.1.2, h.1.2, h.2⟩
end Nm
set_option maxHeartbeats 1000000 in
theorem rSet_any (s : ByteArray) (hs : s.size ≤ 100000000000) (r : Bool) (hr : Nm.set s.data.toList = r) (w : World) :
    Calls Tryd.prog 11 #[.string s] w fun e w' => e = .returned (.bool r) ∧ w = w' := by
  have hsz : s.data.toList.length = s.size := by simp
  rw [Nm.set_eq, hsz] at hr
  by_cases h0 : 0 < s.size
  case neg =>
    have h1 : (s.size : Int) < 1 := by omega
    rw [decide_eq_false h0, Bool.false_and, Bool.false_and, Bool.false_and] at hr
    subst hr
    go_enter Tryd.func11, Tryd.ntmps11
    go_wp2
    go_ret
    exact ⟨rfl, rfl⟩
  have h1 : ¬ (s.size : Int) < 1 := by omega
  rw [decide_eq_true h0, Bool.true_and] at hr
  by_cases h30 : s.size ≤ 30
  case neg =>
    have h2 : (30 : Int) < (s.size : Int) := by omega
    rw [decide_eq_false h30, Bool.false_and, Bool.false_and] at hr
    subst hr
    go_enter Tryd.func11, Tryd.ntmps11
    go_wp2
    go_ret
    exact ⟨rfl, rfl⟩
  have h2 : ¬ (30 : Int) < (s.size : Int) := by omega
  rw [decide_eq_true h30, Bool.true_and] at hr
  have hhd : s.data.toList.head? = some s[0] := by
    rw [List.head?_eq_getElem?, List.getElem?_eq_getElem (by omega)]; rfl
  rw [hhd, Option.any_some] at hr
  have hb0 : (0 : Int) < (s.size : Int) := by omega
  clear hhd
  cases hq : Nm.isL s[0] with
  | false =>
    rw [hq, Bool.false_and] at hr
    subst hr
    have HQ := Lib.hid hq
    clear hq hsz h30
    go_enter Tryd.func11, Tryd.ntmps11
    go_wp2_with fail
    refine (rletter_any _ _ HQ.out _).mono ?_; rintro e w1 ⟨rfl, rfl⟩
    go_wp2
    go_ret
    exact ⟨rfl, rfl⟩
  | true =>
  rw [hq, Bool.true_and] at hr
  have HR : Hid ((true && s.data.toList.all Nm.inS) = r) := Lib.hid hr
  have HQ := Lib.hid hq
  clear hr hq h30
  go_enter Tryd.func11, Tryd.ntmps11
  go_wp2_with fail
  refine (rletter_any _ _ HQ.out _).mono ?_; rintro e w1 ⟨rfl, rfl⟩
  go_wp2
  go_loopw [3] (fun i wr => ∃ k : Nat, k ≤ s.size ∧ i = .int .i64 k ∧ ((s.data.toList.take k).all Nm.inS) = true ∧ w = wr) (fun i _ => s.size - (intOf i).toNat)
  case atStart => exact ⟨0, by omega, rfl, rfl, by first | rfl | trivial⟩
  case round =>
    obtain ⟨k, hk, rfl, h1, rfl⟩ := hrel
    by_cases hks : k < s.size
    · have hsn : s.data.toList.take (k + 1) = s.data.toList.take k ++ [s[k]] := by
        rw [List.take_succ_eq_append_getElem (by omega)]
        rfl
      have hk0 : (0 : Int) ≤ (k : Int) := by omega
      have hk1 : (k : Int) < (s.size : Int) := by omega
      have H1 := Lib.hid h1
      have HN := Lib.hid hsn
      clear h1 hsn
      cases hb : Nm.inS s[k] with
      | true =>
        have HB := Lib.hid hb
        rcases Nm.inS_cases hb with h | ⟨h, g⟩ | ⟨h, g, hx⟩ | ⟨h, g, hx⟩
        · have HL := Lib.hid h
          clear hb h hsz
          go_wp2_with fail
          refine (rletter_any _ _ HL.out _).mono ?_; rintro e w1 ⟨rfl, rfl⟩
          go_wp2
          go_roundw
          case rel => exact ⟨k + 1, by omega, by go_num, by rw [HN.out, List.all_append, H1.out]; simp [HB.out], by first | rfl | trivial⟩
          case measure => simp [intOf]; omega
        · have HL := Lib.hid h
          have HG := Lib.hid g
          clear hb h g hsz
          go_wp2_with fail
          refine (rletter_any _ _ HL.out _).mono ?_; rintro e w1 ⟨rfl, rfl⟩
          go_wp2_with fail
          refine (rdigit7_any _ _ HG.out _).mono ?_; rintro e w1 ⟨rfl, rfl⟩
          go_wp2
          go_roundw
          case rel => exact ⟨k + 1, by omega, by go_num, by rw [HN.out, List.all_append, H1.out]; simp [HB.out], by first | rfl | trivial⟩
          case measure => simp [intOf]; omega
        · have HL := Lib.hid h
          have HG := Lib.hid g
          have y0 := Nm.byte_eq (c := s[k]) (n := 95) (by rw [hx]; rfl) (by omega)
          have z0 : ((s[k].toNat : Int) != 95) = false := Nm.bne_of y0
          clear hb h g hx hsz y0
          go_wp2_with fail
          refine (rletter_any _ _ HL.out _).mono ?_; rintro e w1 ⟨rfl, rfl⟩
          go_wp2_with fail
          refine (rdigit7_any _ _ HG.out _).mono ?_; rintro e w1 ⟨rfl, rfl⟩
          go_wp2
          go_roundw
          case rel => exact ⟨k + 1, by omega, by go_num, by rw [HN.out, List.all_append, H1.out]; simp [HB.out], by first | rfl | trivial⟩
          case measure => simp [intOf]; omega
        · have HL := Lib.hid h
          have HG := Lib.hid g
          have y0 := Nm.byte_ne (c := s[k]) (n := 95) (by rw [hx]; decide) (by omega)
          have z0 : ((s[k].toNat : Int) != 95) = true := Nm.bne_of y0
          have y1 := Nm.byte_eq (c := s[k]) (n := 45) (by rw [hx]; rfl) (by omega)
          have z1 : ((s[k].toNat : Int) != 45) = false := Nm.bne_of y1
          clear hb h g hx hsz y0 y1
          go_wp2_with fail
          refine (rletter_any _ _ HL.out _).mono ?_; rintro e w1 ⟨rfl, rfl⟩
          go_wp2_with fail
          refine (rdigit7_any _ _ HG.out _).mono ?_; rintro e w1 ⟨rfl, rfl⟩
          go_wp2
          go_roundw
          case rel => exact ⟨k + 1, by omega, by go_num, by rw [HN.out, List.all_append, H1.out]; simp [HB.out], by first | rfl | trivial⟩
          case measure => simp [intOf]; omega
      | false =>
        obtain ⟨h, g, x0, x1⟩ := Nm.inS_not hb
        have hmem : s[k] ∈ s.data.toList := by
          have : s.data.toList[k]'(by omega) = s[k] := rfl
          rw [← this]; exact List.getElem_mem _
        have hall : s.data.toList.all Nm.inS = false := by
          rw [List.all_eq_false]; exact ⟨_, hmem, by rw [hb]; simp⟩
        have hr := HR.out
        rw [hall, Bool.and_false] at hr
        subst hr
        have HL := Lib.hid h
        have HG := Lib.hid g
        have y0 := Nm.byte_ne (c := s[k]) (n := 95) x0 (by omega)
        have z0 : ((s[k].toNat : Int) != 95) = true := Nm.bne_of y0
        have y1 := Nm.byte_ne (c := s[k]) (n := 45) x1 (by omega)
        have z1 : ((s[k].toNat : Int) != 45) = true := Nm.bne_of y1
        clear hb h g hall hmem hsz x0 y0 x1 y1
        go_wp2_with fail
        refine (rletter_any _ _ HL.out _).mono ?_; rintro e w1 ⟨rfl, rfl⟩
        go_wp2_with fail
        refine (rdigit7_any _ _ HG.out _).mono ?_; rintro e w1 ⟨rfl, rfl⟩
        go_wp2
        go_ret
        exact ⟨rfl, rfl⟩
    · have hke : k = s.size := by omega
      have hall : s.data.toList.take k = s.data.toList := List.take_of_length_le (by simp; omega)
      have hr := HR.out
      rw [hall] at h1
      rw [h1] at hr
      subst hke
      clear h1 hall hsz HR
      subst hr
      go_wp2
      go_ret
      exact ⟨rfl, rfl⟩
theorem Nm.part_eq (l : List UInt8) : Nm.part l = (decide (0 < l.length) && (decide (l.length ≤ 14) && (l.head?.all (fun c => c != 46) && (l.head?.all (fun c => c != 45) && l.all Nm.inP)))) := by
  unfold Nm.part
  cases l with
  | nil => rfl
  | cons c l =>
    simp only [List.head?_cons, Option.any_some, Option.all_some, List.all_cons, Nm.atP_eq]
    cases Nm.inP c <;> simp [Bool.and_assoc]
set_option maxHeartbeats 2000000 in
theorem rpart_any (s : ByteArray) (hs : s.size ≤ 100000000000) (r : Bool) (hr : Nm.part s.data.toList = r) (w : World) :
    Calls Tryd.prog 23 #[.string s] w fun e w' => e = .returned (.bool r) ∧ w = w' := by
  have hsz : s.data.toList.length = s.size := by simp
  rw [Nm.part_eq, hsz] at hr
  by_cases h0 : 0 < s.size
  case neg =>
    have h1 : (s.size : Int) < 1 := by omega
    rw [decide_eq_false h0, Bool.false_and] at hr
    subst hr
    go_enter Tryd.func23, Tryd.ntmps23
    go_wp2
    go_ret
    exact ⟨rfl, rfl⟩
  have h1 : ¬ (s.size : Int) < 1 := by omega
  rw [decide_eq_true h0, Bool.true_and] at hr
  by_cases h30 : s.size ≤ 14
  case neg =>
    have h2 : (14 : Int) < (s.size : Int) := by omega
    rw [decide_eq_false h30, Bool.false_and] at hr
    subst hr
    go_enter Tryd.func23, Tryd.ntmps23
    go_wp2
    go_ret
    exact ⟨rfl, rfl⟩
  have h2 : ¬ (14 : Int) < (s.size : Int) := by omega
  rw [decide_eq_true h30, Bool.true_and] at hr
  have hhd : s.data.toList.head? = some s[0] := by
    rw [List.head?_eq_getElem?, List.getElem?_eq_getElem (by omega)]; rfl
  rw [hhd, Option.all_some, Option.all_some] at hr
  have hb0 : (0 : Int) < (s.size : Int) := by omega
  clear hhd
  by_cases h46 : s[0] = 46
  case pos =>
    have z0 : ((s[0].toNat : Int) == 46) = true := Nm.byte_eq (c := s[0]) (n := 46) (by rw [h46]; rfl) (by omega)
    rw [h46] at hr
    obtain rfl : r = false := by rw [← hr]; simp
    clear hsz h30 h46 hr
    go_enter Tryd.func23, Tryd.ntmps23
    go_wp2
    go_ret
    exact ⟨rfl, rfl⟩
  have z0 : ((s[0].toNat : Int) == 46) = false := Nm.byte_ne (c := s[0]) (n := 46) h46 (by omega)
  rw [show (s[0] != 46) = true by simpa using h46, Bool.true_and] at hr
  by_cases h45 : s[0] = 45
  case pos =>
    have z1 : ((s[0].toNat : Int) == 45) = true := Nm.byte_eq (c := s[0]) (n := 45) (by rw [h45]; rfl) (by omega)
    rw [h45] at hr
    obtain rfl : r = false := by rw [← hr]; simp
    clear hsz h30 h46 h45 hr
    go_enter Tryd.func23, Tryd.ntmps23
    go_wp2
    go_ret
    exact ⟨rfl, rfl⟩
  have z1 : ((s[0].toNat : Int) == 45) = false := Nm.byte_ne (c := s[0]) (n := 45) h45 (by omega)
  rw [show (s[0] != 45) = true by simpa using h45] at hr
  have HR : Hid ((true && s.data.toList.all Nm.inP) = r) := Lib.hid hr
  clear hr h46 h45 h30
  go_enter Tryd.func23, Tryd.ntmps23
  go_wp2
  clear z0 z1
  go_loopw [3] (fun i wr => ∃ k : Nat, k ≤ s.size ∧ i = .int .i64 k ∧ ((s.data.toList.take k).all Nm.inP) = true ∧ w = wr) (fun i _ => s.size - (intOf i).toNat)
  case atStart => exact ⟨0, by omega, rfl, rfl, by first | rfl | trivial⟩
  case round =>
    obtain ⟨k, hk, rfl, h1, rfl⟩ := hrel
    by_cases hks : k < s.size
    · have hsn : s.data.toList.take (k + 1) = s.data.toList.take k ++ [s[k]] := by
        rw [List.take_succ_eq_append_getElem (by omega)]
        rfl
      have hk0 : (0 : Int) ≤ (k : Int) := by omega
      have hk1 : (k : Int) < (s.size : Int) := by omega
      have H1 := Lib.hid h1
      have HN := Lib.hid hsn
      clear h1 hsn
      cases hb : Nm.inP s[k] with
      | true =>
        have HB := Lib.hid hb
        rcases Nm.inP_cases hb with h | ⟨h, g⟩ | ⟨h, g, hx⟩ | ⟨h, g, hx⟩ | ⟨h, g, hx⟩ | ⟨h, g, hx⟩
        · have HL := Lib.hid h
          clear hb h hsz
          go_wp2_with fail
          refine (rletter_any _ _ HL.out _).mono ?_; rintro e w1 ⟨rfl, rfl⟩
          go_wp2
          go_roundw
          case rel => exact ⟨k + 1, by omega, by go_num, by rw [HN.out, List.all_append, H1.out]; simp [HB.out], by first | rfl | trivial⟩
          case measure => simp [intOf]; omega
        · have HL := Lib.hid h
          have HG := Lib.hid g
          clear hb h g hsz
          go_wp2_with fail
          refine (rletter_any _ _ HL.out _).mono ?_; rintro e w1 ⟨rfl, rfl⟩
          go_wp2_with fail
          refine (rdigit7_any _ _ HG.out _).mono ?_; rintro e w1 ⟨rfl, rfl⟩
          go_wp2
          go_roundw
          case rel => exact ⟨k + 1, by omega, by go_num, by rw [HN.out, List.all_append, H1.out]; simp [HB.out], by first | rfl | trivial⟩
          case measure => simp [intOf]; omega
        · have HL := Lib.hid h
          have HG := Lib.hid g
          have y0 := Nm.byte_eq (c := s[k]) (n := 46) (by rw [hx]; rfl) (by omega)
          have z0 : ((s[k].toNat : Int) != 46) = false := Nm.bne_of y0
          clear hb h g hx hsz y0
          go_wp2_with fail
          refine (rletter_any _ _ HL.out _).mono ?_; rintro e w1 ⟨rfl, rfl⟩
          go_wp2_with fail
          refine (rdigit7_any _ _ HG.out _).mono ?_; rintro e w1 ⟨rfl, rfl⟩
          go_wp2
          go_roundw
          case rel => exact ⟨k + 1, by omega, by go_num, by rw [HN.out, List.all_append, H1.out]; simp [HB.out], by first | rfl | trivial⟩
          case measure => simp [intOf]; omega
        · have HL := Lib.hid h
          have HG := Lib.hid g
          have y0 := Nm.byte_ne (c := s[k]) (n := 46) (by rw [hx]; decide) (by omega)
          have z0 : ((s[k].toNat : Int) != 46) = true := Nm.bne_of y0
          have y1 := Nm.byte_eq (c := s[k]) (n := 95) (by rw [hx]; rfl) (by omega)
          have z1 : ((s[k].toNat : Int) != 95) = false := Nm.bne_of y1
          clear hb h g hx hsz y0 y1
          go_wp2_with fail
          refine (rletter_any _ _ HL.out _).mono ?_; rintro e w1 ⟨rfl, rfl⟩
          go_wp2_with fail
          refine (rdigit7_any _ _ HG.out _).mono ?_; rintro e w1 ⟨rfl, rfl⟩
          go_wp2
          go_roundw
          case rel => exact ⟨k + 1, by omega, by go_num, by rw [HN.out, List.all_append, H1.out]; simp [HB.out], by first | rfl | trivial⟩
          case measure => simp [intOf]; omega
        · have HL := Lib.hid h
          have HG := Lib.hid g
          have y0 := Nm.byte_ne (c := s[k]) (n := 46) (by rw [hx]; decide) (by omega)
          have z0 : ((s[k].toNat : Int) != 46) = true := Nm.bne_of y0
          have y1 := Nm.byte_ne (c := s[k]) (n := 95) (by rw [hx]; decide) (by omega)
          have z1 : ((s[k].toNat : Int) != 95) = true := Nm.bne_of y1
          have y2 := Nm.byte_eq (c := s[k]) (n := 43) (by rw [hx]; rfl) (by omega)
          have z2 : ((s[k].toNat : Int) != 43) = false := Nm.bne_of y2
          clear hb h g hx hsz y0 y1 y2
          go_wp2_with fail
          refine (rletter_any _ _ HL.out _).mono ?_; rintro e w1 ⟨rfl, rfl⟩
          go_wp2_with fail
          refine (rdigit7_any _ _ HG.out _).mono ?_; rintro e w1 ⟨rfl, rfl⟩
          go_wp2
          go_roundw
          case rel => exact ⟨k + 1, by omega, by go_num, by rw [HN.out, List.all_append, H1.out]; simp [HB.out], by first | rfl | trivial⟩
          case measure => simp [intOf]; omega
        · have HL := Lib.hid h
          have HG := Lib.hid g
          have y0 := Nm.byte_ne (c := s[k]) (n := 46) (by rw [hx]; decide) (by omega)
          have z0 : ((s[k].toNat : Int) != 46) = true := Nm.bne_of y0
          have y1 := Nm.byte_ne (c := s[k]) (n := 95) (by rw [hx]; decide) (by omega)
          have z1 : ((s[k].toNat : Int) != 95) = true := Nm.bne_of y1
          have y2 := Nm.byte_ne (c := s[k]) (n := 43) (by rw [hx]; decide) (by omega)
          have z2 : ((s[k].toNat : Int) != 43) = true := Nm.bne_of y2
          have y3 := Nm.byte_eq (c := s[k]) (n := 45) (by rw [hx]; rfl) (by omega)
          have z3 : ((s[k].toNat : Int) != 45) = false := Nm.bne_of y3
          clear hb h g hx hsz y0 y1 y2 y3
          go_wp2_with fail
          refine (rletter_any _ _ HL.out _).mono ?_; rintro e w1 ⟨rfl, rfl⟩
          go_wp2_with fail
          refine (rdigit7_any _ _ HG.out _).mono ?_; rintro e w1 ⟨rfl, rfl⟩
          go_wp2
          go_roundw
          case rel => exact ⟨k + 1, by omega, by go_num, by rw [HN.out, List.all_append, H1.out]; simp [HB.out], by first | rfl | trivial⟩
          case measure => simp [intOf]; omega
      | false =>
        obtain ⟨h, g, x0, x1, x2, x3⟩ := Nm.inP_not hb
        have hmem : s[k] ∈ s.data.toList := by
          have : s.data.toList[k]'(by omega) = s[k] := rfl
          rw [← this]; exact List.getElem_mem _
        have hall : s.data.toList.all Nm.inP = false := by
          rw [List.all_eq_false]; exact ⟨_, hmem, by rw [hb]; simp⟩
        have hr := HR.out
        rw [hall, Bool.and_false] at hr
        subst hr
        have HL := Lib.hid h
        have HG := Lib.hid g
        have y0 := Nm.byte_ne (c := s[k]) (n := 46) x0 (by omega)
        have z0 : ((s[k].toNat : Int) != 46) = true := Nm.bne_of y0
        have y1 := Nm.byte_ne (c := s[k]) (n := 95) x1 (by omega)
        have z1 : ((s[k].toNat : Int) != 95) = true := Nm.bne_of y1
        have y2 := Nm.byte_ne (c := s[k]) (n := 43) x2 (by omega)
        have z2 : ((s[k].toNat : Int) != 43) = true := Nm.bne_of y2
        have y3 := Nm.byte_ne (c := s[k]) (n := 45) x3 (by omega)
        have z3 : ((s[k].toNat : Int) != 45) = true := Nm.bne_of y3
        clear hb h g hall hmem hsz x0 y0 x1 y1 x2 y2 x3 y3
        go_wp2_with fail
        refine (rletter_any _ _ HL.out _).mono ?_; rintro e w1 ⟨rfl, rfl⟩
        go_wp2_with fail
        refine (rdigit7_any _ _ HG.out _).mono ?_; rintro e w1 ⟨rfl, rfl⟩
        go_wp2
        go_ret
        exact ⟨rfl, rfl⟩
    · have hke : k = s.size := by omega
      have hall : s.data.toList.take k = s.data.toList := List.take_of_length_le (by simp; omega)
      have hr := HR.out
      rw [hall] at h1
      rw [h1] at hr
      subst hke
      clear h1 hall hsz HR
      subst hr
      go_wp2
      go_ret
      exact ⟨rfl, rfl⟩
end Go.Proofs.YtndpoijmkdephaaDoor
