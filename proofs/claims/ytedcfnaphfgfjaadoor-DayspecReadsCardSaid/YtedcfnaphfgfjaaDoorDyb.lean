/- unicode.SimpleFold at the letters that strings.EqualFold asks for, and EqualFold of four bytes and last. -/
import Derived.Test.YtedcfnaphfgfjaaDoorDya
import Derived.ScopeJumps
namespace Go.Proofs.YtedcfnaphfgfjaaDoor
open Go.RowKit Go.Shelf
/-- the tables of unicode.SimpleFold, as far as they are read -/
structure FoldW (w : World) : Prop where
  ascii : ∀ k v, (k, v) ∈ [(108, 76), (76, 108), (97, 65), (65, 97), (115, 383), (83, 115), (116, 84), (84, 116)] → w.cell? ⟨3, k, none⟩ = some (.int .u16 (v : Int))
  orbit : ∃ R o cap, w.cell? ⟨4, 0, none⟩ = some (.slice (some ⟨R, o, none⟩) 94 cap) ∧ ∀ k f t, (k, f, t) ∈ [(47, 966, 981), (23, 837, 921), (11, 452, 453), (5, 197, 229), (8, 304, 304), (10, 383, 83), (9, 305, 305)] → w.cell? ⟨R, o + 2 * k, none⟩ = some (.int .u16 (f : Int)) ∧ w.cell? ⟨R, o + 2 * k + 1, none⟩ = some (.int .u16 (t : Int))
theorem FoldW.bl {w w1 : World} (h : FoldW w) (k : Below w.heap.size w w1) : FoldW w1 := by
  obtain ⟨a, R, o, cap, c, d⟩ := h
  exact ⟨fun x v hx => cell_bl k (a x v hx), R, o, cap, cell_bl k c, fun x f t hx => ⟨cell_bl k (d x f t hx).1, cell_bl k (d x f t hx).2⟩⟩
set_option maxRecDepth 100000 in
theorem sf_ascii (k v : Nat) (hk : k < 128) (hv : v < 65536) (w : World) (h : w.cell? ⟨3, k, none⟩ = some (.int .u16 (v : Int))) : Calls Tryd.prog 59 #[.int .i32 k] w fun e w' => e = .returned (.int .i32 v) ∧ w = w' := by
  have h1 : (0 : Int) ≤ (k : Int) := by omega
  have h2 : ¬ (1114111 : Int) < (k : Int) := by omega
  have h3 : (k : Int) < 128 := by omega
  have h4 : wrap32 (v : Int) = (v : Int) := by unfold wrap32; omega
  go_enter Tryd.func59, Tryd.ntmps59
  go_wp2
  go_ret
  exact ⟨rfl, rfl⟩
set_option maxRecDepth 100000 in
set_option maxHeartbeats 4000000 in
theorem sf_383 (w : World) (hW : FoldW w) : Calls Tryd.prog 59 #[.int .i32 383] w fun e w' => e = .returned (.int .i32 83) ∧ w = w' := by
  obtain ⟨_, R, o, cap, c0, cs⟩ := hW
  have a47 : w.cell? ⟨R, o + 94, none⟩ = some (.int .u16 966) := (cs 47 966 981 (by simp)).1
  have a23 : w.cell? ⟨R, o + 46, none⟩ = some (.int .u16 837) := (cs 23 837 921 (by simp)).1
  have a11 : w.cell? ⟨R, o + 22, none⟩ = some (.int .u16 452) := (cs 11 452 453 (by simp)).1
  have a5 : w.cell? ⟨R, o + 10, none⟩ = some (.int .u16 197) := (cs 5 197 229 (by simp)).1
  have a8 : w.cell? ⟨R, o + 16, none⟩ = some (.int .u16 304) := (cs 8 304 304 (by simp)).1
  have a10 : w.cell? ⟨R, o + 20, none⟩ = some (.int .u16 383) := (cs 10 383 83 (by simp)).1
  have b10 : w.cell? ⟨R, o + 20 + 1, none⟩ = some (.int .u16 83) := (cs 10 383 83 (by simp)).2
  have a9 : w.cell? ⟨R, o + 18, none⟩ = some (.int .u16 305) := (cs 9 305 305 (by simp)).1
  clear cs
  go_enter Tryd.func59, Tryd.ntmps59
  go_wp2
  refine wp_loop_rounds 8 ?_
  rw [rounds_succ]
  go_wp2
  rw [rounds_succ]
  go_wp2
  rw [rounds_succ]
  go_wp2
  rw [rounds_succ]
  go_wp2
  rw [rounds_succ]
  go_wp2
  rw [rounds_succ]
  go_wp2
  rw [rounds_succ]
  go_wp2
  rw [rounds_succ]
  go_wp2
  go_ret
  exact ⟨rfl, rfl⟩
/- FOLD: written by tools/fold09.py -/
theorem fold_four (s : ByteArray) (hs : s.size = 4) : s.data.toList = [s[0], s[1], s[2], s[3]] := by
  apply List.ext_getElem?
  intro j
  have hl : s.data.toList.length = 4 := by rw [Array.length_toList]; exact hs
  by_cases hj : j < 4
  · have h4 : j = 0 ∨ j = 1 ∨ j = 2 ∨ j = 3 := by omega
    rcases h4 with rfl | rfl | rfl | rfl <;> exact (Lib.data_getElem? s _ (by omega))
  · rw [List.getElem?_eq_none (by omega), List.getElem?_eq_none (by simp; omega)]
theorem sm_eq (x c : Nat) (hc : 97 ≤ c ∧ c ≤ 122) : Wd.sm x = c ↔ x = c ∨ x + 32 = c := by
  by_cases h : 65 ≤ x ∧ x ≤ 90
  · rw [Wd.sm_yes x h]; omega
  · rw [Wd.sm_no x h]; omega
theorem sm_ne (x c : Nat) (hc : 97 ≤ c ∧ c ≤ 122) (h : x ≠ c ∧ x + 32 ≠ c) : Nat.beq (Wd.sm x) c = false := by
  cases e : Nat.beq (Wd.sm x) c with
  | false => rfl
  | true => have := (sm_eq x c hc).1 (Nat.eq_of_beq_eq_true e); omega
/-- the frame at the jump -/
def foldFr (s : ByteArray) (i : Nat) (u : Nat → Value) : Array Value := (Value.string s :: Value.string ⟨#[108, 97, 115, 116]⟩ :: u 2 :: u 3 :: u 4 :: Value.int .i64 (i : Int) :: u 6 :: u 7 :: u 8 :: u 9 :: u 10 :: u 11 :: u 12 :: u 13 :: u 14 :: u 15 :: u 16 :: u 17 :: u 18 :: u 19 :: u 20 :: u 21 :: u 22 :: u 23 :: u 24 :: u 25 :: u 26 :: u 27 :: u 28 :: u 29 :: u 30 :: u 31 :: u 32 :: u 33 :: u 34 :: u 35 :: u 36 :: u 37 :: u 38 :: u 39 :: u 40 :: u 41 :: u 42 :: u 43 :: u 44 :: u 45 :: u 46 :: u 47 :: u 48 :: u 49 :: u 50 :: u 51 :: u 52 :: u 53 :: u 54 :: u 55 :: u 56 :: u 57 :: u 58 :: u 59 :: u 60 :: u 61 :: u 62 :: u 63 :: u 64 :: u 65 :: u 66 :: u 67 :: u 68 :: u 69 :: u 70 :: u 71 :: u 72 :: u 73 :: u 74 :: u 75 :: u 76 :: u 77 :: u 78 :: u 79 :: u 80 :: u 81 :: u 82 :: u 83 :: u 84 :: u 85 :: u 86 :: u 87 :: u 88 :: u 89 :: u 90 :: u 91 :: u 92 :: u 93 :: u 94 :: u 95 :: u 96 :: u 97 :: u 98 :: u 99 :: u 100 :: u 101 :: u 102 :: u 103 :: u 104 :: u 105 :: u 106 :: u 107 :: u 108 :: u 109 :: u 110 :: u 111 :: u 112 :: u 113 :: u 114 :: u 115 :: u 116 :: u 117 :: u 118 :: u 119 :: u 120 :: u 121 :: u 122 :: []).toArray
theorem list_u {α : Type} (d : α) : ∀ L : List α, L = (List.range L.length).map (fun k => L.getD k d)
  | [] => rfl
  | a :: L => by
    rw [List.length_cons, List.range_succ_eq_map, List.map_cons, List.map_map]
    have := list_u d L
    conv => lhs; rw [this]
    rfl
set_option maxRecDepth 1000000 in
theorem act_u (s : ByteArray) (i : Nat) (A : Array Value) (Q : Prop) (hA : A.size = 123) (h0 : A.toList.getD 0 undef = .string s) (h1 : A.toList.getD 1 undef = .string ⟨#[108, 97, 115, 116]⟩) (h5 : A.toList.getD 5 undef = .int .i64 (i : Int)) (hQ : Q) : ∃ u : Nat → Value, ({ tmps := A, defers := [] } : Act) = { tmps := foldFr s i u, defers := [] } ∧ Q := by
  refine ⟨fun k => A.toList.getD k undef, ?_, hQ⟩
  have e := list_u undef A.toList
  rw [Array.length_toList, hA] at e
  have e2 : A = foldFr s i (fun k => A.toList.getD k undef) := by
    apply Array.toList_inj.1
    rw [foldFr, ← h0, ← h1, ← h5]
    exact e
  rw [← e2]
set_option maxHeartbeats 8000000 in
set_option maxRecDepth 1000000 in
theorem fold_any (s : ByteArray) (hs : s.size = 4) (w : World) (hW : FoldW w) : Calls Tryd.prog 41 #[.string s, .string ⟨#[108, 97, 115, 116]⟩] w fun e w' => e = .returned (.bool (Dy.isL s.data.toList)) ∧ Below w.heap.size w w' := by
  have hq : min (s.size : Int) 4 = 4 := by omega
  have h4 := fold_four s hs
  obtain ⟨x0, hx0⟩ : ∃ x : UInt8, s[0] = x := ⟨_, rfl⟩
  obtain ⟨x1, hx1⟩ : ∃ x : UInt8, s[1] = x := ⟨_, rfl⟩
  obtain ⟨x2, hx2⟩ : ∃ x : UInt8, s[2] = x := ⟨_, rfl⟩
  obtain ⟨x3, hx3⟩ : ∃ x : UInt8, s[3] = x := ⟨_, rfl⟩
  rw [hx0, hx1, hx2, hx3] at h4
  have hI : Dy.isL s.data.toList = (Nat.beq (Wd.sm x0.toNat) 108 && Nat.beq (Wd.sm x1.toNat) 97 && Nat.beq (Wd.sm x2.toNat) 115 && Nat.beq (Wd.sm x3.toNat) 116) := by rw [h4]; rfl
  rw [hI]
  have HW := Lib.hid hW
  have H4 := Lib.hid h4
  clear hI h4 hW
  go_enter Tryd.func41, Tryd.ntmps41
  go_wp2
  refine wp_scope_jumps 0 (fun a1 w1 => w = w1 ∧ ∃ (i : Nat) (u : Nat → Value), a1 = { tmps := foldFr s i u, defers := [] } ∧ ((i = 0 ∧ 128 ≤ x0.toNat) ∨ (i = 1 ∧ 128 ≤ x1.toNat) ∨ (i = 2 ∧ 128 ≤ x2.toNat) ∨ (i = 3 ∧ 128 ≤ x3.toNat))) (fun _ _ => 0) rfl ?_ ?_
  rotate_left
  · rintro a1 w1 ⟨rfl, i, u, rfl, hi⟩
    unfold foldFr
    rcases hi with ⟨rfl, ha⟩ | ⟨rfl, ha⟩ | ⟨rfl, ha⟩ | ⟨rfl, ha⟩
    · obtain ⟨S, hS⟩ : ∃ S, s.extract 0 4 = S := ⟨_, rfl⟩
      have hz : S.size = 4 := by rw [← hS, ByteArray.size_extract, hs]; rfl
      have hS0 : (S[0]'(by omega)) = x0 := by subst hS; rw [ByteArray.getElem_extract]; exact hx0
      have hlt := x0.toNat_lt
      have hd := Dy.dec_facts S 0 (by omega) (by rw [hS0]; exact ha)
      have hnx := fun ty => run_next_any (P := Tryd.prog) w S 0 ty (by omega)
      have hn : Nat.beq (Wd.sm x0.toNat) 108 = false := sm_ne _ _ (by decide) (by omega)
      generalize hD : Utf8.decode S 0 = D at *
      obtain ⟨r, n⟩ := D
      simp only at hd hnx
      obtain ⟨d1, d2, _, d4, d5, d6, _⟩ := hd
      have hF : FoldW (w.iter S 0) := HW.out.bl (below_iter _ _ _)
      have hF2 : FoldW (w.iter S (0 + n)) := HW.out.bl (below_iter _ _ _)
      have hT : (⟨#[108, 97, 115, 116]⟩ : ByteArray).extract 0 4 = ⟨#[108, 97, 115, 116]⟩ := rfl
      have hT2 : (⟨#[108, 97, 115, 116]⟩ : ByteArray).extract 1 4 = ⟨#[97, 115, 116]⟩ := rfl
      have hN := Lib.hid hn
      have hdec : ∀ wx : World, Calls Tryd.prog 52 #[.string ⟨#[108, 97, 115, 116]⟩] wx fun e w' => e = .returned (.tuple #[.int .i32 108, .int .i64 1]) ∧ wx = w' := fun wx => (Tryd.utf8_DecodeRuneInString_ascii ⟨#[108, 97, 115, 116]⟩ 108 wx rfl (by decide)).mono fun e w' ⟨h1, h2⟩ => ⟨h1, h2.symm⟩
      have HD := Lib.hid hdec
      have hf1 : ∀ m, Calls Tryd.prog 59 #[.int .i32 108] (w.iter S m) fun e w' => e = .returned (.int .i32 76) ∧ w.iter S m = w' := fun m => sf_ascii 108 76 (by decide) (by decide) _ ((HW.out.bl (below_iter w S m)).ascii _ _ (by simp))
      have HF1 := Lib.hid hf1
      have hf2 : ∀ m, Calls Tryd.prog 59 #[.int .i32 76] (w.iter S m) fun e w' => e = .returned (.int .i32 108) ∧ w.iter S m = w' := fun m => sf_ascii 76 108 (by decide) (by decide) _ ((HW.out.bl (below_iter w S m)).ascii _ _ (by simp))
      have HF2 := Lib.hid hf2
      clear hn hdec hf1 hf2 hS0 hD hF hF2 HW
      have e1 : ((108 : Int) == (r : Int)) = false := beq_eq_false_iff_ne.2 (by omega)
      have e2 : (108 : Int) < (r : Int) := by omega
      have e3 : ¬ (r : Int) < 128 := by omega
      have e4 : (76 : Int) < (r : Int) := by omega
      clear d4 d5 d6
      go_wp2
      refine wp_loop_rounds 3 ?_
      rw [rounds_succ]
      go_wp2_with (first | (go_at_call 52; refine (HD.out _).mono ?_; rintro e w1 ⟨rfl, rfl⟩) | (go_at_call 59; refine (HF1.out _).mono ?_; rintro e w1 ⟨rfl, rfl⟩))
      refine wp_loop_rounds 3 ?_
      rw [rounds_succ]
      go_wp2_with (go_at_call 59; refine (HF2.out _).mono ?_; rintro e w1 ⟨rfl, rfl⟩)
      rw [rounds_succ]
      go_wp2
      try simp only [Exit.jump]
      go_ret
      exact ⟨by rw [hN.out]; simp, below_iter _ _ _⟩
    · obtain ⟨S, hS⟩ : ∃ S, s.extract 1 4 = S := ⟨_, rfl⟩
      have hz : S.size = 3 := by rw [← hS, ByteArray.size_extract, hs]; rfl
      have hS0 : (S[0]'(by omega)) = x1 := by subst hS; rw [ByteArray.getElem_extract]; exact hx1
      have hlt := x1.toNat_lt
      have hd := Dy.dec_facts S 0 (by omega) (by rw [hS0]; exact ha)
      have hnx := fun ty => run_next_any (P := Tryd.prog) w S 0 ty (by omega)
      have hn : Nat.beq (Wd.sm x1.toNat) 97 = false := sm_ne _ _ (by decide) (by omega)
      generalize hD : Utf8.decode S 0 = D at *
      obtain ⟨r, n⟩ := D
      simp only at hd hnx
      obtain ⟨d1, d2, _, d4, d5, d6, _⟩ := hd
      have hF : FoldW (w.iter S 0) := HW.out.bl (below_iter _ _ _)
      have hF2 : FoldW (w.iter S (0 + n)) := HW.out.bl (below_iter _ _ _)
      have hT : (⟨#[108, 97, 115, 116]⟩ : ByteArray).extract 1 4 = ⟨#[97, 115, 116]⟩ := rfl
      have hT2 : (⟨#[97, 115, 116]⟩ : ByteArray).extract 1 3 = ⟨#[115, 116]⟩ := rfl
      have hN := Lib.hid hn
      have hdec : ∀ wx : World, Calls Tryd.prog 52 #[.string ⟨#[97, 115, 116]⟩] wx fun e w' => e = .returned (.tuple #[.int .i32 97, .int .i64 1]) ∧ wx = w' := fun wx => (Tryd.utf8_DecodeRuneInString_ascii ⟨#[97, 115, 116]⟩ 97 wx rfl (by decide)).mono fun e w' ⟨h1, h2⟩ => ⟨h1, h2.symm⟩
      have HD := Lib.hid hdec
      have hf1 : ∀ m, Calls Tryd.prog 59 #[.int .i32 97] (w.iter S m) fun e w' => e = .returned (.int .i32 65) ∧ w.iter S m = w' := fun m => sf_ascii 97 65 (by decide) (by decide) _ ((HW.out.bl (below_iter w S m)).ascii _ _ (by simp))
      have HF1 := Lib.hid hf1
      have hf2 : ∀ m, Calls Tryd.prog 59 #[.int .i32 65] (w.iter S m) fun e w' => e = .returned (.int .i32 97) ∧ w.iter S m = w' := fun m => sf_ascii 65 97 (by decide) (by decide) _ ((HW.out.bl (below_iter w S m)).ascii _ _ (by simp))
      have HF2 := Lib.hid hf2
      clear hn hdec hf1 hf2 hS0 hD hF hF2 HW
      have e1 : ((97 : Int) == (r : Int)) = false := beq_eq_false_iff_ne.2 (by omega)
      have e2 : (97 : Int) < (r : Int) := by omega
      have e3 : ¬ (r : Int) < 128 := by omega
      have e4 : (65 : Int) < (r : Int) := by omega
      clear d4 d5 d6
      go_wp2
      refine wp_loop_rounds 3 ?_
      rw [rounds_succ]
      go_wp2_with (first | (go_at_call 52; refine (HD.out _).mono ?_; rintro e w1 ⟨rfl, rfl⟩) | (go_at_call 59; refine (HF1.out _).mono ?_; rintro e w1 ⟨rfl, rfl⟩))
      refine wp_loop_rounds 3 ?_
      rw [rounds_succ]
      go_wp2_with (go_at_call 59; refine (HF2.out _).mono ?_; rintro e w1 ⟨rfl, rfl⟩)
      rw [rounds_succ]
      go_wp2
      try simp only [Exit.jump]
      go_ret
      exact ⟨by rw [hN.out]; simp, below_iter _ _ _⟩
    · obtain ⟨S, hS⟩ : ∃ S, s.extract 2 4 = S := ⟨_, rfl⟩
      have hz : S.size = 2 := by rw [← hS, ByteArray.size_extract, hs]; rfl
      have hS0 : (S[0]'(by omega)) = x2 := by subst hS; rw [ByteArray.getElem_extract]; exact hx2
      have hlt := x2.toNat_lt
      have hd := Dy.dec_facts S 0 (by omega) (by rw [hS0]; exact ha)
      have hnx := fun ty => run_next_any (P := Tryd.prog) w S 0 ty (by omega)
      have hn : Nat.beq (Wd.sm x2.toNat) 115 = false := sm_ne _ _ (by decide) (by omega)
      generalize hD : Utf8.decode S 0 = D at *
      obtain ⟨r, n⟩ := D
      simp only at hd hnx
      obtain ⟨d1, d2, _, d4, d5, d6, _⟩ := hd
      have hF : FoldW (w.iter S 0) := HW.out.bl (below_iter _ _ _)
      have hF2 : FoldW (w.iter S (0 + n)) := HW.out.bl (below_iter _ _ _)
      have hT : (⟨#[108, 97, 115, 116]⟩ : ByteArray).extract 2 4 = ⟨#[115, 116]⟩ := rfl
      have hT2 : (⟨#[115, 116]⟩ : ByteArray).extract 1 2 = ⟨#[116]⟩ := rfl
      have hN := Lib.hid hn
      have hdec : ∀ wx : World, Calls Tryd.prog 52 #[.string ⟨#[115, 116]⟩] wx fun e w' => e = .returned (.tuple #[.int .i32 115, .int .i64 1]) ∧ wx = w' := fun wx => (Tryd.utf8_DecodeRuneInString_ascii ⟨#[115, 116]⟩ 115 wx rfl (by decide)).mono fun e w' ⟨h1, h2⟩ => ⟨h1, h2.symm⟩
      have HD := Lib.hid hdec
      have hf1 : ∀ m, Calls Tryd.prog 59 #[.int .i32 115] (w.iter S m) fun e w' => e = .returned (.int .i32 383) ∧ w.iter S m = w' := fun m => sf_ascii 115 383 (by decide) (by decide) _ ((HW.out.bl (below_iter w S m)).ascii _ _ (by simp))
      have HF1 := Lib.hid hf1
      have hf2 : ∀ m, Calls Tryd.prog 59 #[.int .i32 383] (w.iter S m) fun e w' => e = .returned (.int .i32 83) ∧ w.iter S m = w' := fun m => sf_383 _ (HW.out.bl (below_iter w S m))
      have hf3 : ∀ m, Calls Tryd.prog 59 #[.int .i32 83] (w.iter S m) fun e w' => e = .returned (.int .i32 115) ∧ w.iter S m = w' := fun m => sf_ascii 83 115 (by decide) (by decide) _ ((HW.out.bl (below_iter w S m)).ascii _ _ (by simp))
      have HF3 := Lib.hid hf3
      clear hf3
      have HF2 := Lib.hid hf2
      clear hn hdec hf1 hf2 hS0 hD hF hF2 HW
      have e1 : ((115 : Int) == (r : Int)) = false := beq_eq_false_iff_ne.2 (by omega)
      have e2 : (115 : Int) < (r : Int) := by omega
      have e3 : ¬ (r : Int) < 128 := by omega
      have e7 : r < 383 ∨ r = 383 ∨ 383 < r := by omega
      rcases e7 with e7 | e7 | e7
      · have e4 : ¬ (383 : Int) < (r : Int) := by omega
        have e5 : ((383 : Int) == (r : Int)) = false := beq_eq_false_iff_ne.2 (by omega)
        clear d4 d5 d6 e7
        go_wp2
        refine wp_loop_rounds 3 ?_
        rw [rounds_succ]
        go_wp2_with (first | (go_at_call 52; refine (HD.out _).mono ?_; rintro e w1 ⟨rfl, rfl⟩) | (go_at_call 59; refine (HF1.out _).mono ?_; rintro e w1 ⟨rfl, rfl⟩))
        refine wp_loop_rounds 3 ?_
        rw [rounds_succ]
        go_wp2
        try simp only [Exit.jump]
        go_ret
        exact ⟨by rw [hN.out]; simp, below_iter _ _ _⟩
      · obtain rfl := d6 e7
        subst e7
        have hne := fun ty => run_next_end (P := Tryd.prog) w S (0 + 2) ty (by omega)
        clear d4 d5
        go_wp2
        refine wp_loop_rounds 3 ?_
        rw [rounds_succ]
        go_wp2_with (first | (go_at_call 52; refine (HD.out _).mono ?_; rintro e w1 ⟨rfl, rfl⟩) | (go_at_call 59; refine (HF1.out _).mono ?_; rintro e w1 ⟨rfl, rfl⟩))
        refine wp_loop_rounds 3 ?_
        rw [rounds_succ]
        go_wp2
        rw [rounds_succ]
        go_wp2
        try simp only [Exit.jump]
        go_ret
        exact ⟨by rw [hN.out]; simp, below_iter _ _ _⟩
      · have e4 : (383 : Int) < (r : Int) := by omega
        have e5 : (83 : Int) < (r : Int) := by omega
        clear d4 d5 d6 e7
        go_wp2
        refine wp_loop_rounds 3 ?_
        rw [rounds_succ]
        go_wp2_with (first | (go_at_call 52; refine (HD.out _).mono ?_; rintro e w1 ⟨rfl, rfl⟩) | (go_at_call 59; refine (HF1.out _).mono ?_; rintro e w1 ⟨rfl, rfl⟩))
        refine wp_loop_rounds 4 ?_
        rw [rounds_succ]
        go_wp2_with (go_at_call 59; refine (HF2.out _).mono ?_; rintro e w1 ⟨rfl, rfl⟩)
        rw [rounds_succ]
        go_wp2_with (go_at_call 59; refine (HF3.out _).mono ?_; rintro e w1 ⟨rfl, rfl⟩)
        rw [rounds_succ]
        go_wp2
        try simp only [Exit.jump]
        go_ret
        exact ⟨by rw [hN.out]; simp, below_iter _ _ _⟩
    · obtain ⟨S, hS⟩ : ∃ S, s.extract 3 4 = S := ⟨_, rfl⟩
      have hz : S.size = 1 := by rw [← hS, ByteArray.size_extract, hs]; rfl
      have hS0 : (S[0]'(by omega)) = x3 := by subst hS; rw [ByteArray.getElem_extract]; exact hx3
      have hlt := x3.toNat_lt
      have hd := Dy.dec_facts S 0 (by omega) (by rw [hS0]; exact ha)
      have hnx := fun ty => run_next_any (P := Tryd.prog) w S 0 ty (by omega)
      have hn : Nat.beq (Wd.sm x3.toNat) 116 = false := sm_ne _ _ (by decide) (by omega)
      generalize hD : Utf8.decode S 0 = D at *
      obtain ⟨r, n⟩ := D
      simp only at hd hnx
      obtain ⟨d1, d2, _, d4, d5, d6, _⟩ := hd
      have hF : FoldW (w.iter S 0) := HW.out.bl (below_iter _ _ _)
      have hF2 : FoldW (w.iter S (0 + n)) := HW.out.bl (below_iter _ _ _)
      have hT : (⟨#[108, 97, 115, 116]⟩ : ByteArray).extract 3 4 = ⟨#[116]⟩ := rfl
      have hT2 : (⟨#[116]⟩ : ByteArray).extract 1 1 = ⟨#[]⟩ := rfl
      have hN := Lib.hid hn
      have hdec : ∀ wx : World, Calls Tryd.prog 52 #[.string ⟨#[116]⟩] wx fun e w' => e = .returned (.tuple #[.int .i32 116, .int .i64 1]) ∧ wx = w' := fun wx => (Tryd.utf8_DecodeRuneInString_ascii ⟨#[116]⟩ 116 wx rfl (by decide)).mono fun e w' ⟨h1, h2⟩ => ⟨h1, h2.symm⟩
      have HD := Lib.hid hdec
      have hf1 : ∀ m, Calls Tryd.prog 59 #[.int .i32 116] (w.iter S m) fun e w' => e = .returned (.int .i32 84) ∧ w.iter S m = w' := fun m => sf_ascii 116 84 (by decide) (by decide) _ ((HW.out.bl (below_iter w S m)).ascii _ _ (by simp))
      have HF1 := Lib.hid hf1
      have hf2 : ∀ m, Calls Tryd.prog 59 #[.int .i32 84] (w.iter S m) fun e w' => e = .returned (.int .i32 116) ∧ w.iter S m = w' := fun m => sf_ascii 84 116 (by decide) (by decide) _ ((HW.out.bl (below_iter w S m)).ascii _ _ (by simp))
      have HF2 := Lib.hid hf2
      clear hn hdec hf1 hf2 hS0 hD hF hF2 HW
      have e1 : ((116 : Int) == (r : Int)) = false := beq_eq_false_iff_ne.2 (by omega)
      have e2 : (116 : Int) < (r : Int) := by omega
      have e3 : ¬ (r : Int) < 128 := by omega
      have e4 : (84 : Int) < (r : Int) := by omega
      clear d4 d5 d6
      go_wp2
      refine wp_loop_rounds 3 ?_
      rw [rounds_succ]
      go_wp2_with (first | (go_at_call 52; refine (HD.out _).mono ?_; rintro e w1 ⟨rfl, rfl⟩) | (go_at_call 59; refine (HF1.out _).mono ?_; rintro e w1 ⟨rfl, rfl⟩))
      refine wp_loop_rounds 3 ?_
      rw [rounds_succ]
      go_wp2_with (go_at_call 59; refine (HF2.out _).mono ?_; rintro e w1 ⟨rfl, rfl⟩)
      rw [rounds_succ]
      go_wp2
      try simp only [Exit.jump]
      go_ret
      exact ⟨by rw [hN.out]; simp, below_iter _ _ _⟩
  go_wp2
  go_loopw [5, 7, 8] (fun k _ _ wx => w = wx ∧ ∃ i : Nat, i ≤ 4 ∧ k = .int .i64 i ∧ (0 < i → Wd.sm x0.toNat = 108) ∧ (1 < i → Wd.sm x1.toNat = 97) ∧ (2 < i → Wd.sm x2.toNat = 115) ∧ (3 < i → Wd.sm x3.toNat = 116)) (fun k _ _ _ => 4 - (intOf k).toNat)
  case atStart => exact ⟨rfl, 0, by omega, rfl, by omega, by omega, by omega, by omega⟩
  case round =>
    obtain ⟨rfl, i, hi, rfl, g0, g1, g2, g3⟩ := hrel
    have h5 : i = 0 ∨ i = 1 ∨ i = 2 ∨ i = 3 ∨ i = 4 := by omega
    rcases h5 with rfl | rfl | rfl | rfl | rfl
    ·
      have hlt := x0.toNat_lt
      have hlit : ((⟨#[108, 97, 115, 116]⟩ : ByteArray)[0]'(by decide)).toNat = 108 := rfl
      by_cases ha : x0.toNat < 128
      · have hor : bits .or .u8 (x0.toNat : Int) 108 = ((x0.toNat ||| 108 : Nat) : Int) := u8_or_nat _ 108 (by omega) (by omega)
        have hor2 : ¬ ((128 : Int) ≤ ((x0.toNat ||| 108 : Nat) : Int)) := by have := Nat.or_lt_two_pow (n := 7) ha (show 108 < 2 ^ 7 by decide); omega
        go_wp2
        all_goals (try simp only [beq_iff_eq, beq_eq_false_iff_ne, ne_eq] at *)
        all_goals first
          | (go_roundw
             case rel => exact ⟨by first | rfl | trivial, 1, by omega, by first | rfl | simp, fun _ => (sm_eq _ _ (by decide)).2 (by omega), by omega, by omega, by omega⟩
             case measure => simp [intOf] <;> omega)
          | (try simp only [Exit.jump]
             go_ret
             refine ⟨?_, Below.refl _ _⟩
             have hn : Nat.beq (Wd.sm x0.toNat) 108 = false := sm_ne _ _ (by decide) (by omega)
             rw [hn]
             simp)
      · have hor : bits .or .u8 (x0.toNat : Int) 108 = ((x0.toNat ||| 108 : Nat) : Int) := u8_or_nat _ 108 (by omega) (by omega)
        have hor2 : (128 : Int) ≤ ((x0.toNat ||| 108 : Nat) : Int) := by have := @Nat.left_le_or x0.toNat 108; omega
        go_wp2
        go_step3
        go_wp2
        try simp only [Exit.jump]
        exact ⟨trivial, trivial, 0, act_u s 0 _ _ rfl rfl rfl rfl (by omega)⟩
    ·
      have hlt := x1.toNat_lt
      have hlit : ((⟨#[108, 97, 115, 116]⟩ : ByteArray)[1]'(by decide)).toNat = 97 := rfl
      by_cases ha : x1.toNat < 128
      · have hor : bits .or .u8 (x1.toNat : Int) 97 = ((x1.toNat ||| 97 : Nat) : Int) := u8_or_nat _ 97 (by omega) (by omega)
        have hor2 : ¬ ((128 : Int) ≤ ((x1.toNat ||| 97 : Nat) : Int)) := by have := Nat.or_lt_two_pow (n := 7) ha (show 97 < 2 ^ 7 by decide); omega
        go_wp2
        all_goals (try simp only [beq_iff_eq, beq_eq_false_iff_ne, ne_eq] at *)
        all_goals first
          | (go_roundw
             case rel => exact ⟨by first | rfl | trivial, 2, by omega, by first | rfl | simp, fun _ => g0 (by omega), fun _ => (sm_eq _ _ (by decide)).2 (by omega), by omega, by omega⟩
             case measure => simp [intOf] <;> omega)
          | (try simp only [Exit.jump]
             go_ret
             refine ⟨?_, Below.refl _ _⟩
             have hn : Nat.beq (Wd.sm x1.toNat) 97 = false := sm_ne _ _ (by decide) (by omega)
             rw [hn]
             simp)
      · have hor : bits .or .u8 (x1.toNat : Int) 97 = ((x1.toNat ||| 97 : Nat) : Int) := u8_or_nat _ 97 (by omega) (by omega)
        have hor2 : (128 : Int) ≤ ((x1.toNat ||| 97 : Nat) : Int) := by have := @Nat.left_le_or x1.toNat 97; omega
        go_wp2
        go_step3
        go_wp2
        try simp only [Exit.jump]
        exact ⟨trivial, trivial, 1, act_u s 1 _ _ rfl rfl rfl rfl (by omega)⟩
    ·
      have hlt := x2.toNat_lt
      have hlit : ((⟨#[108, 97, 115, 116]⟩ : ByteArray)[2]'(by decide)).toNat = 115 := rfl
      by_cases ha : x2.toNat < 128
      · have hor : bits .or .u8 (x2.toNat : Int) 115 = ((x2.toNat ||| 115 : Nat) : Int) := u8_or_nat _ 115 (by omega) (by omega)
        have hor2 : ¬ ((128 : Int) ≤ ((x2.toNat ||| 115 : Nat) : Int)) := by have := Nat.or_lt_two_pow (n := 7) ha (show 115 < 2 ^ 7 by decide); omega
        go_wp2
        all_goals (try simp only [beq_iff_eq, beq_eq_false_iff_ne, ne_eq] at *)
        all_goals first
          | (go_roundw
             case rel => exact ⟨by first | rfl | trivial, 3, by omega, by first | rfl | simp, fun _ => g0 (by omega), fun _ => g1 (by omega), fun _ => (sm_eq _ _ (by decide)).2 (by omega), by omega⟩
             case measure => simp [intOf] <;> omega)
          | (try simp only [Exit.jump]
             go_ret
             refine ⟨?_, Below.refl _ _⟩
             have hn : Nat.beq (Wd.sm x2.toNat) 115 = false := sm_ne _ _ (by decide) (by omega)
             rw [hn]
             simp)
      · have hor : bits .or .u8 (x2.toNat : Int) 115 = ((x2.toNat ||| 115 : Nat) : Int) := u8_or_nat _ 115 (by omega) (by omega)
        have hor2 : (128 : Int) ≤ ((x2.toNat ||| 115 : Nat) : Int) := by have := @Nat.left_le_or x2.toNat 115; omega
        go_wp2
        go_step3
        go_wp2
        try simp only [Exit.jump]
        exact ⟨trivial, trivial, 2, act_u s 2 _ _ rfl rfl rfl rfl (by omega)⟩
    ·
      have hlt := x3.toNat_lt
      have hlit : ((⟨#[108, 97, 115, 116]⟩ : ByteArray)[3]'(by decide)).toNat = 116 := rfl
      by_cases ha : x3.toNat < 128
      · have hor : bits .or .u8 (x3.toNat : Int) 116 = ((x3.toNat ||| 116 : Nat) : Int) := u8_or_nat _ 116 (by omega) (by omega)
        have hor2 : ¬ ((128 : Int) ≤ ((x3.toNat ||| 116 : Nat) : Int)) := by have := Nat.or_lt_two_pow (n := 7) ha (show 116 < 2 ^ 7 by decide); omega
        go_wp2
        all_goals (try simp only [beq_iff_eq, beq_eq_false_iff_ne, ne_eq] at *)
        all_goals first
          | (go_roundw
             case rel => exact ⟨by first | rfl | trivial, 4, by omega, by first | rfl | simp, fun _ => g0 (by omega), fun _ => g1 (by omega), fun _ => g2 (by omega), fun _ => (sm_eq _ _ (by decide)).2 (by omega)⟩
             case measure => simp [intOf] <;> omega)
          | (try simp only [Exit.jump]
             go_ret
             refine ⟨?_, Below.refl _ _⟩
             have hn : Nat.beq (Wd.sm x3.toNat) 116 = false := sm_ne _ _ (by decide) (by omega)
             rw [hn]
             simp)
      · have hor : bits .or .u8 (x3.toNat : Int) 116 = ((x3.toNat ||| 116 : Nat) : Int) := u8_or_nat _ 116 (by omega) (by omega)
        have hor2 : (128 : Int) ≤ ((x3.toNat ||| 116 : Nat) : Int) := by have := @Nat.left_le_or x3.toNat 116; omega
        go_wp2
        go_step3
        go_wp2
        try simp only [Exit.jump]
        exact ⟨trivial, trivial, 3, act_u s 3 _ _ rfl rfl rfl rfl (by omega)⟩
    · have hres : (Nat.beq (Wd.sm x0.toNat) 108 && Nat.beq (Wd.sm x1.toNat) 97 && Nat.beq (Wd.sm x2.toNat) 115 && Nat.beq (Wd.sm x3.toNat) 116) = true := by rw [g0 (by omega), g1 (by omega), g2 (by omega), g3 (by omega)]; rfl
      have HR := Lib.hid hres
      clear hres
      go_wp2
      try simp only [Exit.jump]
      go_ret
      exact ⟨by rw [HR.out]; rfl, Below.refl _ _⟩
end Go.Proofs.YtedcfnaphfgfjaaDoor
