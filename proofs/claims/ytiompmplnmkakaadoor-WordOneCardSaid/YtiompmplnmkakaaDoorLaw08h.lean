/- The walk of WordOne. -/
import Derived.Test.YtiompmplnmkakaaDoorLaw08e
import Derived.Test.YtiompmplnmkakaaDoorWdq
import Derived.Test.YtiompmplnmkakaaDoorOpen5
import Derived.Deep.OwnRows
namespace Go.Proofs.YtiompmplnmkakaaDoor
open Go.RowKit
/-- the letters of numbers -/
def ltr (c : UInt8) : UInt8 := 97 + c % 26
theorem ltr_nat (c : UInt8) : (ltr c).toNat = 97 + c.toNat % 26 := by
  have h := Nat.mod_lt c.toNat (show 0 < 26 by decide)
  rw [ltr, UInt8.toNat_add, UInt8.toNat_mod]
  show (97 + c.toNat % 26) % 256 = _
  omega
theorem ltr_letters (l : List UInt8) : ∀ a ∈ Wd.nats (l.map ltr), 97 ≤ a ∧ a ≤ 122 := by
  intro a ha
  simp only [Wd.nats, List.map_map, List.mem_map] at ha
  obtain ⟨c, _, rfl⟩ := ha
  have h := Nat.mod_lt c.toNat (show 0 < 26 by decide)
  have := ltr_nat c
  simp only [Function.comp_apply]
  omega
theorem infB : (Tryd.prog.info? 5).map (fun i => (i.zero, i.size, i.bytes)) = some (some (.int .u8 0), 1, 1) := by kernel_rfl
theorem made_at (n j : Nat) (h : j < n) : (madeCells #[Value.int .u8 0] n)[j]? = some (.int .u8 0) := by
  simp [madeCells, h, Nat.mod_one]
set_option maxRecDepth 100000 in
set_option maxHeartbeats 4000000 in
theorem one_core (a : Option Addr) (cap : Nat) (l : List UInt8) (hl : l.length ≤ 12) (W0 : World) (hcell : ∀ j c, l[j]? = some c → ∃ b off, a = some ⟨b, off, none⟩ ∧ b < W0.heap.size ∧ W0.cell? ⟨b, off + j, none⟩ = some (.int .u8 (c.toNat : Int))) (hT : TabW W0) :
    Calls Tryd.prog 8 #[.slice a l.length cap] W0 fun e w' => e = .returned (.bool true) ∧ Below W0.heap.size W0 w' := by
  have HC := Lib.hid (Wo.mk0 hT)
  have H := Lib.hid hcell
  have hl0 : ¬ (12 : Int) < (l.length : Int) := by omega
  obtain ⟨n, hn⟩ : ∃ n, l.length = n := ⟨_, rfl⟩
  rw [hn] at hl0 ⊢
  have hn12 : n ≤ 12 := by omega
  have hmk := run_make_row' (P := Tryd.prog) 36 5 (.int .u8 0) 1 Tryd.underlying36 infB rfl .i64 .i64 n (by omega) (by omega) W0
  have hc0 : ∀ j, j < n → (W0.alloc (.cells (madeCells #[.int .u8 0] n) 5)).cell? ⟨W0.heap.size, j, none⟩ = some (.int .u8 0) := fun j hj => new_cell W0 _ _ j _ (made_at n j hj)
  have hf0 : ∀ j, j < n → (W0.alloc (.cells (madeCells #[.int .u8 0] n) 5)).frozen? ⟨W0.heap.size, j, none⟩ = false := fun j hj => frozen_of_row _ _ j _ _ (row_new rfl)
  have hb0 : Below W0.heap.size W0 (W0.alloc (.cells (madeCells #[.int .u8 0] n) 5)) := (Below.refl _ W0).alloc (Nat.le_refl _) _
  have HT0 := Wo.hal HC (.cells (madeCells #[.int .u8 0] n) 5)
  have HN := Lib.hid hn
  clear hT hcell hn hl
  go_enter Tryd.func8, Tryd.ntmps8
  go_wp2
  generalize hw1 : W0.alloc (.cells (madeCells #[.int .u8 0] n) 5) = w1 at *
  clear hmk hw1
  go_loopw [22] (fun i wr => ∃ (k : Nat) (M : List UInt8), k ≤ n ∧ i = .int .i64 k ∧ Hid (M.length = n ∧ ∀ j, j < k → M[j]? = (l.map ltr)[j]?) ∧ Hid (∀ j b, M[j]? = some b → wr.cell? ⟨W0.heap.size, j, none⟩ = some (.int .u8 (b.toNat : Int))) ∧ Hid (∀ j, j < n → wr.frozen? ⟨W0.heap.size, j, none⟩ = false) ∧ Hid (Below W0.heap.size W0 wr)) (fun i _ => n - (intOf i).toNat)
  case atStart =>
    refine ⟨0, List.replicate n 0, by omega, rfl, Lib.hid ⟨by simp, fun j hj => by omega⟩, Lib.hid (fun j b hj => ?_), Lib.hid hf0, Lib.hid hb0⟩
    rw [List.getElem?_replicate] at hj
    split at hj
    · rename_i h
      obtain rfl := Option.some.inj hj
      exact hc0 j h
    · cases hj
  case round =>
    obtain ⟨k, M, hk, rfl, HM, HCl, HF, HW⟩ := hrel
    clear hc0 hf0 hb0
    by_cases hkl : k < n
    · have hx : l[k]? = some (l[k]'(by rw [HN.out]; exact hkl)) := List.getElem?_eq_getElem _
      generalize l[k]'(by rw [HN.out]; exact hkl) = c at *
      obtain ⟨b, off, rfl, hbl, hcl⟩ := H.out k c hx
      have c1 := cell_bl HW.out hcl
      have hmk : k < M.length := by rw [HM.out.1]; exact hkl
      have c0 := HCl.out k _ (List.getElem?_eq_getElem hmk)
      have f0 := HF.out k hkl
      have hc := c.toNat_lt
      have hk0 : (0 : Int) ≤ (k : Int) := by omega
      have hk1 : (k : Int) < (n : Int) := by omega
      have HX := Lib.hid hx
      clear hx hcl
      go_wp2
      have hv : (97 + (c.toNat : Int) % 26) = ((ltr c).toNat : Int) := by rw [ltr_nat]; omega
      rw [hv]
      refine ⟨⟨k + 1, M.set k (ltr c), by omega, by go_num, Lib.hid ⟨by rw [List.length_set]; exact HM.out.1, fun j hj => ?_⟩, Lib.hid (fun j b hj => ?_), Lib.hid (fun j hj => ?_), Lib.hid (HW.out.setCell (p := ⟨W0.heap.size, k, none⟩) (Nat.le_refl _) _)⟩, by simp [intOf] <;> omega⟩
      · by_cases e : j = k
        · subst e
          rw [List.getElem?_set_self hmk, List.getElem?_map, HX.out]
          rfl
        · rw [List.getElem?_set_ne (fun h => e h.symm)]
          exact HM.out.2 j (by omega)
      · by_cases e : j = k
        · subst e
          rw [List.getElem?_set_self hmk] at hj
          obtain rfl := Option.some.inj hj
          exact World.cell?_setCell_same' _ _ _ (by rw [c0]; rfl)
        · rw [List.getElem?_set_ne (fun h => e h.symm)] at hj
          have hne : (⟨W0.heap.size, k, none⟩ : Addr) ≠ ⟨W0.heap.size, j, none⟩ := fun h => e (by injection h with _ h2 _; exact h2.symm)
          rw [World.cell?_setCell_other _ _ _ _ hne]
          exact HCl.out j b hj
      · rw [World.frozen?_setCell]
        exact HF.out j hj
    · obtain rfl : k = n := by omega
      have hM : M = l.map ltr := by
        apply List.ext_getElem?
        intro j
        by_cases hj : j < k
        · exact HM.out.2 j hj
        · rw [List.getElem?_eq_none (by rw [HM.out.1]; omega), List.getElem?_eq_none (by rw [List.length_map, HN.out]; omega)]
      have hcv := run_convert_bytes_back (P := Tryd.prog) wr 36 9 5 ⟨W0.heap.size, 0, none⟩ k M Tryd.underlying36 Tryd.underlying5 Tryd.underlying9 (fun j hj => by
        have := HCl.out j M[j] (List.getElem?_eq_getElem hj)
        by_cases e : j = 0
        · subst e; exact this
        · simpa [Addr.add, e] using this)
      rw [HM.out.1] at hcv
      obtain ⟨S, hS⟩ : ∃ S : ByteArray, (⟨M.toArray⟩ : ByteArray) = S := ⟨_, rfl⟩
      have hSd : S.data.toList = l.map ltr := by rw [← hS, ← hM]
      have hSz : S.size = k := by
        have : S.data.toList.length = S.size := by rw [Array.length_toList]; rfl
        rw [← this, hSd, List.length_map, HN.out]
      rw [hS] at hcv
      have HSD := Lib.hid hSd
      have HSZ := Lib.hid hSz
      have HCr : Hid (Wo W0 wr) := Lib.hid (HC.out.bl HW.out)
      clear hM hS hSd hSz HCl HF HM hk hkl
      go_wp2_with fail
      refine (lists_any _).mono ?_; rintro e w2 ⟨rfl, hL, hb, hsz⟩
      replace HCr := Wo.hbl HCr hb
      have HL := Lib.hid hL
      clear hL hb hsz hcv
      generalize wr.heap.size = h at *
      go_wp2
      go_loopw [39] (fun i wx => ∃ q : Nat, q ≤ 4 ∧ i = .int .i64 q ∧ Hid (Ls h wx) ∧ Hid (Wo W0 wx)) (fun i _ => 4 - (intOf i).toNat)
      case atStart => exact ⟨0, by omega, rfl, HL, HCr⟩
      case round =>
        obtain ⟨q, hq, rfl, HLx, HCx⟩ := hrel
        clear HL HCr
        by_cases hq4 : q < 4
        · have hlow : Wd.low S.data.toList = Wd.nats S.data.toList := low_letters _ (by rw [HSD.out]; exact ltr_letters l)
          have hone := Wd.one_plain q hq4 (Wd.nats S.data.toList)
          rw [← Wd.wl_LQ q hq4, ← hlow] at hone
          have hlz : (Wd.low S.data.toList).length = S.size := Wd.low_len S
          rw [hlz] at hone
          have hsh : Wd.low (S.extract 0 (S.size - 1)).data.toList = (Wd.low S.data.toList).take (S.size - 1) := by
            rw [Lib.extract_data, Wd.low, Wd.low, List.map_take]; rfl
          rw [← hsh] at hone
          have hvl : (Wd.VQ q).length = (RQ q).length := by rw [← Wd.wl_RQ q hq4, wl, List.length_map]
          have hvg : ∀ p y, (RQ q)[p]? = some y → (Wd.VQ q).getD p [] = Wd.nats y.data.toList := fun p y hy => by rw [← Wd.wl_RQ q hq4, wl_at _ _ _ hy]
          have hLq := HLx.out.l q hq4
          have hFq := HLx.out.find q hq4
          have hNq := HLx.out.first q hq4
          have hWq := HLx.out.words q hq4
          have hq0 : (0 : Int) ≤ (q : Int) := by omega
          have hq1 : (q : Int) < 4 := by omega
          have hE := enters_q q hq4
          have HF : Hid (∀ (wx : World) (s : ByteArray) (r1 r2 : Int), Hid (Wd.fnd (wl (LQ q)) (Wd.low s.data.toList) = (r1, r2)) → Hid (Wo W0 wx) → Calls Tryd.prog (FQ q) #[.string s] wx fun e w' => e = .returned (.tuple #[.int .i64 r1, .int .i64 r2]) ∧ Below wx.heap.size wx w' ∧ Hid (Wo W0 w')) := Lib.hid (fun wx s r1 r2 hr hc => find_q q hq4 s r1 r2 hr hc)
          have hN0 : 0 ≤ NQ q ∧ NQ q ≤ 1 := by rcases q_split q hq4 with rfl | rfl | rfl | rfl <;> decide
          obtain ⟨hN1, hN2⟩ := hN0
          have hl12 := (len_q q hq4).2
          have H4 := Lib.hid hq4
          generalize FQ q = F at *
          generalize NQ q = N at *
          generalize RQ q = L at *
          have X : Hid (Xq L F N (h + q) wr.heap.size (wr.alloc (.cells #[.slice (some ⟨h + q, 0, none⟩) L.length L.length, .func (.func F) #[] #[], .int .i64 N] 31))) := Lib.hid ⟨new_cell wr _ _ 0 _ rfl, new_cell wr _ _ 1 _ rfl, new_cell wr _ _ 2 _ rfl, hWq.al _⟩
          have HCy := Wo.hal HCx (.cells #[.slice (some ⟨h + q, 0, none⟩) L.length L.length, .func (.func F) #[] #[], .int .i64 N] 31)
          have HLy : Hid (Ls h (wr.alloc (.cells #[.slice (some ⟨h + q, 0, none⟩) L.length L.length, .func (.func F) #[] #[], .int .i64 N] 31))) := Lib.hid (HLx.out.bl ((Below.refl _ wr).alloc (Nat.le_refl _) _))
          have HW4 := Lib.hid hWq
          clear hWq HLx HCx hlow hlz hsh
          rcases hone with hA | ⟨p, hp, hB1, hB2, hB3, hB4⟩
          · have HA := Lib.hid hA
            clear hA hvl hvg
            go_wp2_with (first | (refine wpList_store_row rfl 31 _ _ rfl wr.heap.size #[.slice (some ⟨h + q, 0, none⟩) L.length L.length, .func (.func F) #[] #[], .int .i64 N] rfl rfl _ _ (heap_alloc_last wr _) sz31 rfl (by simp [Value.oneCell']) ?_; rw [World.setRow_alloc_new]) | (go_at_fn F; refine (HF.out _ _ 0 8 HA HCy).mono ?_; rintro e w3 ⟨rfl, hb, HC3⟩))
            go_roundw
            case rel => exact ⟨q + 1, by omega, by go_num, Ls.hbl HLy hb, HC3⟩
            case measure => simp [intOf] <;> omega
          · rw [hvl] at hp
            have hy : L[p]? = some (L[p]) := List.getElem?_eq_getElem hp
            generalize L[p] = y at *
            rw [hvg p y hy] at hB3
            have HB1 := Lib.hid hB1
            have hle := Wd.pre_len _ _ hB3
            rw [Wd.low_len, Wd.nats_len] at hle
            have hS0 : 0 < S.size := by
              rcases Nat.eq_zero_or_pos S.size with e | e
              · exact absurd (List.eq_nil_of_length_eq_zero (by rw [Wd.low_len]; exact e)) hB2
              · exact e
            have g0 : ((S.size : Int) == 0) = false := by rw [beq_eq_false_iff_ne]; omega
            have g1 : ¬ (y.size : Int) < (S.size : Int) := by omega
            have g2 : (S.size : Int) ≤ (y.size : Int) := by omega
            have g3 : ((y.extract 0 S.size).toList == S.toList) = true := by
              have := Wd.pre_take _ _ hB3
              rw [Wd.low_len] at this
              rw [beq_iff_eq, ByteArray.toList_eq, ByteArray.toList_eq, Lib.extract_data]
              show (y.data.toList.drop 0).take (S.size - 0) = _
              rw [List.drop_zero, Nat.sub_zero]
              refine Wd.nats_inj _ _ ?_
              rw [← low_letters S.data.toList (by rw [HSD.out]; exact ltr_letters l), this, Wd.nats, Wd.nats, List.map_take]
            have g4 : (1 : Int) ≤ (S.size : Int) := by omega
            have g5 : ¬ N + (p : Int) < N := by omega
            have g6 : ¬ (L.length : Int) ≤ (p : Int) := by omega
            have g7 : (0 : Int) ≤ (p : Int) := by omega
            have g8 : (p : Int) < (L.length : Int) := by omega
            have g9 : N + (p : Int) - N = (p : Int) := by omega
            have gE : ((0 : Int) != 0) = false := rfl
            have hyc := HW4.out.at p (strV_at _ _ _ hy)
            have HY := Lib.hid hyc
            have HB4 := Lib.hid hB4
            clear hB1 hB2 hB3 hB4 hvl hvg hy hyc
            go_wp2_with (first | (refine wpList_store_row rfl 31 _ _ rfl wr.heap.size #[.slice (some ⟨h + q, 0, none⟩) L.length L.length, .func (.func F) #[] #[], .int .i64 N] rfl rfl _ _ (heap_alloc_last wr _) sz31 rfl (by simp [Value.oneCell']) ?_; rw [World.setRow_alloc_new]) | (go_at_fn F; refine (HF.out _ _ _ 0 HB1 HCy).mono ?_; rintro e w3 ⟨rfl, hb, HC3⟩; have x0 := cell_bl hb X.out.1; have x1 := cell_bl hb X.out.2.1; have x2 := cell_bl hb X.out.2.2.1; have y0 := cell_bl hb (cell_al (A := (.cells #[.slice (some ⟨h + q, 0, none⟩) L.length L.length, .func (.func F) #[] #[], .int .i64 N] 31)) HY.out)))
            have HX3 := Xq.hbl X hb
            have HL3 := Ls.hbl HLy hb
            have p1 := HX3.out.2.1
            have e1 : (N + (p : Int) == N + (p : Int)) = true := by simp
            clear x0 x1 x2 y0 hb HX3 X HLy HCy HY
            replace HL3 : Hid (Ls h w3.drew) := Lib.hid (HL3.out.bl (Below.drew (Below.refl _ w3)))
            replace HC3 : Hid (Wo W0 w3.drew) := Wo.hdr HC3
            have m4 : (S.size : Int) ≤ 12 := by have := HSZ.out; omega
            have m5 : IntKind.i64.wrap ((S.size : Int) - 1) = (S.size : Int) - 1 := IntWalk.i64_in _ ⟨by omega, by omega⟩
            have m6 : (0 : Int) ≤ (S.size : Int) - 1 := by omega
            have m7 : (S.size : Int) - 1 ≤ (S.size : Int) := by omega
            have hB4' := HB4.out
            rcases hB4' with hB4 | hB4
            · have HB5 := Lib.hid hB4
              clear hB4 HB4
              go_region_held3 (fun w' => w'.cell? ⟨wr.heap.size, 1, none⟩ = some (.func (.func F) #[] #[]) ∧ Ls h w' ∧ Wo W0 w') (first | exact ⟨p1, HL3.out, HC3.out⟩)
                (first | (go_at_fn F; refine (HF.out _ _ (N + (p : Int)) 0 HB5 HC3).mono ?_; rintro e w4 ⟨rfl, hb4, HC4⟩; replace p1 := cell_bl hb4 p1; replace HL3 := Ls.hbl HL3 hb4; replace HC3 := HC4; clear hb4))
              go_wp2
              go_roundw
              case rel => exact ⟨q + 1, by omega, by go_num, HL3, HC3⟩
              case measure => simp [intOf] <;> omega
            · have HB5 := Lib.hid hB4
              clear hB4 HB4
              go_region_held3 (fun w' => w'.cell? ⟨wr.heap.size, 1, none⟩ = some (.func (.func F) #[] #[]) ∧ Ls h w' ∧ Wo W0 w') (first | exact ⟨p1, HL3.out, HC3.out⟩)
                (first | (go_at_fn F; refine (HF.out _ _ 0 8 HB5 HC3).mono ?_; rintro e w4 ⟨rfl, hb4, HC4⟩; replace p1 := cell_bl hb4 p1; replace HL3 := Ls.hbl HL3 hb4; replace HC3 := HC4; clear hb4))
              go_wp2
              go_roundw
              case rel => exact ⟨q + 1, by omega, by go_num, HL3, HC3⟩
              case measure => simp [intOf] <;> omega
        · obtain rfl : q = 4 := by omega
          go_wp2_with fail
          refine (works8_s HCx).mono ?_; rintro e w3 ⟨rfl, HC3⟩
          go_wp2
          go_ret
          exact ⟨rfl, HC3.out.1⟩
set_option maxRecDepth 100000 in
theorem one_long8 (a : Option Addr) (n cap : Nat) (hn : 12 < n) (W0 : World) (hT : TabW W0) :
    Calls Tryd.prog 8 #[.slice a n cap] W0 fun e w' => e = .returned (.bool true) ∧ Below W0.heap.size W0 w' := by
  have HC := Lib.hid (Wo.mk0 hT)
  have h1 : (12 : Int) < (n : Int) := by omega
  clear hT
  go_enter Tryd.func8, Tryd.ntmps8
  go_wp2_with fail
  refine (works8_s HC).mono ?_; rintro e w1 ⟨rfl, HC1⟩
  go_wp2
  go_ret
  exact ⟨rfl, HC1.out.1⟩
/-- a string means at most one word of each list; if it is cut off further, it means the same one, or none -/
theorem one_walk (W0 : World) (sv : Value) (l : List UInt8) (hI : Byts W0 sv l) (_hl : l.length ≤ maxLen) (hT : TabW W0) :
    Calls Tryd.prog 8 #[sv] W0 fun e w' => e = .returned (.bool true) ∧ Below W0.heap.size W0 w' := by
  rcases hI with ⟨a, cap, rfl, rfl⟩ | ⟨b, off, cap, rfl, _, h3, h4⟩
  · exact one_core a cap [] (by simp) W0 (fun j c h => by simp at h) hT
  · by_cases h : l.length ≤ 12
    · exact one_core _ cap l h W0 (fun j c hj => ⟨b, off, rfl, h3, h4 j c hj⟩) hT
    · exact one_long8 _ _ cap (by omega) W0 hT
end Go.Proofs.YtiompmplnmkakaaDoor
