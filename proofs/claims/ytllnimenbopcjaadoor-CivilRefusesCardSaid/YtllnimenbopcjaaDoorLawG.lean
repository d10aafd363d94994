/- The walk of CivilRefuses: it returns true. -/
import Derived.Test.YtllnimenbopcjaaDoorLawE
namespace Go.Proofs.YtllnimenbopcjaaDoor
open Go.RowKit

theorem Gs.one {W w : World} (h : Gs W w) (hp : 0 < W.heap.size) (A : Obj) : Gs W (w.alloc A) := by
  have hb : Below W.heap.size w (w.alloc A) := (Below.refl _ _).alloc h.1.size _
  exact ⟨h.1.trans hb, h.2.below hp hb⟩
theorem one_a (W : World) (xs : Array Value) (t : TypeId) (k : Nat) : (W.alloc (.cells xs t)).cell? ⟨W.heap.size, k, none⟩ = xs[k]? := by
  go_simp
theorem days_gno (y m d : Int) (ho : Cal.okB y m d = false) {w0 w : World} (h : Hid (Gs w0 w)) : Calls Tryd.prog 11 #[.int .i64 y, .int .i64 m, .int .i64 d] w fun e w' => e = .returned (.tuple #[.int .i64 0, .int .i64 3]) ∧ Dw w w' := days_no y m d w h.out.2 ho
theorem len_g (y m r : Int) (hr : Cal.len y m = r) {w0 w : World} (h : Hid (Gs w0 w)) : Calls Tryd.prog 15 #[.int .i64 y, .int .i64 m] w fun e w' => e = .returned (.int .i64 r) ∧ Dw w w' := hr ▸ len_any y m w h.out.2
/-- the days that are out of range -/
def farD (F : Int) (k : Nat) : Int := [730484280838 + F, -730485719529 - F, 9223372036854775807, -9223372036854775808].getD k 0
theorem farD_bd (F : Int) (bF : 0 ≤ F ∧ F ≤ 4294967295) (k : Nat) (hk : k < 4) : farD F k < -730485719528 ∨ 730484280837 < farD F k := by
  have : k = 0 ∨ k = 1 ∨ k = 2 ∨ k = 3 := by omega
  rcases this with e | e | e | e <;> subst e <;> simp [farD] <;> omega

theorem cell_lt {w : World} {b o : Nat} {v : Value} (h : w.cell? ⟨b, o, none⟩ = some v) : b < w.heap.size := by
  rcases Nat.lt_or_ge b w.heap.size with e | e
  · exact e
  · exfalso
    have : w.heap[b]? = none := Array.getElem?_eq_none e
    simp [World.cell?, this] at h
theorem cells_on {w w' : World} {b n : Nat} {f : Nat → Value} (hn : 0 < n) (h : ∀ k, k < n → w.cell? ⟨b, k, none⟩ = some (f k)) (A : Obj) (hd : Dw (w.alloc A) w') : ∀ k, k < n → w'.cell? ⟨b, k, none⟩ = some (f k) := by
  intro k hk
  rw [hd.cell, World.cell?_alloc_lt w A ⟨b, k, none⟩ (cell_lt (h 0 hn))]
  exact h k hk
/-- the dates that there are not, three numbers each -/
def badD (F y : Int) (k : Nat) : Int := [2000000001 + F, 1, 1, -2000000001 - F, 12, 31, y, 13 + F, 1, y, -F, 1, y, 1, 32 + F, y, 1, -F, 9223372036854775807, 1, 1, -9223372036854775808, 1, 1, y, 2, 30].getD k 0
theorem nine (k : Nat) (h : k < 9) : k = 0 ∨ k = 1 ∨ k = 2 ∨ k = 3 ∨ k = 4 ∨ k = 5 ∨ k = 6 ∨ k = 7 ∨ k = 8 := by omega
theorem badD_no (F y : Int) (bF : 0 ≤ F ∧ F ≤ 4294967295) (k : Nat) (hk : k < 9) : Cal.okB (badD F y (k * 3)) (badD F y (k * 3 + 1)) (badD F y (k * 3 + 2)) = false := by
  have l0 := Cal.len_no y (13 + F) (by omega)
  have l1 := Cal.len_no y (-F) (by omega)
  have l2 : Cal.len y 1 = 31 := by simp [Cal.len, Cal.tab]
  have l3 : Cal.len y 2 ≤ 29 := by have := Cal.lp_01 y; simp [Cal.len, Cal.tab]; omega
  rcases nine k hk with e | e | e | e | e | e | e | e | e <;> subst e <;> simp [badD, Cal.okB, l0, l1, l2] <;> omega
set_option maxHeartbeats 1000000 in
set_option maxRecDepth 100000 in
theorem refuses_core (F Y yy : Int) (hY : Y.tmod 2000000001 = yy) (bF : 0 ≤ F ∧ F ≤ 4294967295) (_byy : -2000000000 ≤ yy ∧ yy ≤ 2000000000) (W : World) (hT : TabW W) :
    Calls Tryd.prog 10 #[.int .u32 F, .int .i64 Y] W fun e w' => e = .returned (.bool true) ∧ Below W.heap.size W w' := by
  have HC := Lib.hid (Gs.mk0 hT)
  have HP := Lib.hid hT.size
  have QY := Lib.hid hY
  clear hT hY
  go_enter Tryd.func10, Tryd.ntmps10
  go_wp2_with fail
  rw [QY.out]
  refine (days_g 2000000000 12 31 730484280837 (by decide) (by decide) HC).mono ?_; rintro e w1 ⟨rfl, hd⟩; replace HC := Gs.hid HC hd; clear hd
  go_wp2_with fail
  refine (days_g (-2000000000) 1 1 (-730485719528) (by decide) (by decide) HC).mono ?_; rintro e w2 ⟨rfl, hd⟩; replace HC := Gs.hid HC hd; clear hd
  go_wp2_with fail
  have HC1 := Lib.hid (HC.out.one HP.out (.cells #[.int .i64 (730484280838 + F), .int .i64 (-730485719529 - F), .int .i64 9223372036854775807, .int .i64 (-9223372036854775808)] 2))
  have cv : ∀ k : Nat, k < 4 → (w2.alloc (.cells #[.int .i64 (730484280838 + F), .int .i64 (-730485719529 - F), .int .i64 9223372036854775807, .int .i64 (-9223372036854775808)] 2)).cell? ⟨w2.heap.size, k, none⟩ = some (.int .i64 (farD F k)) := by
    intro k hk
    rw [one_a]
    have : k = 0 ∨ k = 1 ∨ k = 2 ∨ k = 3 := by omega
    rcases this with e | e | e | e <;> subst e <;> rfl
  have hsz : w2.heap.size < (w2.alloc (.cells #[.int .i64 (730484280838 + F), .int .i64 (-730485719529 - F), .int .i64 9223372036854775807, .int .i64 (-9223372036854775808)] 2)).heap.size := by simp
  clear HC
  generalize w2.alloc (.cells #[.int .i64 (730484280838 + F), .int .i64 (-730485719529 - F), .int .i64 9223372036854775807, .int .i64 (-9223372036854775808)] 2) = w3 at *
  generalize w2.heap.size = bs at *
  have CV := Lib.hid cv
  clear cv
  have hfar := farD_bd F bF
  have HF := Lib.hid hfar
  clear hfar
  go_loopw [51] (fun i wr => ∃ k : Nat, k ≤ 4 ∧ i = .int .i64 k ∧ Dw w3 wr) (fun i _ => 4 - (intOf i).toNat)
  case atStart => exact ⟨0, by omega, rfl, Dw.refl _⟩
  case round =>
    obtain ⟨k, hk, rfl, hdr⟩ := hrel
    have HDR := Lib.hid hdr
    by_cases hk4 : k < 4
    · have xa : wr.cell? ⟨bs, k, none⟩ = some (.int .i64 (farD F k)) := by rw [hdr.cell]; exact CV.out k hk4
      have hf := HF.out k hk4
      have HFK := Lib.hid hf
      clear hdr hf
      generalize farD F k = x at *
      go_wp2_with (go_at_call 18; refine (date_no _ _ HFK.out).mono ?_; rintro e w' ⟨rfl, rfl⟩)
      go_roundw
      case rel => exact ⟨k + 1, by omega, by go_num, HDR.out⟩
      case measure => simp [intOf]; omega
    · obtain rfl : k = 4 := by omega
      rw [show ((4 : Nat) : Int) = 4 from rfl]
      have HC2 := Gs.hid HC1 hdr
      have hs2 : bs < wr.heap.size := by obtain ⟨n, rfl⟩ := hdr; exact hsz
      clear hdr HDR hk hk4 HC1 CV hsz HF
      go_wp2_with fail
      have hcell : ∀ k : Nat, k < 27 → (wr.alloc (.cells #[.int .i64 (2000000001 + F), .int .i64 1, .int .i64 1, .int .i64 (-2000000001 - F), .int .i64 12, .int .i64 31, .int .i64 yy, .int .i64 (13 + F), .int .i64 1, .int .i64 yy, .int .i64 (-F), .int .i64 1, .int .i64 yy, .int .i64 1, .int .i64 (32 + F), .int .i64 yy, .int .i64 1, .int .i64 (-F), .int .i64 9223372036854775807, .int .i64 1, .int .i64 1, .int .i64 (-9223372036854775808), .int .i64 1, .int .i64 1, .int .i64 yy, .int .i64 2, .int .i64 30] 35)).cell? ⟨wr.heap.size, k, none⟩ = some (.int .i64 (badD F yy k)) := by
        intro k hk
        rw [one_a]
        have hz : ∀ l : List Int, ((l.map (Value.int .i64)).toArray)[k]? = (l[k]?).map (Value.int .i64) := by intro l; simp
        have := hz [2000000001 + F, 1, 1, -2000000001 - F, 12, 31, yy, 13 + F, 1, yy, -F, 1, yy, 1, 32 + F, yy, 1, -F, 9223372036854775807, 1, 1, -9223372036854775808, 1, 1, yy, 2, 30]
        refine Eq.trans this ?_
        unfold badD
        rw [List.getD_eq_getElem?_getD, List.getElem?_eq_getElem (by simpa using hk)]
        rfl
      have HC3 := Lib.hid (HC2.out.one HP.out (.cells #[.int .i64 (2000000001 + F), .int .i64 1, .int .i64 1, .int .i64 (-2000000001 - F), .int .i64 12, .int .i64 31, .int .i64 yy, .int .i64 (13 + F), .int .i64 1, .int .i64 yy, .int .i64 (-F), .int .i64 1, .int .i64 yy, .int .i64 1, .int .i64 (32 + F), .int .i64 yy, .int .i64 1, .int .i64 (-F), .int .i64 9223372036854775807, .int .i64 1, .int .i64 1, .int .i64 (-9223372036854775808), .int .i64 1, .int .i64 1, .int .i64 yy, .int .i64 2, .int .i64 30] 35))
      clear HC2 hs2
      generalize wr.alloc (.cells #[.int .i64 (2000000001 + F), .int .i64 1, .int .i64 1, .int .i64 (-2000000001 - F), .int .i64 12, .int .i64 31, .int .i64 yy, .int .i64 (13 + F), .int .i64 1, .int .i64 yy, .int .i64 (-F), .int .i64 1, .int .i64 yy, .int .i64 1, .int .i64 (32 + F), .int .i64 yy, .int .i64 1, .int .i64 (-F), .int .i64 9223372036854775807, .int .i64 1, .int .i64 1, .int .i64 (-9223372036854775808), .int .i64 1, .int .i64 1, .int .i64 yy, .int .i64 2, .int .i64 30] 35) = w4 at *
      generalize wr.heap.size = b4 at *
      have CV := Lib.hid hcell
      clear hcell
      have hbad := badD_no F yy bF
      have HB := Lib.hid hbad
      clear hbad
      go_loopw [107] (fun i wx => ∃ k : Nat, k ≤ 9 ∧ i = .int .i64 k ∧ Gs W wx ∧ ∀ k : Nat, k < 27 → wx.cell? ⟨b4, k, none⟩ = some (.int .i64 (badD F yy k))) (fun i _ => 9 - (intOf i).toNat)
      case atStart => exact ⟨0, by omega, rfl, HC3.out, CV.out⟩
      case round =>
        obtain ⟨k, hk, rfl, hg, hcv⟩ := hrel
        clear HC3 CV
        have HC4 := Lib.hid hg
        have CV := Lib.hid hcv
        clear hg
        by_cases hk9 : k < 9
        · have x0 := hcv (k * 3) (by omega)
          have x1 := hcv (k * 3 + 1) (by omega)
          have x2 := hcv (k * 3 + 2) (by omega)
          have hf := HB.out k hk9
          have HFK := Lib.hid hf
          clear hcv hf
          generalize badD F yy (k * 3) = y0 at *
          generalize badD F yy (k * 3 + 1) = y1 at *
          generalize badD F yy (k * 3 + 2) = y2 at *
          go_wp2_with fail
          refine (days_gno _ _ _ HFK.out (Lib.hid (HC4.out.one HP.out _))).mono ?_; rintro e w5 ⟨rfl, hd⟩
          have HC5 := Gs.hid (Lib.hid (HC4.out.one HP.out _)) hd
          have CV5 := Lib.hid (cells_on (by omega) CV.out _ hd)
          clear hd x0 x1 x2
          go_wp2_with fail
          go_roundw
          case rel => exact ⟨k + 1, by omega, by go_num, HC5.out, CV5.out⟩
          case measure => simp [intOf]; omega
        · obtain rfl : k = 9 := by omega
          have l0 := Cal.len_no yy (13 + F) (by omega)
          have l1 := Cal.len_no yy (-F) (by omega)
          have L := Lib.hid (And.intro l0 l1)
          clear hcv hk hk9 HB l0 l1
          go_wp2_with fail
          refine (len_g _ _ _ L.out.1 HC4).mono ?_; rintro e w5 ⟨rfl, hd⟩; replace HC4 := Gs.hid HC4 hd; clear hd
          go_wp2_with fail
          refine (len_g _ _ _ L.out.2 HC4).mono ?_; rintro e w5 ⟨rfl, hd⟩; replace HC4 := Gs.hid HC4 hd; clear hd
          go_wp2_with fail
          refine (works_g HC4).mono ?_; rintro e w5 ⟨rfl, hd⟩; replace HC4 := Gs.hid HC4 hd; clear hd
          go_wp2
          go_ret
          exact ⟨rfl, HC4.out.1⟩
theorem refuses_walk (F : Int) (w0 : (Lit.int .u32 F).wf = true) (Y : Int) (_w1 : (Lit.int .i64 Y).wf = true) (W : World) (hT : TabW W) :
    Calls Tryd.prog 10 #[.int .u32 F, .int .i64 Y] W fun e w' => e = .returned (.bool true) ∧ Below W.heap.size W w' := by
  have hy := tm_bd Y 2000000001 (by omega)
  exact refuses_core F Y _ rfl (bounds_u32 w0) (by omega) W hT
end Go.Proofs.YtllnimenbopcjaaDoor
