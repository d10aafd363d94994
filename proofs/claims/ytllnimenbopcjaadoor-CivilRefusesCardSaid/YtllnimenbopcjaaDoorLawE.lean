/- The walk of CivilOrder: it returns true. -/
import Derived.Test.YtllnimenbopcjaaDoorLawD
namespace Go.Proofs.YtllnimenbopcjaaDoor
open Go.RowKit

/-- the order of two lists of numbers, by their first k ones -/
def ordAt (a b : Nat → Int) : Nat → Int
  | 0 => 0
  | k + 1 => if ordAt a b k = 0 ∧ a k ≠ b k then (if a k < b k then -1 else 1) else ordAt a b k
/-- the world of a walk that makes memory: what was there is as it was, and the table lies there -/
def Gs (w0 w : World) : Prop := Below w0.heap.size w0 w ∧ TabW w
theorem Gs.mk0 {w : World} (h : TabW w) : Gs w w := ⟨Below.refl _ w, h⟩
theorem Dw.below' {w w' : World} (h : Dw w w') (B : Nat) : Below B w w' := by
  obtain ⟨n, rfl⟩ := h; exact ⟨rfl, rfl, rfl, Nat.le_refl _, fun _ _ => rfl⟩
theorem Gs.hid {w0 w w1 : World} (h : Hid (Gs w0 w)) (k : Dw w w1) : Hid (Gs w0 w1) := Lib.hid ⟨h.out.1.trans (k.below' _), h.out.2.dw k⟩
theorem TabW.size {w : World} (h : TabW w) : 0 < w.heap.size := by
  have := h 0 (by omega)
  rcases Nat.eq_zero_or_pos w.heap.size with e | e
  · exfalso
    have hz : w.heap = #[] := Array.eq_empty_of_size_eq_zero e
    simp [World.cell?, hz] at this
  · exact e
theorem TabW.below {w w' : World} {B : Nat} (h : TabW w) (hB : 0 < B) (k : Below B w w') : TabW w' := by
  intro i hi
  rw [k.cell (p := ⟨0, i, none⟩) hB]; exact h i hi
theorem days_g (y m d n : Int) (ho : Cal.okB y m d = true) (hn : Cal.day y m d = n) {w0 w : World} (h : Hid (Gs w0 w)) : Calls Tryd.prog 11 #[.int .i64 y, .int .i64 m, .int .i64 d] w fun e w' => e = .returned (.tuple #[.int .i64 n, .int .i64 0]) ∧ Dw w w' := hn ▸ days_yes y m d w h.out.2 ho
theorem works_g {w0 w : World} (h : Hid (Gs w0 w)) : Calls Tryd.prog 17 #[] w fun e w' => e = .returned (.bool true) ∧ Dw w w' := works_any w h.out.2

theorem two_a (W : World) (xs ys : Array Value) (t u : TypeId) (k : Nat) : ((W.alloc (.cells xs t)).alloc (.cells ys u)).cell? ⟨W.heap.size, k, none⟩ = xs[k]? := by
  go_simp
theorem two_b (W : World) (xs ys : Array Value) (t u : TypeId) (k : Nat) : ((W.alloc (.cells xs t)).alloc (.cells ys u)).cell? ⟨W.heap.size + 1, k, none⟩ = ys[k]? := by
  go_simp
theorem Gs.two {W : World} (h : TabW W) (A B : Obj) : Gs W ((W.alloc A).alloc B) := by
  have hb : Below W.heap.size W ((W.alloc A).alloc B) := ((Below.refl _ _).alloc (Nat.le_refl _) _).alloc (by simp) _
  exact ⟨hb, h.below h.size hb⟩
theorem ord_lex (a b : Nat → Int) (ha : Cal.okB (a 0) (a 1) (a 2) = true) (hb : Cal.okB (b 0) (b 1) (b 2) = true) :
    (ordAt a b 3 = -1 ∧ Cal.day (a 0) (a 1) (a 2) < Cal.day (b 0) (b 1) (b 2)) ∨ (ordAt a b 3 = 0 ∧ Cal.day (a 0) (a 1) (a 2) = Cal.day (b 0) (b 1) (b 2)) ∨ (ordAt a b 3 = 1 ∧ Cal.day (b 0) (b 1) (b 2) < Cal.day (a 0) (a 1) (a 2)) := by
  have va := Cal.ok_V _ _ _ ha
  have vb := Cal.ok_V _ _ _ hb
  have e1 : ordAt a b 1 = if a 0 ≠ b 0 then (if a 0 < b 0 then -1 else 1) else 0 := by simp [ordAt]
  have e2 : ordAt a b 2 = if ordAt a b 1 = 0 ∧ a 1 ≠ b 1 then (if a 1 < b 1 then -1 else 1) else ordAt a b 1 := rfl
  have e3 : ordAt a b 3 = if ordAt a b 2 = 0 ∧ a 2 ≠ b 2 then (if a 2 < b 2 then -1 else 1) else ordAt a b 2 := rfl
  rcases Int.lt_trichotomy (a 0) (b 0) with g | g | g
  · have := Cal.day_year _ _ _ _ _ _ va vb g
    left; refine ⟨?_, this⟩
    rw [e3, e2, e1]; simp [g]; omega
  · rcases Int.lt_trichotomy (a 1) (b 1) with f | f | f
    · have vb' := vb
      rw [← g] at vb' ⊢
      have := Cal.day_month _ _ _ _ _ va vb' f
      left; refine ⟨?_, this⟩
      rw [e3, e2, e1]; simp [g, f]; omega
    · rw [← g, ← f]
      unfold Cal.day
      rcases Int.lt_trichotomy (a 2) (b 2) with d | d | d
      · left; refine ⟨?_, by omega⟩
        rw [e3, e2, e1]; simp [g, f, d]; omega
      · right; left; refine ⟨?_, by omega⟩
        rw [e3, e2, e1]; simp [g, f, d]
      · right; right; refine ⟨?_, by omega⟩
        rw [e3, e2, e1]; simp [g, f]; omega
    · have vb' := vb
      rw [← g] at vb' ⊢
      have := Cal.day_month _ _ _ _ _ vb' va f
      right; right; refine ⟨?_, this⟩
      rw [e3, e2, e1]; simp [g]; omega
  · have := Cal.day_year _ _ _ _ _ _ vb va g
    right; right; refine ⟨?_, this⟩
    rw [e3, e2, e1]; simp; omega
set_option maxHeartbeats 1000000 in
set_option maxRecDepth 100000 in
theorem order_core (Y Z M N D C : Int) (a b : Nat → Int) (h0 : Y.tmod 2000000001 = a 0) (h1 : 1 + M % 12 = a 1) (h2 : 1 + D % 28 = a 2) (g0 : Z.tmod 2000000001 = b 0) (g1 : 1 + N % 12 = b 1) (g2 : 1 + C % 28 = b 2)
    (bM : 0 ≤ M ∧ M ≤ 255) (bD : 0 ≤ D ∧ D ≤ 255) (bN : 0 ≤ N ∧ N ≤ 255) (bC : 0 ≤ C ∧ C ≤ 255) (W : World) (hT : TabW W) (i j : Int) (hi : Cal.okB (a 0) (a 1) (a 2) = true ∧ Cal.day (a 0) (a 1) (a 2) = i) (hj : Cal.okB (b 0) (b 1) (b 2) = true ∧ Cal.day (b 0) (b 1) (b 2) = j) :
    Calls Tryd.prog 8 #[.int .i64 Y, .int .i64 Z, .int .u8 M, .int .u8 N, .int .u8 D, .int .u8 C] W fun e w' => e = .returned (.bool true) ∧ Below W.heap.size W w' := by
  have HT := Lib.hid hT
  have H := Lib.hid (And.intro h0 (And.intro h1 (And.intro h2 (And.intro g0 (And.intro g1 g2)))))
  have HI := Lib.hid hi
  have HJ := Lib.hid hj
  clear hT hi hj h0 h1 h2 g0 g1 g2
  go_enter Tryd.func8, Tryd.ntmps8
  go_wp2_with fail
  rw [H.out.1, H.out.2.1, H.out.2.2.1, H.out.2.2.2.1, H.out.2.2.2.2.1, H.out.2.2.2.2.2]
  refine (days_g _ _ _ _ HI.out.1 HI.out.2 (Lib.hid (Gs.two HT.out _ _))).mono ?_; rintro e w1 ⟨rfl, hd⟩
  have HC := Gs.hid (Lib.hid (Gs.two HT.out _ _)) hd
  have ca : ∀ k : Nat, k < 3 → w1.cell? ⟨W.heap.size, k, none⟩ = some (.int .i64 (a k)) := by
    intro k hk
    rw [hd.cell, two_a]
    have : k = 0 ∨ k = 1 ∨ k = 2 := by omega
    rcases this with e | e | e <;> subst e <;> rfl
  have cb : ∀ k : Nat, k < 3 → w1.cell? ⟨W.heap.size + 1, k, none⟩ = some (.int .i64 (b k)) := by
    intro k hk
    rw [hd.cell, two_b]
    have : k = 0 ∨ k = 1 ∨ k = 2 := by omega
    rcases this with e | e | e <;> subst e <;> rfl
  have b0 := cb 0 (by omega)
  have b1 := cb 1 (by omega)
  have b2 := cb 2 (by omega)
  have CAB := Lib.hid (And.intro ca cb)
  clear ca cb hd
  go_wp2_with fail
  refine (days_g _ _ _ _ HJ.out.1 HJ.out.2 HC).mono ?_; rintro e w2 ⟨rfl, hd⟩
  replace HC := Gs.hid HC hd
  have CAB2 : Hid ((∀ k : Nat, k < 3 → w2.cell? ⟨W.heap.size, k, none⟩ = some (.int .i64 (a k))) ∧ (∀ k : Nat, k < 3 → w2.cell? ⟨W.heap.size + 1, k, none⟩ = some (.int .i64 (b k)))) :=
    Lib.hid ⟨fun k hk => by rw [hd.cell]; exact CAB.out.1 k hk, fun k hk => by rw [hd.cell]; exact CAB.out.2 k hk⟩
  clear CAB hd b0 b1 b2
  go_wp2_with fail
  go_loopw [63, 19] (fun i s wr => ∃ k : Nat, k ≤ 3 ∧ i = .int .i64 k ∧ s = .int .i64 (ordAt a b k) ∧ Dw w2 wr) (fun i _ _ => 3 - (intOf i).toNat)
  case atStart => exact ⟨0, by omega, rfl, rfl, Dw.refl _⟩
  case round =>
    obtain ⟨k, hk, rfl, rfl, hdr⟩ := hrel
    by_cases hk3 : k < 3
    · have xa : wr.cell? ⟨W.heap.size, k, none⟩ = some (.int .i64 (a k)) := by rw [hdr.cell]; exact CAB2.out.1 k hk3
      have xb : wr.cell? ⟨W.heap.size + 1, k, none⟩ = some (.int .i64 (b k)) := by rw [hdr.cell]; exact CAB2.out.2 k hk3
      have es : ordAt a b (k + 1) = if ordAt a b k = 0 ∧ a k ≠ b k then (if a k < b k then -1 else 1) else ordAt a b k := rfl
      have HDR := Lib.hid hdr
      generalize ordAt a b k = o at *
      generalize a k = x at *
      generalize b k = y at *
      have ES := Lib.hid es
      clear es hdr
      have q0 : (0 : Int) ≤ k := by omega
      have q1 : (k : Int) < 3 := by omega
      by_cases ho : (o == 0) = true
      · by_cases hxy : (x != y) = true
        · by_cases hlt : x < y
          · go_wp2
            go_quiet (fail)
            go_wp2
            go_quiet (fail)
            go_wp2
            go_roundw
            case rel => exact ⟨k + 1, by omega, by go_num, by rw [ES.out, if_pos ⟨eq_of_beq ho, by simpa using hxy⟩, if_pos hlt], HDR.out.drewN _⟩
            case measure => simp [intOf]; omega
          · go_wp2
            go_quiet (fail)
            go_wp2
            go_quiet (fail)
            go_wp2
            go_roundw
            case rel => exact ⟨k + 1, by omega, by go_num, by rw [ES.out, if_pos ⟨eq_of_beq ho, by simpa using hxy⟩, if_neg (by omega)], HDR.out.drewN _⟩
            case measure => simp [intOf]; omega
        · have hxy' : (x != y) = false := by simpa using hxy
          clear hxy
          go_wp2
          go_quiet (fail)
          go_wp2
          go_roundw
          case rel => exact ⟨k + 1, by omega, by go_num, by rw [ES.out, if_neg (by rintro ⟨_, h⟩; simp at hxy'; exact h hxy')], HDR.out.drewN _⟩
          case measure => simp [intOf]; omega
      · have ho' : (o == 0) = false := by simpa using ho
        clear ho
        go_wp2
        go_quiet (fail)
        go_wp2
        go_roundw
        case rel => exact ⟨k + 1, by omega, by go_num, by rw [ES.out, if_neg (by rintro ⟨h, _⟩; simp at ho'; exact ho' h)], HDR.out.drewN _⟩
        case measure => simp [intOf]; omega
    · obtain rfl : k = 3 := by omega
      have HC3 := Gs.hid HC hdr
      have hx := ord_lex a b HI.out.1 HJ.out.1
      rw [HI.out.2, HJ.out.2] at hx
      clear hk hk3 hdr
      rcases hx with ⟨x1, x2⟩ | ⟨x1, x2⟩ | ⟨x1, x2⟩
      · have y1 : decide (i < j) = true := by simp [x2]
        have y2 : (i == j) = false := by simp; omega
        rw [x1]
        clear x1 x2
        go_wp2_with fail
        refine (works_g HC3).mono ?_; rintro e w3 ⟨rfl, hd⟩
        have HC4 := Gs.hid HC3 hd
        clear hd
        go_wp2
        go_ret
        exact ⟨rfl, HC4.out.1⟩
      · have y1 : decide (i < j) = false := by simp; omega
        have y2 : (i == j) = true := beq_of x2
        rw [x1]
        clear x1 x2
        go_wp2_with fail
        refine (works_g HC3).mono ?_; rintro e w3 ⟨rfl, hd⟩
        have HC4 := Gs.hid HC3 hd
        clear hd
        go_wp2
        go_ret
        exact ⟨rfl, HC4.out.1⟩
      · have y1 : decide (i < j) = false := by simp; omega
        have y2 : (i == j) = false := by simp; omega
        rw [x1]
        clear x1 x2
        go_wp2_with fail
        refine (works_g HC3).mono ?_; rintro e w3 ⟨rfl, hd⟩
        have HC4 := Gs.hid HC3 hd
        clear hd
        go_wp2
        go_ret
        exact ⟨rfl, HC4.out.1⟩
theorem order_walk (Y : Int) (_w0 : (Lit.int .i64 Y).wf = true) (Z : Int) (_w1 : (Lit.int .i64 Z).wf = true) (M : Int) (w2 : (Lit.int .u8 M).wf = true) (N : Int) (w3 : (Lit.int .u8 N).wf = true) (D : Int) (w4 : (Lit.int .u8 D).wf = true) (C : Int) (w5 : (Lit.int .u8 C).wf = true) (W : World) (hT : TabW W) :
    Calls Tryd.prog 8 #[.int .i64 Y, .int .i64 Z, .int .u8 M, .int .u8 N, .int .u8 D, .int .u8 C] W fun e w' => e = .returned (.bool true) ∧ Below W.heap.size W w' := by
  have hy := tm_bd Y 2000000001 (by omega)
  have hz := tm_bd Z 2000000001 (by omega)
  have b2 := bd_u8 w2
  have b3 := bd_u8 w3
  have b4 := bd_u8 w4
  have b5 := bd_u8 w5
  have k1 := ok_28 (Y.tmod 2000000001) (1 + M % 12) (1 + D % 28) (by omega) (by omega) (by omega)
  have k2 := ok_28 (Z.tmod 2000000001) (1 + N % 12) (1 + C % 28) (by omega) (by omega) (by omega)
  exact order_core Y Z M N D C (fun k => match k with | 0 => Y.tmod 2000000001 | 1 => 1 + M % 12 | _ => 1 + D % 28) (fun k => match k with | 0 => Z.tmod 2000000001 | 1 => 1 + N % 12 | _ => 1 + C % 28) rfl rfl rfl rfl rfl rfl b2 b4 b3 b5 W hT _ _ ⟨k1, rfl⟩ ⟨k2, rfl⟩
end Go.Proofs.YtllnimenbopcjaaDoor
