/- The document's answers of layer 6: base, Check, Parse, Print. -/
import Derived.Test.YteahckmpjihcaaaDoorClk
import Derived.Test.YteahckmpjihcaaaDoorRef04d
namespace Go.Proofs.YteahckmpjihcaaaDoor
open Go.RowKit
/-- a letter's base; -1: it is none -/
def lb (c : UInt8) : Int := match Cl.letB c with | some b => b | none => -1
theorem rbase_any (c : Int) (h0 : 0 ≤ c) (h1 : c < 256) (r : Int) (hr : (if c = 119 then (0 : Int) else if c = 115 then 1 else if c = 117 then 2 else if c = 103 then 2 else if c = 122 then 2 else -1) = r) (w : World) : Calls Tryd.prog 23 #[.int .u8 c] w fun e w' => e = .returned (.int .i64 r) ∧ w = w' := by
  by_cases e1 : c = 119
  · subst e1; rw [if_pos rfl] at hr; subst hr
    go_enter Tryd.func23, Tryd.ntmps23
    go_wp2
    go_ret
    exact ⟨rfl, rfl⟩
  rw [if_neg e1] at hr
  by_cases e2 : c = 115
  · subst e2; rw [if_pos rfl] at hr; subst hr
    clear e1
    go_enter Tryd.func23, Tryd.ntmps23
    go_wp2
    go_ret
    exact ⟨rfl, rfl⟩
  rw [if_neg e2] at hr
  by_cases e3 : c = 117
  · subst e3; rw [if_pos rfl] at hr; subst hr
    clear e1 e2
    go_enter Tryd.func23, Tryd.ntmps23
    go_wp2
    go_ret
    exact ⟨rfl, rfl⟩
  rw [if_neg e3] at hr
  by_cases e4 : c = 103
  · subst e4; rw [if_pos rfl] at hr; subst hr
    clear e1 e2 e3
    go_enter Tryd.func23, Tryd.ntmps23
    go_wp2
    go_ret
    exact ⟨rfl, rfl⟩
  rw [if_neg e4] at hr
  by_cases e5 : c = 122
  · subst e5; rw [if_pos rfl] at hr; subst hr
    clear e1 e2 e3 e4
    go_enter Tryd.func23, Tryd.ntmps23
    go_wp2
    go_ret
    exact ⟨rfl, rfl⟩
  rw [if_neg e5] at hr; subst hr
  have b1 : (c == 119) = false := by simpa using e1
  have b2 : (c == 115) = false := by simpa using e2
  have b3 : (c == 117) = false := by simpa using e3
  have b4 : (c == 103) = false := by simpa using e4
  have b5 : (c == 122) = false := by simpa using e5
  clear e1 e2 e3 e4 e5
  go_enter Tryd.func23, Tryd.ntmps23
  go_wp2
  go_ret
  exact ⟨rfl, rfl⟩
theorem rbase_at (c : UInt8) (r : Int) (hr : lb c = r) (w : World) : Calls Tryd.prog 23 #[.int .u8 c.toNat] w fun e w' => e = .returned (.int .i64 r) ∧ w = w' := by
  refine rbase_any c.toNat (by omega) (by have := c.toNat_lt; omega) r ?_ w
  rw [← hr]
  have h : ∀ k : Nat, k < 256 → ((c.toNat : Int) = (k : Int) ↔ c = UInt8.ofNat k) := by
    intro k hk
    constructor
    · intro e; apply UInt8.toNat_inj.1; rw [UInt8.toNat_ofNat']; omega
    · intro e; rw [e, UInt8.toNat_ofNat']; omega
  have h1 : (c.toNat : Int) = 119 ↔ c = 119 := h 119 (by omega)
  have h2 : (c.toNat : Int) = 115 ↔ c = 115 := h 115 (by omega)
  have h3 : (c.toNat : Int) = 117 ↔ c = 117 := h 117 (by omega)
  have h4 : (c.toNat : Int) = 103 ↔ c = 103 := h 103 (by omega)
  have h5 : (c.toNat : Int) = 122 ↔ c = 122 := h 122 (by omega)
  unfold lb Cl.letB
  by_cases e1 : c = 119
  · rw [if_pos e1, if_pos (h1.2 e1)]
  rw [if_neg e1, if_neg (fun e => e1 (h1.1 e))]
  by_cases e2 : c = 115
  · rw [if_pos e2, if_pos (h2.2 e2)]
  rw [if_neg e2, if_neg (fun e => e2 (h2.1 e))]
  by_cases e3 : c = 117
  · rw [if_pos (h3.2 e3), if_pos (.inl e3)]
  rw [if_neg (fun e => e3 (h3.1 e))]
  by_cases e4 : c = 103
  · rw [if_pos (h4.2 e4), if_pos (.inr (.inl e4))]
  rw [if_neg (fun e => e4 (h4.1 e))]
  by_cases e5 : c = 122
  · rw [if_pos (h5.2 e5), if_pos (.inr (.inr e5))]
  rw [if_neg (fun e => e5 (h5.1 e)), if_neg (by simp [e3, e4, e5])]
theorem rcheck_any (x b r : Int) (hx : -9223372036854775808 ≤ x ∧ x ≤ 9223372036854775807) (hb : -9223372036854775808 ≤ b ∧ b ≤ 9223372036854775807) (hr : Cl.chk x b = r) (w : World) :
    Calls Tryd.prog 15 #[.agg #[.int .i64 x, .int .i64 b]] w fun e w' => e = .returned (.int .i64 r) ∧ Below w.heap.size w w' := by
  obtain ⟨hx1, hx2⟩ := hx
  obtain ⟨hb1, hb2⟩ := hb
  by_cases g1 : x < -604799
  · rw [chk_no (by omega)] at hr
    subst hr
    go_enter Tryd.func15, Tryd.ntmps15
    go_wp2
    go_ret
    exact ⟨rfl, (Below.refl _ _).alloc (Nat.le_refl _) _⟩
  by_cases g2 : 604799 < x
  · rw [chk_no (by omega)] at hr
    subst hr
    go_enter Tryd.func15, Tryd.ntmps15
    go_wp2
    go_ret
    exact ⟨rfl, (Below.refl _ _).alloc (Nat.le_refl _) _⟩
  by_cases g3 : b < 0
  · rw [chk_no (by omega)] at hr
    subst hr
    go_enter Tryd.func15, Tryd.ntmps15
    go_wp2
    go_ret
    exact ⟨rfl, (Below.refl _ _).alloc (Nat.le_refl _) _⟩
  by_cases g4 : 2 < b
  · rw [chk_no (by omega)] at hr
    subst hr
    go_enter Tryd.func15, Tryd.ntmps15
    go_wp2
    go_ret
    exact ⟨rfl, (Below.refl _ _).alloc (Nat.le_refl _) _⟩
  · rw [chk_yes (by omega)] at hr
    subst hr
    go_enter Tryd.func15, Tryd.ntmps15
    go_wp2
    go_ret
    exact ⟨rfl, (Below.refl _ _).alloc (Nat.le_refl _) _⟩
theorem rprint6_any (x b : Int) (hx : -9223372036854775808 ≤ x ∧ x ≤ 9223372036854775807) (hb : -9223372036854775808 ≤ b ∧ b ≤ 9223372036854775807) (S : ByteArray) (f : Int) (hS : Cl.prs x b = (S, f)) (w : World) :
    Calls Tryd.prog 13 #[.agg #[.int .i64 x, .int .i64 b]] w fun e w' => e = .returned (.tuple #[.string S, .int .i64 f]) ∧ Below w.heap.size w w' := by
  have HX := Lib.hid hx
  have HB := Lib.hid hb
  by_cases h : (-604799 ≤ x ∧ x ≤ 604799) ∧ (0 ≤ b ∧ b ≤ 2)
  · rw [cprs_yes h] at hS
    obtain ⟨rfl, rfl⟩ := Prod.mk.inj hS
    have HK := Lib.hid (chk_yes h)
    obtain ⟨⟨h1, h2⟩, h3, h4⟩ := h
    have hp := Lib.hid (of_prs_yes h1 h2)
    have hl := (Of.prt_len x).2
    have e : ∀ c : List UInt8, (⟨(Of.prt x).toArray⟩ ++ ⟨c.toArray⟩ : ByteArray) = ⟨(Of.prt x ++ c).toArray⟩ := fun c => app_bs _ _
    have hq : ¬ 9223372036854775807 < (⟨(Of.prt x).toArray⟩ : ByteArray).size + 1 := by rw [bs_size]; omega
    have he0 := e []
    have he1 := e [115]
    have he2 := e [117]
    have : b = 0 ∨ b = 1 ∨ b = 2 := by omega
    clear hS hx hb e hl
    rcases this with rfl | rfl | rfl
    · have hS := Lib.hid (show (⟨(Of.prt x).toArray⟩ : ByteArray) = ⟨(Cl.prt x 0).toArray⟩ from (by unfold Cl.prt; rw [show Cl.canon 0 = [] from rfl, List.append_nil]))
      clear he0 he1 he2
      generalize (⟨(Of.prt x).toArray⟩ : ByteArray) = P at *
      go_enter Tryd.func13, Tryd.ntmps13
      go_wp2_with fail
      have HB0 := Lib.hid ((Below.refl w.heap.size w).alloc (Nat.le_refl _) (.cells #[.int .i64 x, .int .i64 0] 24))
      refine (rcheck_any x 0 0 HX.out HB.out HK.out _).mono ?_
      rintro e w1 ⟨rfl, hb⟩
      have p0 : w1.cell? ⟨w.heap.size, 0, none⟩ = some (.int .i64 x) := cell_bl hb (new_cell _ _ _ _ _ rfl)
      have p1 : w1.cell? ⟨w.heap.size, 1, none⟩ = some (.int .i64 0) := cell_bl hb (new_cell _ _ _ _ _ rfl)
      have HB1 := Lib.hid (HB0.out.trans (hb.mono HB0.out.size))
      clear hb
      go_wp2_with fail
      refine (rprint_at x HX.out P 0 hp.out _).mono ?_
      rintro e w2 ⟨rfl, rfl⟩
      go_wp2
      go_ret2
      exact ⟨ret_si hS.out rfl, HB1.out⟩
    · have hS := Lib.hid (show (⟨(Of.prt x).toArray⟩ ++ ⟨#[115]⟩ : ByteArray) = ⟨(Cl.prt x 1).toArray⟩ from he1)
      clear he0 he1 he2
      generalize (⟨(Of.prt x).toArray⟩ : ByteArray) = P at *
      go_enter Tryd.func13, Tryd.ntmps13
      go_wp2_with fail
      have HB0 := Lib.hid ((Below.refl w.heap.size w).alloc (Nat.le_refl _) (.cells #[.int .i64 x, .int .i64 1] 24))
      refine (rcheck_any x 1 0 HX.out HB.out HK.out _).mono ?_
      rintro e w1 ⟨rfl, hb⟩
      have p0 : w1.cell? ⟨w.heap.size, 0, none⟩ = some (.int .i64 x) := cell_bl hb (new_cell _ _ _ _ _ rfl)
      have p1 : w1.cell? ⟨w.heap.size, 1, none⟩ = some (.int .i64 1) := cell_bl hb (new_cell _ _ _ _ _ rfl)
      have HB1 := Lib.hid (HB0.out.trans (hb.mono HB0.out.size))
      clear hb
      go_wp2_with fail
      refine (rprint_at x HX.out P 0 hp.out _).mono ?_
      rintro e w2 ⟨rfl, rfl⟩
      go_wp2
      go_ret2
      exact ⟨ret_si hS.out rfl, HB1.out⟩
    · have hS := Lib.hid (show (⟨(Of.prt x).toArray⟩ ++ ⟨#[117]⟩ : ByteArray) = ⟨(Cl.prt x 2).toArray⟩ from he2)
      clear he0 he1 he2
      generalize (⟨(Of.prt x).toArray⟩ : ByteArray) = P at *
      go_enter Tryd.func13, Tryd.ntmps13
      go_wp2_with fail
      have HB0 := Lib.hid ((Below.refl w.heap.size w).alloc (Nat.le_refl _) (.cells #[.int .i64 x, .int .i64 2] 24))
      refine (rcheck_any x 2 0 HX.out HB.out HK.out _).mono ?_
      rintro e w1 ⟨rfl, hb⟩
      have p0 : w1.cell? ⟨w.heap.size, 0, none⟩ = some (.int .i64 x) := cell_bl hb (new_cell _ _ _ _ _ rfl)
      have p1 : w1.cell? ⟨w.heap.size, 1, none⟩ = some (.int .i64 2) := cell_bl hb (new_cell _ _ _ _ _ rfl)
      have HB1 := Lib.hid (HB0.out.trans (hb.mono HB0.out.size))
      clear hb
      go_wp2_with fail
      refine (rprint_at x HX.out P 0 hp.out _).mono ?_
      rintro e w2 ⟨rfl, rfl⟩
      go_wp2
      go_ret2
      exact ⟨ret_si hS.out rfl, HB1.out⟩
  · rw [cprs_no h] at hS
    obtain ⟨rfl, rfl⟩ := Prod.mk.inj hS
    have HK := Lib.hid (chk_no h)
    clear hS h hx hb
    go_enter Tryd.func13, Tryd.ntmps13
    go_wp2_with fail
    have HB0 := Lib.hid ((Below.refl w.heap.size w).alloc (Nat.le_refl _) (.cells #[.int .i64 x, .int .i64 b] 24))
    refine (rcheck_any x b 2 HX.out HB.out HK.out _).mono ?_
    rintro e w1 ⟨rfl, hb⟩
    have HB1 := Lib.hid (HB0.out.trans (hb.mono HB0.out.size))
    clear hb
    go_wp2
    go_ret2
    exact ⟨rfl, HB1.out⟩
theorem rfin {y g b0 : Int} {r : Int × Int × Int} (h : Cl.fin (y, g) b0 = r) : (g = 0 ∧ r = (y, b0, 0)) ∨ (g ≠ 0 ∧ r = (0, 0, g)) := by
  unfold Cl.fin at h
  by_cases hg : g = 0
  · rw [if_pos hg] at h; exact .inl ⟨hg, h.symm⟩
  · rw [if_neg hg] at h; exact .inr ⟨hg, h.symm⟩
theorem rparse_at (s : ByteArray) (hs : s.size ≤ 1000) (y f : Int) (h : Of.parse s.data.toList = (y, f)) (w : World) : Calls Tryd.prog 24 #[.string s] w fun e w' => e = .returned (.tuple #[.int .i64 y, .int .i64 f]) ∧ ∃ n, w' = w.drewN n := by
  have := rparse_any s hs w
  rw [h] at this
  exact this
theorem row_set {w : World} {b : Nat} {X : Obj} {p : Addr} (h : w.heap[b]? = some X) (u : Value) (hne : b ≠ p.block) : (w.setCell p u).heap[b]? = some X := by
  rw [Below.heap_setCell w p u b hne]; exact h
theorem row_dn {w : World} {b : Nat} {X : Obj} (h : w.heap[b]? = some X) (n : Nat) : (w.drewN n).heap[b]? = some X := row_bl (Dw.below (w := w) (w' := w.drewN n) ⟨n, rfl⟩) h
set_option maxHeartbeats 1000000 in
theorem rparse6_let_ok (s : ByteArray) (m : Nat) (h : m < s.size) (hm : s.size = m + 1) (hs : s.size ≤ 1000) (b0 : Int) (hb0 : 0 ≤ b0 ∧ b0 ≤ 2) (hlb : lb s[m] = b0) (y : Int) (hp : Of.parse (s.extract 0 m).data.toList = (y, 0)) (w : World) :
    Calls Tryd.prog 11 #[.string s] w fun e w' => e = .returned (.tuple #[.agg #[.int .i64 y, .int .i64 b0], .int .i64 0]) ∧ Below w.heap.size w w' := by
  have HL := fun w => rbase_at s[m] b0 hlb w
  have hse : (s.extract 0 m).size ≤ 1000 := by simp; omega
  obtain ⟨hb1, hb2⟩ := hb0
  have HP := fun w => rparse_at (s.extract 0 m) hse y 0 hp w
  have h0 : 0 < s.size := by omega
  clear hp hlb hse
  go_enter Tryd.func11, Tryd.ntmps11
  go_wp2_with fail
  have HB := Lib.hid (((Below.refl w.heap.size w).alloc (Nat.le_refl _) (.cells #[.int .i64 0, .int .i64 0] 24)).alloc (by simp) (.cells #[.int .i64 0, .int .i64 0] 24))
  have hr0 := row_al (A := .cells #[.int .i64 0, .int .i64 0] 24) (row_new (w := w) (A := .cells #[.int .i64 0, .int .i64 0] 24) rfl)
  have hr1 : ((w.alloc (.cells #[.int .i64 0, .int .i64 0] 24)).alloc (.cells #[.int .i64 0, .int .i64 0] 24)).heap[w.heap.size + 1]? = some (.cells #[.int .i64 0, .int .i64 0] 24) := row_new (by simp)
  generalize (w.alloc (.cells #[.int .i64 0, .int .i64 0] 24)).alloc (.cells #[.int .i64 0, .int .i64 0] 24) = W1 at *
  have HR0 := Lib.hid hr0
  have z0 := frozen_of_row _ _ 0 _ _ hr0
  have z1 := frozen_of_row _ _ 1 _ _ hr0
  have y0 := frozen_of_row _ _ 0 _ _ hr1
  have y1 := frozen_of_row _ _ 1 _ _ hr1
  have p0 : W1.cell? ⟨w.heap.size + 1, 0, none⟩ = some (.int .i64 0) := row_cell hr1 rfl
  have p1 : W1.cell? ⟨w.heap.size + 1, 1, none⟩ = some (.int .i64 0) := row_cell hr1 rfl
  have k0 : W1.cell? ⟨w.heap.size, 0, none⟩ = some (.int .i64 0) := row_cell hr0 rfl
  have k1 : W1.cell? ⟨w.heap.size, 1, none⟩ = some (.int .i64 0) := row_cell hr0 rfl
  clear hr0 hr1
  have HG : Hid (∃ g0, w.heap.size = g0) := Lib.hid ⟨_, rfl⟩
  obtain ⟨g0, hg0⟩ := HG.out
  rw [hg0] at HR0 z0 z1 y0 y1 p0 p1 k0 k1
  have HG0 := Lib.hid hg0
  simp only [hg0]
  clear hg0 HG
  refine (HL _).mono ?_
  rintro e w2 ⟨rfl, rfl⟩
  go_wp2_with fail
  refine (HL _).mono ?_
  rintro e w2 ⟨rfl, rfl⟩
  go_wp2_with fail
  refine (HP _).mono ?_
  rintro e w2 ⟨rfl, n, rfl⟩
  go_wp2
  exact bodyPost_ret (clk_res Tryd.results11 (row_set (p := ⟨g0 + 1, 0, none⟩) (row_dn (row_set (p := ⟨g0 + 1, 1, none⟩) HR0.out _ (by simp)) n) _ (by simp)) rfl rfl _ _) rfl ⟨rfl, ((((Below.trans (HB.out.setCell (p := ⟨g0 + 1, 1, none⟩) (by rw [HG0.out]; simp) _) (Dw.below' ⟨n, rfl⟩ _)).setCell (p := ⟨g0 + 1, 0, none⟩) (by rw [HG0.out]; simp) _).setCell (p := ⟨g0, 0, none⟩) (by rw [HG0.out]; simp) _).setCell (p := ⟨g0, 1, none⟩) (by rw [HG0.out]; simp) _)⟩
set_option maxHeartbeats 1000000 in
theorem rparse6_let_bad (s : ByteArray) (m : Nat) (h : m < s.size) (hm : s.size = m + 1) (hs : s.size ≤ 1000) (b0 : Int) (hb0 : 0 ≤ b0 ∧ b0 ≤ 2) (hlb : lb s[m] = b0) (y g : Int) (hg : g ≠ 0) (hp : Of.parse (s.extract 0 m).data.toList = (y, g)) (w : World) :
    Calls Tryd.prog 11 #[.string s] w fun e w' => e = .returned (.tuple #[.agg #[.int .i64 0, .int .i64 0], .int .i64 g]) ∧ Below w.heap.size w w' := by
  have HL := fun w => rbase_at s[m] b0 hlb w
  have hse : (s.extract 0 m).size ≤ 1000 := by simp; omega
  obtain ⟨hb1, hb2⟩ := hb0
  have HP := fun w => rparse_at (s.extract 0 m) hse y g hp w
  have h0 : 0 < s.size := by omega
  have hge : (g == 0) = false := by simpa using hg
  have hge2 : (g != 0) = true := by simpa using hg
  clear hp hlb hse hg
  go_enter Tryd.func11, Tryd.ntmps11
  go_wp2_with fail
  have HB := Lib.hid (((Below.refl w.heap.size w).alloc (Nat.le_refl _) (.cells #[.int .i64 0, .int .i64 0] 24)).alloc (by simp) (.cells #[.int .i64 0, .int .i64 0] 24))
  have hr0 := row_al (A := .cells #[.int .i64 0, .int .i64 0] 24) (row_new (w := w) (A := .cells #[.int .i64 0, .int .i64 0] 24) rfl)
  have hr1 : ((w.alloc (.cells #[.int .i64 0, .int .i64 0] 24)).alloc (.cells #[.int .i64 0, .int .i64 0] 24)).heap[w.heap.size + 1]? = some (.cells #[.int .i64 0, .int .i64 0] 24) := row_new (by simp)
  generalize (w.alloc (.cells #[.int .i64 0, .int .i64 0] 24)).alloc (.cells #[.int .i64 0, .int .i64 0] 24) = W1 at *
  have HR0 := Lib.hid hr0
  have z0 := frozen_of_row _ _ 0 _ _ hr0
  have z1 := frozen_of_row _ _ 1 _ _ hr0
  have y0 := frozen_of_row _ _ 0 _ _ hr1
  have y1 := frozen_of_row _ _ 1 _ _ hr1
  have p0 : W1.cell? ⟨w.heap.size + 1, 0, none⟩ = some (.int .i64 0) := row_cell hr1 rfl
  have p1 : W1.cell? ⟨w.heap.size + 1, 1, none⟩ = some (.int .i64 0) := row_cell hr1 rfl
  have k0 : W1.cell? ⟨w.heap.size, 0, none⟩ = some (.int .i64 0) := row_cell hr0 rfl
  have k1 : W1.cell? ⟨w.heap.size, 1, none⟩ = some (.int .i64 0) := row_cell hr0 rfl
  clear hr0 hr1
  have HG : Hid (∃ g0, w.heap.size = g0) := Lib.hid ⟨_, rfl⟩
  obtain ⟨g0, hg0⟩ := HG.out
  rw [hg0] at HR0 z0 z1 y0 y1 p0 p1 k0 k1
  have HG0 := Lib.hid hg0
  simp only [hg0]
  clear hg0 HG
  refine (HL _).mono ?_
  rintro e w2 ⟨rfl, rfl⟩
  go_wp2_with fail
  refine (HL _).mono ?_
  rintro e w2 ⟨rfl, rfl⟩
  go_wp2_with fail
  refine (HP _).mono ?_
  rintro e w2 ⟨rfl, n, rfl⟩
  go_wp2
  exact bodyPost_ret (clk_res Tryd.results11 (row_dn (row_set (p := ⟨g0 + 1, 1, none⟩) HR0.out _ (by simp)) n) rfl rfl _ _) rfl ⟨rfl, (((Below.trans (HB.out.setCell (p := ⟨g0 + 1, 1, none⟩) (by rw [HG0.out]; simp) _) (Dw.below' ⟨n, rfl⟩ _)).setCell (p := ⟨g0, 0, none⟩) (by rw [HG0.out]; simp) _).setCell (p := ⟨g0, 1, none⟩) (by rw [HG0.out]; simp) _)⟩
set_option maxHeartbeats 1000000 in
theorem rparse6_none_ok (s : ByteArray) (m : Nat) (h : m < s.size) (hm : s.size = m + 1) (hs : s.size ≤ 1000) (hlb : lb s[m] = -1) (y : Int) (hp : Of.parse s.data.toList = (y, 0)) (w : World) :
    Calls Tryd.prog 11 #[.string s] w fun e w' => e = .returned (.tuple #[.agg #[.int .i64 y, .int .i64 0], .int .i64 0]) ∧ Below w.heap.size w w' := by
  have HL := fun w => rbase_at s[m] (-1) hlb w
  have HP := fun w => rparse_at s hs y 0 hp w
  have h0 : 0 < s.size := by omega
  clear hp hlb
  go_enter Tryd.func11, Tryd.ntmps11
  go_wp2_with fail
  have HB := Lib.hid (((Below.refl w.heap.size w).alloc (Nat.le_refl _) (.cells #[.int .i64 0, .int .i64 0] 24)).alloc (by simp) (.cells #[.int .i64 0, .int .i64 0] 24))
  have hr0 := row_al (A := .cells #[.int .i64 0, .int .i64 0] 24) (row_new (w := w) (A := .cells #[.int .i64 0, .int .i64 0] 24) rfl)
  have hr1 : ((w.alloc (.cells #[.int .i64 0, .int .i64 0] 24)).alloc (.cells #[.int .i64 0, .int .i64 0] 24)).heap[w.heap.size + 1]? = some (.cells #[.int .i64 0, .int .i64 0] 24) := row_new (by simp)
  generalize (w.alloc (.cells #[.int .i64 0, .int .i64 0] 24)).alloc (.cells #[.int .i64 0, .int .i64 0] 24) = W1 at *
  have HR0 := Lib.hid hr0
  have z0 := frozen_of_row _ _ 0 _ _ hr0
  have z1 := frozen_of_row _ _ 1 _ _ hr0
  have y0 := frozen_of_row _ _ 0 _ _ hr1
  have y1 := frozen_of_row _ _ 1 _ _ hr1
  have p0 : W1.cell? ⟨w.heap.size + 1, 0, none⟩ = some (.int .i64 0) := row_cell hr1 rfl
  have p1 : W1.cell? ⟨w.heap.size + 1, 1, none⟩ = some (.int .i64 0) := row_cell hr1 rfl
  have k0 : W1.cell? ⟨w.heap.size, 0, none⟩ = some (.int .i64 0) := row_cell hr0 rfl
  have k1 : W1.cell? ⟨w.heap.size, 1, none⟩ = some (.int .i64 0) := row_cell hr0 rfl
  clear hr0 hr1
  have HG : Hid (∃ g0, w.heap.size = g0) := Lib.hid ⟨_, rfl⟩
  obtain ⟨g0, hg0⟩ := HG.out
  rw [hg0] at HR0 z0 z1 y0 y1 p0 p1 k0 k1
  have HG0 := Lib.hid hg0
  simp only [hg0]
  clear hg0 HG
  refine (HL _).mono ?_
  rintro e w2 ⟨rfl, rfl⟩
  go_wp2_with fail
  refine (HP _).mono ?_
  rintro e w2 ⟨rfl, n, rfl⟩
  go_wp2
  exact bodyPost_ret (clk_res Tryd.results11 (row_set (p := ⟨g0 + 1, 0, none⟩) (row_dn HR0.out n) _ (by simp)) rfl rfl _ _) rfl ⟨rfl, ((((Below.trans HB.out (Dw.below' ⟨n, rfl⟩ _)).setCell (p := ⟨g0 + 1, 0, none⟩) (by rw [HG0.out]; simp) _).setCell (p := ⟨g0, 0, none⟩) (by rw [HG0.out]; simp) _).setCell (p := ⟨g0, 1, none⟩) (by rw [HG0.out]; simp) _)⟩
set_option maxHeartbeats 1000000 in
theorem rparse6_none_bad (s : ByteArray) (m : Nat) (h : m < s.size) (hm : s.size = m + 1) (hs : s.size ≤ 1000) (hlb : lb s[m] = -1) (y g : Int) (hg : g ≠ 0) (hp : Of.parse s.data.toList = (y, g)) (w : World) :
    Calls Tryd.prog 11 #[.string s] w fun e w' => e = .returned (.tuple #[.agg #[.int .i64 0, .int .i64 0], .int .i64 g]) ∧ Below w.heap.size w w' := by
  have HL := fun w => rbase_at s[m] (-1) hlb w
  have HP := fun w => rparse_at s hs y g hp w
  have h0 : 0 < s.size := by omega
  have hge : (g == 0) = false := by simpa using hg
  have hge2 : (g != 0) = true := by simpa using hg
  clear hp hlb hg
  go_enter Tryd.func11, Tryd.ntmps11
  go_wp2_with fail
  have HB := Lib.hid (((Below.refl w.heap.size w).alloc (Nat.le_refl _) (.cells #[.int .i64 0, .int .i64 0] 24)).alloc (by simp) (.cells #[.int .i64 0, .int .i64 0] 24))
  have hr0 := row_al (A := .cells #[.int .i64 0, .int .i64 0] 24) (row_new (w := w) (A := .cells #[.int .i64 0, .int .i64 0] 24) rfl)
  have hr1 : ((w.alloc (.cells #[.int .i64 0, .int .i64 0] 24)).alloc (.cells #[.int .i64 0, .int .i64 0] 24)).heap[w.heap.size + 1]? = some (.cells #[.int .i64 0, .int .i64 0] 24) := row_new (by simp)
  generalize (w.alloc (.cells #[.int .i64 0, .int .i64 0] 24)).alloc (.cells #[.int .i64 0, .int .i64 0] 24) = W1 at *
  have HR0 := Lib.hid hr0
  have z0 := frozen_of_row _ _ 0 _ _ hr0
  have z1 := frozen_of_row _ _ 1 _ _ hr0
  have y0 := frozen_of_row _ _ 0 _ _ hr1
  have y1 := frozen_of_row _ _ 1 _ _ hr1
  have p0 : W1.cell? ⟨w.heap.size + 1, 0, none⟩ = some (.int .i64 0) := row_cell hr1 rfl
  have p1 : W1.cell? ⟨w.heap.size + 1, 1, none⟩ = some (.int .i64 0) := row_cell hr1 rfl
  have k0 : W1.cell? ⟨w.heap.size, 0, none⟩ = some (.int .i64 0) := row_cell hr0 rfl
  have k1 : W1.cell? ⟨w.heap.size, 1, none⟩ = some (.int .i64 0) := row_cell hr0 rfl
  clear hr0 hr1
  have HG : Hid (∃ g0, w.heap.size = g0) := Lib.hid ⟨_, rfl⟩
  obtain ⟨g0, hg0⟩ := HG.out
  rw [hg0] at HR0 z0 z1 y0 y1 p0 p1 k0 k1
  have HG0 := Lib.hid hg0
  simp only [hg0]
  clear hg0 HG
  refine (HL _).mono ?_
  rintro e w2 ⟨rfl, rfl⟩
  go_wp2_with fail
  refine (HP _).mono ?_
  rintro e w2 ⟨rfl, n, rfl⟩
  go_wp2
  exact bodyPost_ret (clk_res Tryd.results11 (row_dn HR0.out n) rfl rfl _ _) rfl ⟨rfl, (((Below.trans HB.out (Dw.below' ⟨n, rfl⟩ _)).setCell (p := ⟨g0, 0, none⟩) (by rw [HG0.out]; simp) _).setCell (p := ⟨g0, 1, none⟩) (by rw [HG0.out]; simp) _)⟩
set_option maxHeartbeats 1000000 in
theorem rparse6_empty_ok (s : ByteArray) (h0 : s.size = 0) (hs : s.size ≤ 1000)  (y : Int) (hp : Of.parse s.data.toList = (y, 0)) (w : World) :
    Calls Tryd.prog 11 #[.string s] w fun e w' => e = .returned (.tuple #[.agg #[.int .i64 y, .int .i64 0], .int .i64 0]) ∧ Below w.heap.size w w' := by
  have HP := fun w => rparse_at s hs y 0 hp w
  clear hp
  go_enter Tryd.func11, Tryd.ntmps11
  go_wp2_with fail
  have HB := Lib.hid (((Below.refl w.heap.size w).alloc (Nat.le_refl _) (.cells #[.int .i64 0, .int .i64 0] 24)).alloc (by simp) (.cells #[.int .i64 0, .int .i64 0] 24))
  have hr0 := row_al (A := .cells #[.int .i64 0, .int .i64 0] 24) (row_new (w := w) (A := .cells #[.int .i64 0, .int .i64 0] 24) rfl)
  have hr1 : ((w.alloc (.cells #[.int .i64 0, .int .i64 0] 24)).alloc (.cells #[.int .i64 0, .int .i64 0] 24)).heap[w.heap.size + 1]? = some (.cells #[.int .i64 0, .int .i64 0] 24) := row_new (by simp)
  generalize (w.alloc (.cells #[.int .i64 0, .int .i64 0] 24)).alloc (.cells #[.int .i64 0, .int .i64 0] 24) = W1 at *
  have HR0 := Lib.hid hr0
  have z0 := frozen_of_row _ _ 0 _ _ hr0
  have z1 := frozen_of_row _ _ 1 _ _ hr0
  have y0 := frozen_of_row _ _ 0 _ _ hr1
  have y1 := frozen_of_row _ _ 1 _ _ hr1
  have p0 : W1.cell? ⟨w.heap.size + 1, 0, none⟩ = some (.int .i64 0) := row_cell hr1 rfl
  have p1 : W1.cell? ⟨w.heap.size + 1, 1, none⟩ = some (.int .i64 0) := row_cell hr1 rfl
  have k0 : W1.cell? ⟨w.heap.size, 0, none⟩ = some (.int .i64 0) := row_cell hr0 rfl
  have k1 : W1.cell? ⟨w.heap.size, 1, none⟩ = some (.int .i64 0) := row_cell hr0 rfl
  clear hr0 hr1
  have HG : Hid (∃ g0, w.heap.size = g0) := Lib.hid ⟨_, rfl⟩
  obtain ⟨g0, hg0⟩ := HG.out
  rw [hg0] at HR0 z0 z1 y0 y1 p0 p1 k0 k1
  have HG0 := Lib.hid hg0
  simp only [hg0]
  clear hg0 HG
  refine (HP _).mono ?_
  rintro e w2 ⟨rfl, n, rfl⟩
  go_wp2
  exact bodyPost_ret (clk_res Tryd.results11 (row_set (p := ⟨g0 + 1, 0, none⟩) (row_dn HR0.out n) _ (by simp)) rfl rfl _ _) rfl ⟨rfl, ((((Below.trans HB.out (Dw.below' ⟨n, rfl⟩ _)).setCell (p := ⟨g0 + 1, 0, none⟩) (by rw [HG0.out]; simp) _).setCell (p := ⟨g0, 0, none⟩) (by rw [HG0.out]; simp) _).setCell (p := ⟨g0, 1, none⟩) (by rw [HG0.out]; simp) _)⟩
set_option maxHeartbeats 1000000 in
theorem rparse6_empty_bad (s : ByteArray) (h0 : s.size = 0) (hs : s.size ≤ 1000)  (y g : Int) (hg : g ≠ 0) (hp : Of.parse s.data.toList = (y, g)) (w : World) :
    Calls Tryd.prog 11 #[.string s] w fun e w' => e = .returned (.tuple #[.agg #[.int .i64 0, .int .i64 0], .int .i64 g]) ∧ Below w.heap.size w w' := by
  have HP := fun w => rparse_at s hs y g hp w
  have hge : (g == 0) = false := by simpa using hg
  have hge2 : (g != 0) = true := by simpa using hg
  clear hp hg
  go_enter Tryd.func11, Tryd.ntmps11
  go_wp2_with fail
  have HB := Lib.hid (((Below.refl w.heap.size w).alloc (Nat.le_refl _) (.cells #[.int .i64 0, .int .i64 0] 24)).alloc (by simp) (.cells #[.int .i64 0, .int .i64 0] 24))
  have hr0 := row_al (A := .cells #[.int .i64 0, .int .i64 0] 24) (row_new (w := w) (A := .cells #[.int .i64 0, .int .i64 0] 24) rfl)
  have hr1 : ((w.alloc (.cells #[.int .i64 0, .int .i64 0] 24)).alloc (.cells #[.int .i64 0, .int .i64 0] 24)).heap[w.heap.size + 1]? = some (.cells #[.int .i64 0, .int .i64 0] 24) := row_new (by simp)
  generalize (w.alloc (.cells #[.int .i64 0, .int .i64 0] 24)).alloc (.cells #[.int .i64 0, .int .i64 0] 24) = W1 at *
  have HR0 := Lib.hid hr0
  have z0 := frozen_of_row _ _ 0 _ _ hr0
  have z1 := frozen_of_row _ _ 1 _ _ hr0
  have y0 := frozen_of_row _ _ 0 _ _ hr1
  have y1 := frozen_of_row _ _ 1 _ _ hr1
  have p0 : W1.cell? ⟨w.heap.size + 1, 0, none⟩ = some (.int .i64 0) := row_cell hr1 rfl
  have p1 : W1.cell? ⟨w.heap.size + 1, 1, none⟩ = some (.int .i64 0) := row_cell hr1 rfl
  have k0 : W1.cell? ⟨w.heap.size, 0, none⟩ = some (.int .i64 0) := row_cell hr0 rfl
  have k1 : W1.cell? ⟨w.heap.size, 1, none⟩ = some (.int .i64 0) := row_cell hr0 rfl
  clear hr0 hr1
  have HG : Hid (∃ g0, w.heap.size = g0) := Lib.hid ⟨_, rfl⟩
  obtain ⟨g0, hg0⟩ := HG.out
  rw [hg0] at HR0 z0 z1 y0 y1 p0 p1 k0 k1
  have HG0 := Lib.hid hg0
  simp only [hg0]
  clear hg0 HG
  refine (HP _).mono ?_
  rintro e w2 ⟨rfl, n, rfl⟩
  go_wp2
  exact bodyPost_ret (clk_res Tryd.results11 (row_dn HR0.out n) rfl rfl _ _) rfl ⟨rfl, (((Below.trans HB.out (Dw.below' ⟨n, rfl⟩ _)).setCell (p := ⟨g0, 0, none⟩) (by rw [HG0.out]; simp) _).setCell (p := ⟨g0, 1, none⟩) (by rw [HG0.out]; simp) _)⟩
theorem lb_some {c : UInt8} {b : Int} (h : Cl.letB c = some b) : lb c = b := by unfold lb; rw [h]
theorem lb_none {c : UInt8} (h : Cl.letB c = none) : lb c = -1 := by unfold lb; rw [h]
theorem rparse6_any (s : ByteArray) (hs : s.size ≤ 1000) (x b f : Int) (hr : Cl.parse s.data.toList = (x, b, f)) (w : World) :
    Calls Tryd.prog 11 #[.string s] w fun e w' => e = .returned (.tuple #[.agg #[.int .i64 x, .int .i64 b], .int .i64 f]) ∧ Below w.heap.size w w' := by
  unfold Cl.parse at hr
  by_cases h0 : s.size = 0
  · have hl : s.data.toList = [] := List.eq_nil_of_length_eq_zero (by simpa using h0)
    obtain ⟨y, g, hp⟩ : ∃ y g, Of.parse s.data.toList = (y, g) := ⟨_, _, rfl⟩
    have hc : Cl.cut s.data.toList = (s.data.toList, 0) := by rw [hl]; rfl
    rw [hc] at hr
    rw [hp] at hr
    rcases rfin hr with ⟨rfl, e⟩ | ⟨hg, e⟩ <;> (obtain ⟨rfl, e2⟩ := Prod.mk.inj e; obtain ⟨rfl, rfl⟩ := Prod.mk.inj e2)
    · exact rparse6_empty_ok s h0 hs x hp w
    · exact rparse6_empty_bad s h0 hs y f hg hp w
  · obtain ⟨m, hm⟩ : ∃ m, s.size = m + 1 := ⟨s.size - 1, by omega⟩
    have h : m < s.size := by omega
    have hl := last_snoc s m h hm
    cases hb : Cl.letB s[m] with
    | some b0 =>
      have hc := Cl.cut_let (s.extract 0 m).data.toList _ _ hb
      rw [← hl] at hc
      rw [hc] at hr
      obtain ⟨y, g, hp⟩ : ∃ y g, Of.parse (s.extract 0 m).data.toList = (y, g) := ⟨_, _, rfl⟩
      rw [hp] at hr
      rcases rfin hr with ⟨rfl, e⟩ | ⟨hg, e⟩ <;> (obtain ⟨rfl, e2⟩ := Prod.mk.inj e; obtain ⟨rfl, rfl⟩ := Prod.mk.inj e2)
      · exact rparse6_let_ok s m h hm hs b (Cl.letB_bd hb) (lb_some hb) x hp w
      · exact rparse6_let_bad s m h hm hs b0 (Cl.letB_bd hb) (lb_some hb) y f hg hp w
    | none =>
      have hc := Cl.cut_no (s.extract 0 m).data.toList _ hb
      rw [← hl] at hc
      rw [hc] at hr
      obtain ⟨y, g, hp⟩ : ∃ y g, Of.parse s.data.toList = (y, g) := ⟨_, _, rfl⟩
      rw [hp] at hr
      rcases rfin hr with ⟨rfl, e⟩ | ⟨hg, e⟩ <;> (obtain ⟨rfl, e2⟩ := Prod.mk.inj e; obtain ⟨rfl, rfl⟩ := Prod.mk.inj e2)
      · exact rparse6_none_ok s m h hm hs (lb_none hb) x hp w
      · exact rparse6_none_bad s m h hm hs (lb_none hb) y f hg hp w
end Go.Proofs.YteahckmpjihcaaaDoor
