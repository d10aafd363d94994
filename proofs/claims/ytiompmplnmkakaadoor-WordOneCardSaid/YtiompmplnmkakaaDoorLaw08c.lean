/- The walk of WordMore. -/
import Derived.Test.YtiompmplnmkakaaDoorLst
import Derived.Test.YtiompmplnmkakaaDoorRef08d
import Derived.BigRegion
namespace Go.Proofs.YtiompmplnmkakaaDoor
open Go.RowKit
theorem sz31 : (Tryd.prog.info? 31).map (·.size) = some 3 := by kernel_rfl
theorem len_q (q : Nat) (h : q < 4) : 0 < (RQ q).length ∧ (RQ q).length ≤ 12 := by
  rcases q_split q h with rfl | rfl | rfl | rfl <;> decide
theorem setRow_new {w : World} {b : Nat} {cs cs2 : Array Value} {t : TypeId} (h : b = w.heap.size) : (w.alloc (.cells cs t)).setRow b cs2 = w.alloc (.cells cs2 t) := by subst h; exact World.setRow_alloc_new _ _ _ _
set_option maxRecDepth 100000 in
set_option maxHeartbeats 4000000 in
theorem more_core (a0 a1 a2 : Int) (c : UInt8) (q i k : Nat) (x : ByteArray) (h0 : 0 ≤ a0 ∧ a0 ≤ 255) (h1 : 0 ≤ a1 ∧ a1 ≤ 255) (h2 : 0 ≤ a2 ∧ a2 ≤ 255) (hq : a0 % 4 = (q : Int)) (hq4 : q < 4) (hi : a1 % ((RQ q).length : Int) = (i : Int)) (hx : (RQ q)[i]? = some x) (hk : a2 % ((x.size : Int) + 1) = (k : Int)) (hxs : x.size ≤ 100) (hkx : k ≤ x.size)
    (hS : Hid (Wd.fnd (wl (LQ q)) (Wd.low (x.extract 0 k ++ ⟨#[c]⟩ ++ x.extract k x.size).data.toList) = (0, 8)))
    (W0 : World) (hT : TabW W0) : Calls Tryd.prog 7 #[.int .u8 a0, .int .u8 a1, .int .u8 a2, .int .u8 (c.toNat : Int)] W0 fun e w' => e = .returned (.bool true) ∧ Below W0.heap.size W0 w' := by
  have HC := Lib.hid (Wo.mk0 hT)
  have hl := len_q q hq4
  obtain ⟨hl1, hl2⟩ := hl
  obtain ⟨h00, h01⟩ := h0
  obtain ⟨h10, h11⟩ := h1
  obtain ⟨h20, h21⟩ := h2
  clear hT
  go_enter Tryd.func7, Tryd.ntmps7
  go_wp2_with fail
  refine (lists_any _).mono ?_; rintro e w1 ⟨rfl, hL, hb, hsz⟩
  have HC1 := Wo.hbl HC hb
  have hLq := hL.l q hq4
  have hFq := hL.find q hq4
  have hNq := hL.first q hq4
  have HWq := Lib.hid (hL.words q hq4)
  have hq0 : (0 : Int) ≤ (q : Int) := by omega
  have hq1 : (q : Int) < 4 := by omega
  have H4 := Lib.hid hq4
  clear hL hb HC
  generalize hn : (RQ q).length = n at *
  have hE := enters_q q hq4
  have HF : Hid (∀ (wx : World) (s : ByteArray) (r1 r2 : Int), Hid (Wd.fnd (wl (LQ q)) (Wd.low s.data.toList) = (r1, r2)) → Hid (Wo W0 wx) → Calls Tryd.prog (FQ q) #[.string s] wx fun e w' => e = .returned (.tuple #[.int .i64 r1, .int .i64 r2]) ∧ Below wx.heap.size wx w' ∧ Hid (Wo W0 w')) := Lib.hid (fun wx s r1 r2 hr hc => find_q q hq4 s r1 r2 hr hc)
  generalize FQ q = F at *
  generalize NQ q = N at *
  generalize W0.heap.size = h at *
  go_wp2_with (refine wpList_store_row rfl 31 _ _ rfl (h + 5) #[.slice (some ⟨h + q, 0, none⟩) n n, .func (.func F) #[] #[], .int .i64 N] rfl rfl _ _ (row_new hsz.symm) sz31 rfl (by simp [Value.oneCell']) ?_; rw [setRow_new hsz.symm])
  have x0 := new_cell w1 #[.slice (some ⟨h + q, 0, none⟩) n n, .func (.func F) #[] #[], .int .i64 N] 31 0 _ rfl
  have x1 := new_cell w1 #[.slice (some ⟨h + q, 0, none⟩) n n, .func (.func F) #[] #[], .int .i64 N] 31 1 _ rfl
  have hxc := cell_al (A := .cells #[.slice (some ⟨h + q, 0, none⟩) n n, .func (.func F) #[] #[], .int .i64 N] 31) (HWq.out.at i (strV_at _ _ _ hx))
  have HC2 := Wo.hal HC1 (.cells #[.slice (some ⟨h + q, 0, none⟩) n n, .func (.func F) #[] #[], .int .i64 N] 31)
  have hz2 : (w1.alloc (.cells #[.slice (some ⟨h + q, 0, none⟩) n n, .func (.func F) #[] #[], .int .i64 N] 31)).heap.size = h + 6 := by simp [hsz]
  rw [hsz] at x0 x1
  have hi0 : (0 : Int) ≤ (i : Int) := by omega
  have hi1 : (i : Int) < (n : Int) := by rw [← hi]; exact Int.emod_lt_of_pos _ (by omega)
  have hk0 : (0 : Int) ≤ (k : Int) := by omega
  have hk1 : (k : Int) ≤ (x.size : Int) := by omega
  have hn0 : ¬ n = 0 := by omega
  clear hLq hFq hNq HWq HC1 hx hq hq0 hq1
  generalize w1.alloc (.cells #[.slice (some ⟨h + q, 0, none⟩) n n, .func (.func F) #[] #[], .int .i64 N] 31) = w2 at *
  simp only [Act.put]
  go_region
  have hcv := byte_one8 c (h + 6)
  obtain ⟨U, hU⟩ : ∃ U : ByteArray, (⟨#[c]⟩ : ByteArray) = U := ⟨_, rfl⟩
  have hUs : U.size = 1 := by rw [← hU]; rfl
  rw [hU] at hcv hS
  have HX1 := Lib.hid x1
  have HU := Lib.hid hU
  have hu1 : U.size ≤ 1 := by omega
  clear x0 x1 hxc hi hn0 hi0 hi1 hU
  go_wp2_with fail
  go_region
  have HC3 := Wo.hdr (Wo.hdr (Wo.hal HC2 (.cells #[.int .u8 (c.toNat : Int)] 5)))
  have x1 : (w2.alloc (.cells #[.int .u8 (c.toNat : Int)] 5)).drew.drew.cell? ⟨h + 5, 1, none⟩ = some (.func (.func F) #[] #[]) := cell_al HX1.out
  have HC4 : Hid (Wo W0 (w2.alloc (.cells #[.int .u8 (c.toNat : Int)] 5)).drew.drew) := HC3
  clear HC3 HC2 HX1 hcv
  generalize (w2.alloc (.cells #[.int .u8 (c.toNat : Int)] 5)).drew.drew = w3 at *
  go_wp2_with (go_at_fn F; refine (HF.out _ _ 0 8 hS HC4).mono ?_; rintro e w4 ⟨rfl, _, HC5⟩)
  refine (works8_s HC5).mono ?_; rintro e w5 ⟨rfl, HC6⟩
  go_wp2
  go_ret
  exact ⟨rfl, HC6.out.1⟩
end Go.Proofs.YtiompmplnmkakaaDoor
