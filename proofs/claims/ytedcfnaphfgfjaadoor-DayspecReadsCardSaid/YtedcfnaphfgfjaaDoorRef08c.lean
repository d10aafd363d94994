/- The document's answers about words: Line, Month, Week, To. -/
import Derived.Test.YtedcfnaphfgfjaaDoorRef08b
namespace Go.Proofs.YtedcfnaphfgfjaaDoor
open Go.RowKit
namespace Wd
/-- a number that is greater by one, if there is no error -/
def mo (p : Int × Int) : Int × Int := if p.2 = 0 then (p.1 + 1, 0) else (0, p.2)
theorem pre_refl : ∀ s : List Nat, pre s s = true
  | [] => rfl
  | a :: s => by simp only [pre, pre_refl s, Nat.beq_refl, Bool.and_self]
theorem rf_no (s : List Nat) : ∀ (ws : List (List Nat)) (i : Nat) (f : Int), (∀ w ∈ ws, pre s w = false) → rf s ws i 0 f = (0, 8)
  | [], _, _, _ => rfl
  | w :: ws, i, f, h => by
    have h1 := h w (List.mem_cons_self)
    rw [rf, if_neg (fun e => by rw [e, pre_refl] at h1; cases h1), if_neg (fun e => by rw [h1] at e; cases e.2.2)]
    exact rf_no s ws (i + 1) f (fun v hv => h v (List.mem_cons_of_mem _ hv))
end Wd
def rlinesL : List ByteArray := [⟨#[114, 117, 108, 101]⟩, ⟨#[122, 111, 110, 101]⟩, ⟨#[108, 105, 110, 107]⟩, ⟨#[115, 104, 105, 102, 116]⟩]
theorem ref_lines (t : List Nat) : Wd.fnd (wl linesL) t = Wd.mo (Wd.rf t (wl rlinesL) 0 0 (-1)) ∧ 0 ≤ (Wd.rf t (wl rlinesL) 0 0 (-1)).1 ∧ (Wd.rf t (wl rlinesL) 0 0 (-1)).1 ≤ 12 ∧ ((Wd.rf t (wl rlinesL) 0 0 (-1)).2 = 0 ∨ (Wd.rf t (wl rlinesL) 0 0 (-1)).2 = 8) := by
  refine Wd.by_pre (wl linesL) (fun t => Wd.fnd (wl linesL) t = Wd.mo (Wd.rf t (wl rlinesL) 0 0 (-1)) ∧ 0 ≤ (Wd.rf t (wl rlinesL) 0 0 (-1)).1 ∧ (Wd.rf t (wl rlinesL) 0 0 (-1)).1 ≤ 12 ∧ ((Wd.rf t (wl rlinesL) 0 0 (-1)).2 = 0 ∨ (Wd.rf t (wl rlinesL) 0 0 (-1)).2 = 8)) (by decide +kernel) (fun s h => ?_) t
  have hs : ∀ w ∈ wl rlinesL, w ∈ wl linesL := by decide +kernel
  rw [Wd.fnd_no _ s h, Wd.rf_no s _ 0 (-1) (fun w hw => h w (hs w hw))]
  decide
theorem rsmall_rlinesL : ∀ x ∈ rlinesL, x.size ≤ 1000 := by decide +kernel
def rmonthsL : List ByteArray := [⟨#[106, 97, 110, 117, 97, 114, 121]⟩, ⟨#[102, 101, 98, 114, 117, 97, 114, 121]⟩, ⟨#[109, 97, 114, 99, 104]⟩, ⟨#[97, 112, 114, 105, 108]⟩, ⟨#[109, 97, 121]⟩, ⟨#[106, 117, 110, 101]⟩, ⟨#[106, 117, 108, 121]⟩, ⟨#[97, 117, 103, 117, 115, 116]⟩, ⟨#[115, 101, 112, 116, 101, 109, 98, 101, 114]⟩, ⟨#[111, 99, 116, 111, 98, 101, 114]⟩, ⟨#[110, 111, 118, 101, 109, 98, 101, 114]⟩, ⟨#[100, 101, 99, 101, 109, 98, 101, 114]⟩]
theorem ref_months (t : List Nat) : Wd.fnd (wl monthsL) t = Wd.mo (Wd.rf t (wl rmonthsL) 0 0 (-1)) ∧ 0 ≤ (Wd.rf t (wl rmonthsL) 0 0 (-1)).1 ∧ (Wd.rf t (wl rmonthsL) 0 0 (-1)).1 ≤ 12 ∧ ((Wd.rf t (wl rmonthsL) 0 0 (-1)).2 = 0 ∨ (Wd.rf t (wl rmonthsL) 0 0 (-1)).2 = 8) := by
  refine Wd.by_pre (wl monthsL) (fun t => Wd.fnd (wl monthsL) t = Wd.mo (Wd.rf t (wl rmonthsL) 0 0 (-1)) ∧ 0 ≤ (Wd.rf t (wl rmonthsL) 0 0 (-1)).1 ∧ (Wd.rf t (wl rmonthsL) 0 0 (-1)).1 ≤ 12 ∧ ((Wd.rf t (wl rmonthsL) 0 0 (-1)).2 = 0 ∨ (Wd.rf t (wl rmonthsL) 0 0 (-1)).2 = 8)) (by decide +kernel) (fun s h => ?_) t
  have hs : ∀ w ∈ wl rmonthsL, w ∈ wl monthsL := by decide +kernel
  rw [Wd.fnd_no _ s h, Wd.rf_no s _ 0 (-1) (fun w hw => h w (hs w hw))]
  decide
theorem rsmall_rmonthsL : ∀ x ∈ rmonthsL, x.size ≤ 1000 := by decide +kernel
def rweeksL : List ByteArray := [⟨#[115, 117, 110, 100, 97, 121]⟩, ⟨#[109, 111, 110, 100, 97, 121]⟩, ⟨#[116, 117, 101, 115, 100, 97, 121]⟩, ⟨#[119, 101, 100, 110, 101, 115, 100, 97, 121]⟩, ⟨#[116, 104, 117, 114, 115, 100, 97, 121]⟩, ⟨#[102, 114, 105, 100, 97, 121]⟩, ⟨#[115, 97, 116, 117, 114, 100, 97, 121]⟩]
theorem ref_weeks (t : List Nat) : Wd.fnd (wl weeksL) t = Wd.rf t (wl rweeksL) 0 0 (-1) ∧ 0 ≤ (Wd.rf t (wl rweeksL) 0 0 (-1)).1 ∧ (Wd.rf t (wl rweeksL) 0 0 (-1)).1 ≤ 12 ∧ ((Wd.rf t (wl rweeksL) 0 0 (-1)).2 = 0 ∨ (Wd.rf t (wl rweeksL) 0 0 (-1)).2 = 8) := by
  refine Wd.by_pre (wl weeksL) (fun t => Wd.fnd (wl weeksL) t = Wd.rf t (wl rweeksL) 0 0 (-1) ∧ 0 ≤ (Wd.rf t (wl rweeksL) 0 0 (-1)).1 ∧ (Wd.rf t (wl rweeksL) 0 0 (-1)).1 ≤ 12 ∧ ((Wd.rf t (wl rweeksL) 0 0 (-1)).2 = 0 ∨ (Wd.rf t (wl rweeksL) 0 0 (-1)).2 = 8)) (by decide +kernel) (fun s h => ?_) t
  have hs : ∀ w ∈ wl rweeksL, w ∈ wl weeksL := by decide +kernel
  rw [Wd.fnd_no _ s h, Wd.rf_no s _ 0 (-1) (fun w hw => h w (hs w hw))]
  decide
theorem rweeks_any (w : World) : Calls Tryd.prog 44 #[] w fun e w' => e = .returned (.slice (some ⟨w.heap.size, 0, none⟩) 7 7) ∧ w.alloc (.cells (strV rweeksL).toArray 9) = w' := by
  go_enter Tryd.func44, Tryd.ntmps44
  go_wp2
  go_ret
  exact ⟨rfl, rfl⟩
theorem rsmall_rweeksL : ∀ x ∈ rweeksL, x.size ≤ 1000 := by decide +kernel
theorem rWeek_any (s : ByteArray) (hs : s.size ≤ 100000) (r1 r2 : Int) (hr : Hid (Wd.fnd (wl weeksL) (Wd.low s.data.toList) = (r1, r2))) (w : World) : Calls Tryd.prog 21 #[.string s] w fun e w' => e = .returned (.tuple #[.int .i64 r1, .int .i64 r2]) ∧ Below w.heap.size w w' := by
  obtain ⟨h1, _⟩ := ref_weeks (Wd.low s.data.toList)
  rw [hr.out] at h1
  have HP := Lib.hid h1.symm
  have HB0 := Bs.hal (Lib.hid (Bs.mk0 w)) (.cells (strV rweeksL).toArray 9)
  have HCs : Hid (Cs (w.alloc (.cells (strV rweeksL).toArray 9)) w.heap.size (strV rweeksL)) := Lib.hid (Cs.new _ _ _)
  clear h1 hr
  go_enter Tryd.func21, Tryd.ntmps21
  go_wp2_with fail
  refine (rweeks_any w).mono ?_; rintro e w1 ⟨rfl, hw1⟩
  rw [hw1] at HB0 HCs
  clear hw1
  go_wp2_with fail
  refine (rfind_any s hs rweeksL (by decide) rsmall_rweeksL r1 r2 HP w.heap.size 7 rfl w1 HCs.out).mono ?_; rintro e w2 ⟨rfl, hb⟩
  have HB2 := Bs.hbl HB0 hb
  clear hb
  go_wp2
  go_ret2
  exact ⟨rfl, HB2.out⟩
def ryearsL : List ByteArray := [⟨#[111, 110, 108, 121]⟩, ⟨#[109, 97, 120, 105, 109, 117, 109]⟩]
theorem ref_years (t : List Nat) : Wd.fnd (wl yearsL) t = Wd.mo (Wd.rf t (wl ryearsL) 0 0 (-1)) ∧ 0 ≤ (Wd.rf t (wl ryearsL) 0 0 (-1)).1 ∧ (Wd.rf t (wl ryearsL) 0 0 (-1)).1 ≤ 12 ∧ ((Wd.rf t (wl ryearsL) 0 0 (-1)).2 = 0 ∨ (Wd.rf t (wl ryearsL) 0 0 (-1)).2 = 8) := by
  refine Wd.by_pre (wl yearsL) (fun t => Wd.fnd (wl yearsL) t = Wd.mo (Wd.rf t (wl ryearsL) 0 0 (-1)) ∧ 0 ≤ (Wd.rf t (wl ryearsL) 0 0 (-1)).1 ∧ (Wd.rf t (wl ryearsL) 0 0 (-1)).1 ≤ 12 ∧ ((Wd.rf t (wl ryearsL) 0 0 (-1)).2 = 0 ∨ (Wd.rf t (wl ryearsL) 0 0 (-1)).2 = 8)) (by decide +kernel) (fun s h => ?_) t
  have hs : ∀ w ∈ wl ryearsL, w ∈ wl yearsL := by decide +kernel
  rw [Wd.fnd_no _ s h, Wd.rf_no s _ 0 (-1) (fun w hw => h w (hs w hw))]
  decide
theorem rsmall_ryearsL : ∀ x ∈ ryearsL, x.size ≤ 1000 := by decide +kernel
end Go.Proofs.YtedcfnaphfgfjaaDoor
