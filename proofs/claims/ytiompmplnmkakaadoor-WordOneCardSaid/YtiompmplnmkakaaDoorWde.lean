/- The contracts of package word: Line, Month, Week, To, MonthText, WeekText. -/
import Derived.Test.YtiompmplnmkakaaDoorWdc
import Derived.Test.YtiompmplnmkakaaDoorShelf
import Derived.Deep.RegionHeld3
import Derived.Deep.CutBlock
namespace Go.Proofs.YtiompmplnmkakaaDoor
open Go.RowKit Go.Shelf
def linesL : List ByteArray := [⟨#[]⟩, ⟨#[114, 117, 108, 101]⟩, ⟨#[122, 111, 110, 101]⟩, ⟨#[108, 105, 110, 107]⟩, ⟨#[115, 104, 105, 102, 116]⟩, ⟨#[]⟩, ⟨#[]⟩, ⟨#[]⟩, ⟨#[]⟩, ⟨#[]⟩, ⟨#[]⟩, ⟨#[]⟩, ⟨#[]⟩]
def monthsL : List ByteArray := [⟨#[]⟩, ⟨#[106, 97, 110, 117, 97, 114, 121]⟩, ⟨#[102, 101, 98, 114, 117, 97, 114, 121]⟩, ⟨#[109, 97, 114, 99, 104]⟩, ⟨#[97, 112, 114, 105, 108]⟩, ⟨#[109, 97, 121]⟩, ⟨#[106, 117, 110, 101]⟩, ⟨#[106, 117, 108, 121]⟩, ⟨#[97, 117, 103, 117, 115, 116]⟩, ⟨#[115, 101, 112, 116, 101, 109, 98, 101, 114]⟩, ⟨#[111, 99, 116, 111, 98, 101, 114]⟩, ⟨#[110, 111, 118, 101, 109, 98, 101, 114]⟩, ⟨#[100, 101, 99, 101, 109, 98, 101, 114]⟩]
def weeksL : List ByteArray := [⟨#[115, 117, 110, 100, 97, 121]⟩, ⟨#[109, 111, 110, 100, 97, 121]⟩, ⟨#[116, 117, 101, 115, 100, 97, 121]⟩, ⟨#[119, 101, 100, 110, 101, 115, 100, 97, 121]⟩, ⟨#[116, 104, 117, 114, 115, 100, 97, 121]⟩, ⟨#[102, 114, 105, 100, 97, 121]⟩, ⟨#[115, 97, 116, 117, 114, 100, 97, 121]⟩, ⟨#[]⟩, ⟨#[]⟩, ⟨#[]⟩, ⟨#[]⟩, ⟨#[]⟩, ⟨#[]⟩]
def yearsL : List ByteArray := [⟨#[]⟩, ⟨#[111, 110, 108, 121]⟩, ⟨#[109, 97, 120, 105, 109, 117, 109]⟩, ⟨#[]⟩, ⟨#[]⟩, ⟨#[]⟩, ⟨#[]⟩, ⟨#[]⟩, ⟨#[]⟩, ⟨#[]⟩, ⟨#[]⟩, ⟨#[]⟩, ⟨#[]⟩]
/-- the four tables lie in their blocks -/
structure TabW (w : World) : Prop where
  lines : Cs w 0 (strV linesL)
  months : Cs w 1 (strV monthsL)
  weeks : Cs w 2 (strV weeksL)
  years : Cs w 3 (strV yearsL)
theorem TabW.bl {w w1 : World} (h : TabW w) (k : Below w.heap.size w w1) : TabW w1 := ⟨h.lines.bl k, h.months.bl k, h.weeks.bl k, h.years.bl k⟩
/-- the state of a walk -/
def Wo (w0 w : World) : Prop := Below w0.heap.size w0 w ∧ TabW w
theorem Wo.mk0 {w : World} (h : TabW w) : Wo w w := ⟨Below.refl _ w, h⟩
theorem Wo.bl {w0 w w1 : World} (h : Wo w0 w) (k : Below w.heap.size w w1) : Wo w0 w1 := ⟨Below.trans h.1 (k.mono h.1.size), h.2.bl k⟩
theorem Wo.hbl {w0 w w1 : World} (h : Hid (Wo w0 w)) (k : Below w.heap.size w w1) : Hid (Wo w0 w1) := Lib.hid (h.out.bl k)
theorem Wo.hal {w0 w : World} (h : Hid (Wo w0 w)) (A : Obj) : Hid (Wo w0 (w.alloc A)) := Lib.hid (h.out.bl (Below.alloc (Below.refl _ w) (Nat.le_refl _) A))
theorem Wo.hdr {w0 w : World} (h : Hid (Wo w0 w)) : Hid (Wo w0 w.drew) := Lib.hid (h.out.bl (Below.drew (Below.refl _ w)))
theorem Wo.hdw {w0 w w1 : World} (h : Hid (Wo w0 w)) (k : Dw w w1) : Hid (Wo w0 w1) := Lib.hid (h.out.bl (k.below' _))
theorem len_linesL : linesL.length = 13 := rfl
theorem small_linesL : ∀ x ∈ linesL, x.size ≤ 1000 := by decide +kernel
/-- word.Line -/
theorem wLine_s {W0 w : World} (s : ByteArray) (r1 r2 : Int) (hr : Hid (Wd.fnd (wl linesL) (Wd.low s.data.toList) = (r1, r2))) (HC : Hid (Wo W0 w)) : Calls Tryd.prog 11 #[.string s] w fun e w' => e = .returned (.tuple #[.int .i64 r1, .int .i64 r2]) ∧ Below w.heap.size w w' ∧ Hid (Wo W0 w') := by
  have HT := Lib.hid HC.out.2.lines
  go_enter Tryd.func11, Tryd.ntmps11
  go_wp2_with (first | (refine wpList_load13 linesL len_linesL rfl _ rfl _ rfl HT.out ?_) | (go_at_call 26; refine (meant_any s linesL len_linesL small_linesL r1 r2 hr _).mono ?_; rintro e w1 ⟨rfl, hb⟩))
  go_ret2
  exact ⟨rfl, hb, Wo.hbl HC hb⟩
theorem len_monthsL : monthsL.length = 13 := rfl
theorem small_monthsL : ∀ x ∈ monthsL, x.size ≤ 1000 := by decide +kernel
/-- word.Month -/
theorem wMonth_s {W0 w : World} (s : ByteArray) (r1 r2 : Int) (hr : Hid (Wd.fnd (wl monthsL) (Wd.low s.data.toList) = (r1, r2))) (HC : Hid (Wo W0 w)) : Calls Tryd.prog 13 #[.string s] w fun e w' => e = .returned (.tuple #[.int .i64 r1, .int .i64 r2]) ∧ Below w.heap.size w w' ∧ Hid (Wo W0 w') := by
  have HT := Lib.hid HC.out.2.months
  go_enter Tryd.func13, Tryd.ntmps13
  go_wp2_with (first | (refine wpList_load13 monthsL len_monthsL rfl _ rfl _ rfl HT.out ?_) | (go_at_call 26; refine (meant_any s monthsL len_monthsL small_monthsL r1 r2 hr _).mono ?_; rintro e w1 ⟨rfl, hb⟩))
  go_ret2
  exact ⟨rfl, hb, Wo.hbl HC hb⟩
theorem len_weeksL : weeksL.length = 13 := rfl
theorem small_weeksL : ∀ x ∈ weeksL, x.size ≤ 1000 := by decide +kernel
/-- word.Week -/
theorem wWeek_s {W0 w : World} (s : ByteArray) (r1 r2 : Int) (hr : Hid (Wd.fnd (wl weeksL) (Wd.low s.data.toList) = (r1, r2))) (HC : Hid (Wo W0 w)) : Calls Tryd.prog 15 #[.string s] w fun e w' => e = .returned (.tuple #[.int .i64 r1, .int .i64 r2]) ∧ Below w.heap.size w w' ∧ Hid (Wo W0 w') := by
  have HT := Lib.hid HC.out.2.weeks
  go_enter Tryd.func15, Tryd.ntmps15
  go_wp2_with (first | (refine wpList_load13 weeksL len_weeksL rfl _ rfl _ rfl HT.out ?_) | (go_at_call 26; refine (meant_any s weeksL len_weeksL small_weeksL r1 r2 hr _).mono ?_; rintro e w1 ⟨rfl, hb⟩))
  go_ret2
  exact ⟨rfl, hb, Wo.hbl HC hb⟩
theorem len_yearsL : yearsL.length = 13 := rfl
theorem small_yearsL : ∀ x ∈ yearsL, x.size ≤ 1000 := by decide +kernel
/-- word.To -/
theorem wTo_s {W0 w : World} (s : ByteArray) (r1 r2 : Int) (hr : Hid (Wd.fnd (wl yearsL) (Wd.low s.data.toList) = (r1, r2))) (HC : Hid (Wo W0 w)) : Calls Tryd.prog 17 #[.string s] w fun e w' => e = .returned (.tuple #[.int .i64 r1, .int .i64 r2]) ∧ Below w.heap.size w w' ∧ Hid (Wo W0 w') := by
  have HT := Lib.hid HC.out.2.years
  go_enter Tryd.func17, Tryd.ntmps17
  go_wp2_with (first | (refine wpList_load13 yearsL len_yearsL rfl _ rfl _ rfl HT.out ?_) | (go_at_call 26; refine (meant_any s yearsL len_yearsL small_yearsL r1 r2 hr _).mono ?_; rintro e w1 ⟨rfl, hb⟩))
  go_ret2
  exact ⟨rfl, hb, Wo.hbl HC hb⟩
end Go.Proofs.YtiompmplnmkakaaDoor
