/- The contracts of package word: Line, Month, Week, To, MonthText, WeekText. -/
import Derived.Test.YtedcfnaphfgfjaaDoorWdc
import Derived.Test.YtedcfnaphfgfjaaDoorShelf
import Derived.Deep.RegionHeld3
import Derived.Deep.CutBlock
namespace Go.Proofs.YtedcfnaphfgfjaaDoor
open Go.RowKit Go.Shelf
def linesL : List ByteArray := [⟨#[]⟩, ⟨#[114, 117, 108, 101]⟩, ⟨#[122, 111, 110, 101]⟩, ⟨#[108, 105, 110, 107]⟩, ⟨#[115, 104, 105, 102, 116]⟩, ⟨#[]⟩, ⟨#[]⟩, ⟨#[]⟩, ⟨#[]⟩, ⟨#[]⟩, ⟨#[]⟩, ⟨#[]⟩, ⟨#[]⟩]
def monthsL : List ByteArray := [⟨#[]⟩, ⟨#[106, 97, 110, 117, 97, 114, 121]⟩, ⟨#[102, 101, 98, 114, 117, 97, 114, 121]⟩, ⟨#[109, 97, 114, 99, 104]⟩, ⟨#[97, 112, 114, 105, 108]⟩, ⟨#[109, 97, 121]⟩, ⟨#[106, 117, 110, 101]⟩, ⟨#[106, 117, 108, 121]⟩, ⟨#[97, 117, 103, 117, 115, 116]⟩, ⟨#[115, 101, 112, 116, 101, 109, 98, 101, 114]⟩, ⟨#[111, 99, 116, 111, 98, 101, 114]⟩, ⟨#[110, 111, 118, 101, 109, 98, 101, 114]⟩, ⟨#[100, 101, 99, 101, 109, 98, 101, 114]⟩]
def weeksL : List ByteArray := [⟨#[115, 117, 110, 100, 97, 121]⟩, ⟨#[109, 111, 110, 100, 97, 121]⟩, ⟨#[116, 117, 101, 115, 100, 97, 121]⟩, ⟨#[119, 101, 100, 110, 101, 115, 100, 97, 121]⟩, ⟨#[116, 104, 117, 114, 115, 100, 97, 121]⟩, ⟨#[102, 114, 105, 100, 97, 121]⟩, ⟨#[115, 97, 116, 117, 114, 100, 97, 121]⟩, ⟨#[]⟩, ⟨#[]⟩, ⟨#[]⟩, ⟨#[]⟩, ⟨#[]⟩, ⟨#[]⟩]
def yearsL : List ByteArray := [⟨#[]⟩, ⟨#[111, 110, 108, 121]⟩, ⟨#[109, 97, 120, 105, 109, 117, 109]⟩, ⟨#[]⟩, ⟨#[]⟩, ⟨#[]⟩, ⟨#[]⟩, ⟨#[]⟩, ⟨#[]⟩, ⟨#[]⟩, ⟨#[]⟩, ⟨#[]⟩, ⟨#[]⟩]
theorem len_linesL : linesL.length = 13 := rfl
theorem small_linesL : ∀ x ∈ linesL, x.size ≤ 1000 := by decide +kernel
theorem len_monthsL : monthsL.length = 13 := rfl
theorem small_monthsL : ∀ x ∈ monthsL, x.size ≤ 1000 := by decide +kernel
theorem len_weeksL : weeksL.length = 13 := rfl
theorem small_weeksL : ∀ x ∈ weeksL, x.size ≤ 1000 := by decide +kernel
theorem len_yearsL : yearsL.length = 13 := rfl
theorem small_yearsL : ∀ x ∈ yearsL, x.size ≤ 1000 := by decide +kernel
end Go.Proofs.YtedcfnaphfgfjaaDoor
