/- The contracts of the document's own answers for layer 1: each returns what the calendar of XCal says. -/
import Derived.Test.YtedcfnaphfgfjaaDoorCivil
namespace Go.Proofs.YtedcfnaphfgfjaaDoor
open Go.RowKit

/-- the length of a month, by its number -/
theorem len_31 (y m : Int) (h : m = 1 ∨ m = 3 ∨ m = 5 ∨ m = 7 ∨ m = 8 ∨ m = 10 ∨ m = 12) : Cal.len y m = 31 := by
  rcases h with h | h | h | h | h | h | h <;> subst h <;> simp [Cal.len, Cal.tab]
theorem len_30 (y m : Int) (h : m = 4 ∨ m = 6 ∨ m = 9 ∨ m = 11) : Cal.len y m = 30 := by
  rcases h with h | h | h | h <;> subst h <;> simp [Cal.len, Cal.tab]
theorem len_2 (y : Int) : Cal.len y 2 = 28 + Cal.lp y := by simp [Cal.len, Cal.tab]
/-- the days of a year that are in front of a month, year by year: the loops' relations -/
def YsIs (n y : Int) : Prop := n = Cal.ys y
def RestIs (n y r : Int) : Prop := r = n - Cal.ys y
def MonIs (n y m r : Int) : Prop := r = n - Cal.ys y - Cal.cum y m
end Go.Proofs.YtedcfnaphfgfjaaDoor
