/- Day forms in plain numbers: which are right, and which day they mean. No program in sight. -/
import Derived.Test.YtedcfnaphfgfjaaDoorCal
namespace Go.Proofs.YtedcfnaphfgfjaaDoor.Dfm
/-- the least and greatest numbers of a kind of forms -/
def KW (k : Int) : Int := if k = 1 then 0 else 6
def KL (k : Int) : Int := if k = 2 then 0 else 1
def KM (k : Int) : Int := if k = 2 then 0 else 31
/-- whether a form is right -/
def okD (k wk d : Int) : Bool := decide (1 ≤ k ∧ k ≤ 4 ∧ 0 ≤ wk ∧ wk ≤ KW k ∧ KL k ≤ d ∧ d ≤ KM k)
/-- the last day on or before a day that is a weekday -/
def ob (n wk : Int) : Int := n - (Cal.wd n - wk + 7) % 7
/-- the day that a right form means in a month that has its Day -/
def on (y m k wk d : Int) : Int := if k = 1 then Cal.day y m d else if k = 2 then ob (Cal.day y m (Cal.len y m)) wk else if k = 3 then ob (Cal.day y m d + 6) wk else ob (Cal.day y m d) wk
/-- the error of On: 0, or why not -/
def er (y m k wk d : Int) : Int := if Cal.okB y m 1 = false then 3 else if okD k wk d = false then 2 else if Cal.len y m < d then 4 else 0
/-- the first result of On -/
def va (y m k wk d : Int) : Int := if er y m k wk d = 0 then on y m k wk d else 0
/-- whether a form means a day in each of some years -/
def al (a b m k wk d : Int) : Bool := decide (1 ≤ m ∧ m ≤ 12) && okD k wk d && (decide (b < 1048576 ∧ b < a) || decide (d ≤ Cal.len (if 1048576 ≤ b ∨ a < b then 1 else a) m))
theorem okD_iff (k wk d : Int) : okD k wk d = true ↔ (1 ≤ k ∧ k ≤ 4 ∧ 0 ≤ wk ∧ wk ≤ KW k ∧ KL k ≤ d ∧ d ≤ KM k) := by simp [okD]
theorem K_bd (k : Int) : (KW k = 0 ∨ KW k = 6) ∧ (KL k = 0 ∨ KL k = 1) ∧ (KM k = 0 ∨ KM k = 31) := by unfold KW KL KM; refine ⟨?_, ?_, ?_⟩ <;> split <;> simp
theorem ok_bd (k wk d : Int) (h : okD k wk d = true) : 1 ≤ k ∧ k ≤ 4 ∧ 0 ≤ wk ∧ wk ≤ 6 ∧ 0 ≤ d ∧ d ≤ 31 := by
  rw [okD_iff] at h; have := K_bd k; omega
theorem ob_wd (n wk : Int) (h : 0 ≤ wk ∧ wk ≤ 6) : Cal.wd (ob n wk) = wk ∧ ob n wk ≤ n ∧ n - 7 < ob n wk := by unfold ob Cal.wd; omega
/-- there is one day of a weekday among seven -/
theorem ob_uniq (n x wk : Int) (hx : Cal.wd x = wk) (h1 : x ≤ n) (h2 : n - 7 < x) : ob n wk = x := by unfold ob; unfold Cal.wd at *; omega
theorem day_lin (y m d : Int) : Cal.day y m d = Cal.day y m 1 + (d - 1) := by unfold Cal.day; omega
theorem ok1 (y m : Int) : Cal.okB y m 1 = true ↔ (-2000000000 ≤ y ∧ y ≤ 2000000000 ∧ 1 ≤ m ∧ m ≤ 12) := by
  constructor
  · intro h; have := Cal.ok_m y m 1 h; rw [Cal.okB_iff] at h; omega
  · intro h; rw [Cal.okB_iff]; have := Cal.len_bd y m ⟨h.2.2.1, h.2.2.2⟩; omega
theorem day1_bd (y m : Int) (h : Cal.okB y m 1 = true) : -730485719528 ≤ Cal.day y m 1 ∧ Cal.day y m 1 ≤ 730484280837 := Cal.day_in y m 1 h
/-- the form of a draft, and the year of a number -/
def mK (K : Int) : Int := K % 4 + 1
def mW (K W : Int) : Int := if K % 4 = 0 then 0 else W % 7
def mD (K D : Int) : Int := if K % 4 = 1 then 0 else 1 + D % 31
def cl (y : Int) : Int := if y < -2000000000 then -2000000000 else if 2000000000 < y then 2000000000 else y
theorem cl_bd (y : Int) : -2000000000 ≤ cl y ∧ cl y ≤ 2000000000 := by unfold cl; split <;> (try split) <;> omega
theorem made_ok (K W D : Int) : okD (mK K) (mW K W) (mD K D) = true := by
  have h : K % 4 = 0 ∨ K % 4 = 1 ∨ K % 4 = 2 ∨ K % 4 = 3 := by omega
  rw [okD_iff]
  rcases h with h | h | h | h <;> simp [mK, mW, mD, KW, KL, KM, h] <;> omega
end Go.Proofs.YtedcfnaphfgfjaaDoor.Dfm
