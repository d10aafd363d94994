/- Plain facts on words that can be cut off: small letters, beginnings, the words that have a beginning, and the number that a string means. No function of the program is named. -/
import Derived.Test.YtedcfnaphfgfjaaDoorKit
namespace Go.Proofs.YtedcfnaphfgfjaaDoor
namespace Wd
/-- the small letter of a byte -/
def sm (c : Nat) : Nat := if Nat.ble 65 c && Nat.ble c 90 then c + 32 else c
def low (s : List UInt8) : List Nat := s.map fun c => sm c.toNat
def nats (s : List UInt8) : List Nat := s.map UInt8.toNat
/-- a list is the beginning of another one -/
def pre : List Nat → List Nat → Bool
  | [], _ => true
  | _ :: _, [] => false
  | a :: s, b :: w => Nat.beq a b && pre s w
/-- the numbers below k of the words that have a beginning -/
def hits (W : List (List Nat)) (s : List Nat) : Nat → List Nat
  | 0 => []
  | k + 1 => hits W s k ++ (if pre s (W.getD k []) then [k] else [])
/-- the one number, if it is one -/
def one : List Nat → Int × Int
  | [n] => (n, 0)
  | _ => (0, 8)
def fnd (W : List (List Nat)) : List Nat → Int × Int
  | [] => (0, 8)
  | s => one (hits W s 13)
theorem sm_lt (c : Nat) (h : c < 256) : sm c < 256 := by
  unfold sm
  split
  · rename_i h2
    simp only [Bool.and_eq_true, Nat.ble_eq] at h2
    omega
  · exact h
theorem sm_no (c : Nat) (h : ¬ (65 ≤ c ∧ c ≤ 90)) : sm c = c := by
  unfold sm
  rw [if_neg (by simpa only [Bool.and_eq_true, Nat.ble_eq] using h)]
theorem sm_yes (c : Nat) (h : 65 ≤ c ∧ c ≤ 90) : sm c = c + 32 := by
  unfold sm
  rw [if_pos (by simpa only [Bool.and_eq_true, Nat.ble_eq] using h)]
theorem pre_len : ∀ (s w : List Nat), pre s w = true → s.length ≤ w.length
  | [], _, _ => Nat.zero_le _
  | _ :: _, [], h => by cases h
  | a :: s, b :: w, h => by
    simp only [pre, Bool.and_eq_true] at h
    have := pre_len s w h.2
    simp only [List.length_cons]
    omega
theorem pre_long (s w : List Nat) (h : w.length < s.length) : pre s w = false := by
  cases e : pre s w with
  | false => rfl
  | true => have := pre_len s w e; omega
/-- a step of the comparison -/
theorem pre_step (s w : List Nat) (k : Nat) (a b : Nat) (ha : s[k]? = some a) (hb : w[k]? = some b) : pre (s.drop k) (w.drop k) = (Nat.beq a b && pre (s.drop (k + 1)) (w.drop (k + 1))) := by
  obtain ⟨h1, rfl⟩ := List.getElem?_eq_some_iff.1 ha
  obtain ⟨h2, rfl⟩ := List.getElem?_eq_some_iff.1 hb
  rw [List.drop_eq_getElem_cons h1, List.drop_eq_getElem_cons h2]
  rfl
theorem pre_done (s w : List Nat) (k : Nat) (h : s.length ≤ k) : pre (s.drop k) (w.drop k) = true := by
  rw [List.drop_eq_nil_of_le h]; cases w.drop k <;> rfl
theorem pre_take : ∀ (s w : List Nat), pre s w = true → s = w.take s.length
  | [], _, _ => rfl
  | _ :: _, [], h => by cases h
  | a :: s, b :: w, h => by
    simp only [pre, Bool.and_eq_true, Nat.beq_eq] at h
    obtain ⟨rfl, h⟩ := h
    simp only [List.length_cons, List.take_succ_cons]
    rw [← pre_take s w h]
theorem hits_lt (W : List (List Nat)) (s : List Nat) : ∀ k n, n ∈ hits W s k → n < k
  | 0, n, h => by cases h
  | k + 1, n, h => by
    simp only [hits, List.mem_append] at h
    rcases h with h | h
    · have := hits_lt W s k n h; omega
    · split at h
      · have := List.mem_singleton.1 h; omega
      · cases h
theorem low_at (s : ByteArray) (k : Nat) (h : k < s.size) : (low s.data.toList)[k]? = some (sm s[k].toNat) := by
  have e : s.data.toList[k]? = some s[k] := by
    rw [Array.getElem?_toList]
    exact Array.getElem?_eq_getElem h
  simp only [low, List.getElem?_map, e, Option.map_some]
theorem nats_at (s : ByteArray) (k : Nat) (h : k < s.size) : (nats s.data.toList)[k]? = some s[k].toNat := by
  have e : s.data.toList[k]? = some s[k] := by
    rw [Array.getElem?_toList]
    exact Array.getElem?_eq_getElem h
  simp only [nats, List.getElem?_map, e, Option.map_some]
theorem low_len (s : ByteArray) : (low s.data.toList).length = s.size := by rw [low, List.length_map, Array.length_toList]; rfl
theorem nats_len (s : ByteArray) : (nats s.data.toList).length = s.size := by rw [nats, List.length_map, Array.length_toList]; rfl
/-- all beginnings of the words of a list -/
def allp (W : List (List Nat)) : List (List Nat) := W.flatMap fun w => (List.range (w.length + 1)).map fun k => w.take k
/-- what holds of all beginnings, and of all that is no beginning, holds of all -/
theorem by_pre (W : List (List Nat)) (P : List Nat → Prop) (hp : ∀ s ∈ allp W, P s) (hn : ∀ s, (∀ w ∈ W, pre s w = false) → P s) (s : List Nat) : P s := by
  by_cases h : ∃ w ∈ W, pre s w = true
  · obtain ⟨w, hw, h⟩ := h
    refine hp s (List.mem_flatMap.2 ⟨w, hw, ?_⟩)
    have := pre_len s w h
    exact List.mem_map.2 ⟨s.length, List.mem_range.2 (by omega), (pre_take s w h).symm⟩
  · refine hn s fun w hw => ?_
    cases e : pre s w with
    | false => rfl
    | true => exact absurd ⟨w, hw, e⟩ h
theorem hits_no (W : List (List Nat)) (s : List Nat) (h : ∀ w ∈ W, pre s w = false) (hs : s ≠ []) : ∀ k, hits W s k = []
  | 0 => rfl
  | k + 1 => by
    rw [hits, hits_no W s h hs k]
    have : pre s (W.getD k []) = false := by
      by_cases hk : k < W.length
      · rw [List.getD_eq_getElem?_getD, List.getElem?_eq_getElem hk]
        exact h _ (List.getElem_mem hk)
      · rw [List.getD_eq_getElem?_getD, List.getElem?_eq_none (by omega)]
        cases s with
        | nil => exact absurd rfl hs
        | cons a s => rfl
    rw [this]
    rfl
theorem fnd_no (W : List (List Nat)) (s : List Nat) (h : ∀ w ∈ W, pre s w = false) : fnd W s = (0, 8) := by
  cases s with
  | nil => rfl
  | cons a s => show one (hits W (a :: s) 13) = _; rw [hits_no W _ h (by simp)]; rfl
end Wd
end Go.Proofs.YtedcfnaphfgfjaaDoor
