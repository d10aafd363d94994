/- Plain facts for DayspecWords: words, cut off, and their strings. -/
import Derived.Test.YtedcfnaphfgfjaaDoorDym
import Derived.Test.YtedcfnaphfgfjaaDoorDyz
import Derived.Test.YtedcfnaphfgfjaaDoorDyw
import Derived.Test.YtedcfnaphfgfjaaDoorDyv
import Derived.Lib.ConvBytes
import Derived.Deep.CutBlock
import Derived.Deep.DeepCutAuto
import Derived.BigRegion
namespace Go.Proofs.YtedcfnaphfgfjaaDoor
open Go.RowKit Go.Shelf
theorem below_bytes (w : World) (e : TypeId) (s : ByteArray) : Below w.heap.size w (Lib.bytesWorld w e s) :=
  ⟨rfl, rfl, rfl, by rw [Lib.bytesWorld_size]; omega, fun b hb => Lib.bytesWorld_at_old w e s b hb⟩
theorem sub32 (c : UInt8) (h : 97 ≤ c.toNat) : ((c - 32).toNat : Int) = (c.toNat : Int) - 32 := by
  rw [UInt8.toNat_sub_of_le _ _ (by rw [UInt8.le_iff_toNat_le]; exact Nat.le_trans (by decide) h)]
  show ((c.toNat - 32 : Nat) : Int) = _
  omega
theorem low_set (T : List UInt8) (k : Nat) (c : UInt8) (h : T[k]? = some c) (h1 : 97 ≤ c.toNat) (h2 : c.toNat ≤ 122) : Wd.low (T.set k (c - 32)) = Wd.low T := by
  have hd := sub32 c h1
  have e : Wd.sm (c - 32).toNat = Wd.sm c.toNat := by
    rw [Wd.sm_yes _ (by omega), Wd.sm_no _ (by omega)]
    omega
  apply List.ext_getElem?
  intro j
  simp only [Wd.low, List.getElem?_map]
  by_cases hj : j = k
  · subst hj
    rw [List.getElem?_set_self (List.getElem?_eq_some_iff.1 h).1, h]
    simp only [Option.map_some, e]
  · rw [List.getElem?_set_ne (fun h => hj h.symm)]
/-- the words, and how many letters are asked at least -/
def wdB : Nat → ByteArray
  | 0 => ⟨#[115, 117, 110, 100, 97, 121]⟩
  | 1 => ⟨#[109, 111, 110, 100, 97, 121]⟩
  | 2 => ⟨#[116, 117, 101, 115, 100, 97, 121]⟩
  | 3 => ⟨#[119, 101, 100, 110, 101, 115, 100, 97, 121]⟩
  | 4 => ⟨#[116, 104, 117, 114, 115, 100, 97, 121]⟩
  | 5 => ⟨#[102, 114, 105, 100, 97, 121]⟩
  | _ => ⟨#[115, 97, 116, 117, 114, 100, 97, 121]⟩
def lsB (w : Nat) : Nat := if w % 2 = 0 then 2 else 1
theorem w_split (w : Nat) (h : w < 7) : w = 0 ∨ w = 1 ∨ w = 2 ∨ w = 3 ∨ w = 4 ∨ w = 5 ∨ w = 6 := by omega
/-- the day of a form by numbers -/
def dayW (kk D : Nat) : Nat := if kk = 0 then 0 else 1 + D
/-- the string, before letters are made capital ones -/
def strW (w q kk D : Nat) : List UInt8 :=
  if kk = 0 then [108, 97, 115, 116] ++ (wdB w).data.toList.take (lsB w + q) else if kk = 1 then ((wdB w).data.toList.take (lsB w + q) ++ [62, 61]) ++ dcl (dayW kk D) else ((wdB w).data.toList.take (lsB w + q) ++ [60, 61]) ++ dcl (dayW kk D)
theorem words_all : ((List.range 7).all fun w => (List.range ((wdB w).size - lsB w + 1)).all fun q => (List.range 3).all fun kk => (List.range 31).all fun D => decide (Dy.parse (strW w q kk D) = ((((kk + 2 : Nat) : Int), ((w : Nat) : Int), ((dayW kk D : Nat) : Int)), 0)) && (strW w q kk D).all fun c => Nat.blt c.toNat 128) = true := by decide +kernel
theorem words_at (w q kk D : Nat) (hw : w < 7) (hq : q ≤ (wdB w).size - lsB w) (hk : kk < 3) (hD : D < 31) : Dy.parse (strW w q kk D) = ((((kk + 2 : Nat) : Int), ((w : Nat) : Int), ((dayW kk D : Nat) : Int)), 0) ∧ ∀ c ∈ strW w q kk D, c.toNat < 128 := by
  have h1 := List.all_eq_true.1 words_all w (List.mem_range.2 hw)
  have h2 := List.all_eq_true.1 h1 q (List.mem_range.2 (by omega))
  have h3 := List.all_eq_true.1 h2 kk (List.mem_range.2 hk)
  have h4 := List.all_eq_true.1 h3 D (List.mem_range.2 hD)
  rw [Bool.and_eq_true] at h4
  exact ⟨of_decide_eq_true h4.1, fun c hc => by have := List.all_eq_true.1 h4.2 c hc; simpa using this⟩
theorem one_all : ((List.range 7).all fun w => decide (lsB w ≠ 2 ∨ Dy.parse ([108, 97, 115, 116] ++ (wdB w).data.toList.take 1) = ((0, 0, 0), 8))) = true := by decide +kernel
theorem one_at (w : Nat) (hw : w < 7) (h : lsB w = 2) : Dy.parse ([108, 97, 115, 116] ++ (wdB w).data.toList.take 1) = ((0, 0, 0), 8) := by
  have h1 := of_decide_eq_true (List.all_eq_true.1 one_all w (List.mem_range.2 hw))
  exact h1.resolve_left (fun e => e h)
theorem wd_sizes : ∀ w : Nat, w < 7 → 6 ≤ (wdB w).size ∧ (wdB w).size ≤ 9 := by decide +kernel
theorem trim_two : ∀ d : Nat, d < 32 → Lib.trimPrefix [48, UInt8.ofNat (48 + d / 10), UInt8.ofNat (48 + d % 10)] [48] = [UInt8.ofNat (48 + d / 10), UInt8.ofNat (48 + d % 10)] ∧ Lib.trimPrefix [UInt8.ofNat (48 + d / 10), UInt8.ofNat (48 + d % 10)] [48] = dcl d := by decide +kernel
theorem low_setU (T : List UInt8) (k : Nat) (c : UInt8) (h : T[k]? = some c) (h1 : c.toNat < 128) : Wd.low (T.set k (Lib.upperB c)) = Wd.low T := by
  have e : Wd.sm (Lib.upperB c).toNat = Wd.sm c.toNat := by
    have : ∀ n : Nat, n < 128 → Wd.sm (Lib.upperB (UInt8.ofNat n)).toNat = Wd.sm (UInt8.ofNat n).toNat := by decide +kernel
    have h2 := this c.toNat h1
    rwa [UInt8.ofNat_toNat] at h2
  apply List.ext_getElem?
  intro j
  simp only [Wd.low, List.getElem?_map]
  by_cases hj : j = k
  · subst hj
    rw [List.getElem?_set_self (List.getElem?_eq_some_iff.1 h).1, h]
    simp only [Option.map_some, e]
  · rw [List.getElem?_set_ne (fun h => hj h.symm)]
theorem upper_lt (c : UInt8) (h : c.toNat < 128) : (Lib.upperB c).toNat < 128 := by
  have : ∀ n : Nat, n < 128 → (Lib.upperB (UInt8.ofNat n)).toNat < 128 := by decide +kernel
  have h2 := this c.toNat h
  rwa [UInt8.ofNat_toNat] at h2
theorem set_lt (T : List UInt8) (k : Nat) (d : UInt8) (h : ∀ c ∈ T, c.toNat < 128) (hd : d.toNat < 128) : ∀ c ∈ T.set k d, c.toNat < 128 := by
  intro c hc
  rcases List.mem_or_eq_of_mem_set hc with h1 | rfl
  · exact h c h1
  · exact hd
theorem strW_len (w q kk D : Nat) : (strW w q kk D).length ≤ lsB w + q + 4 := by
  have hd : ∀ n : Nat, (dcl n).length ≤ 2 := fun n => by
    unfold dcl
    split
    · show 1 ≤ 2; omega
    · show 2 ≤ 2; omega
  have h2 := hd (dayW kk D)
  unfold strW
  split
  · simp only [List.length_append, List.length_take, List.length_cons, List.length_nil]; omega
  · split
    · simp only [List.length_append, List.length_take, List.length_cons, List.length_nil]; omega
    · simp only [List.length_append, List.length_take, List.length_cons, List.length_nil]; omega
theorem two_data (a b : ByteArray) : (a ++ b).data.toList = a.data.toList ++ b.data.toList := by simp
theorem wLst_at (w : Nat) (h : w < 7) : ([.string ⟨#[115, 117, 110, 100, 97, 121]⟩, .string ⟨#[109, 111, 110, 100, 97, 121]⟩, .string ⟨#[116, 117, 101, 115, 100, 97, 121]⟩, .string ⟨#[119, 101, 100, 110, 101, 115, 100, 97, 121]⟩, .string ⟨#[116, 104, 117, 114, 115, 100, 97, 121]⟩, .string ⟨#[102, 114, 105, 100, 97, 121]⟩, .string ⟨#[115, 97, 116, 117, 114, 100, 97, 121]⟩] : List Value)[w]'h = .string (wdB w) := by
  rcases w_split w h with rfl | rfl | rfl | rfl | rfl | rfl | rfl <;> rfl
theorem lLst_at (w : Nat) (h : w < 7) : ([.int .i64 2, .int .i64 1, .int .i64 2, .int .i64 1, .int .i64 2, .int .i64 1, .int .i64 2] : List Value)[w]'h = .int .i64 (lsB w : Int) := by
  rcases w_split w h with rfl | rfl | rfl | rfl | rfl | rfl | rfl <;> rfl
end Go.Proofs.YtedcfnaphfgfjaaDoor
