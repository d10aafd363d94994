/- The contracts of word.text, MonthText, WeekText. -/
import Derived.Test.YtedcfnaphfgfjaaDoorWde
namespace Go.Proofs.YtedcfnaphfgfjaaDoor
open Go.RowKit Go.Shelf
theorem text_no (n : Int) (h : n < 0 ∨ 13 ≤ n) (L : List ByteArray) (w : World) : Calls Tryd.prog 45 #[.int .i64 n, .agg (strV L).toArray] w fun e w' => e = .returned (.string ⟨#[]⟩) ∧ Below w.heap.size w w' := by
  rcases h with h | h
  · go_enter Tryd.func45, Tryd.ntmps45
    go_wp2
    go_ret
    exact ⟨rfl, (Below.refl _ w).alloc (Nat.le_refl _) _⟩
  · have h0 : ¬ n < 0 := by omega
    go_enter Tryd.func45, Tryd.ntmps45
    go_wp2
    go_ret
    exact ⟨rfl, (Below.refl _ w).alloc (Nat.le_refl _) _⟩
theorem text_empty (n : Nat) (hn : n < 13) (L : List ByteArray) (hx : L[n]? = some ⟨#[]⟩) (w : World) : Calls Tryd.prog 45 #[.int .i64 (n : Int), .agg (strV L).toArray] w fun e w' => e = .returned (.string ⟨#[]⟩) ∧ Below w.heap.size w w' := by
  have c0 := (Cs.new w (strV L) 79).at n (strV_at L n _ hx)
  have h0 : (0 : Int) ≤ (n : Int) := by omega
  have h1 : ¬ (13 : Int) ≤ (n : Int) := by omega
  have h2 : (n : Int) < 13 := by omega
  have he : (⟨#[]⟩ : ByteArray).toList.isEmpty = true := by rw [isEmpty_of]; rfl
  clear hx hn
  go_enter Tryd.func45, Tryd.ntmps45
  go_wp2
  go_ret
  exact ⟨rfl, (Below.refl _ w).alloc (Nat.le_refl _) _⟩
theorem ext_size (x : ByteArray) (a b : Nat) (h : b ≤ x.size) : (x.extract a b).size = b - a := by
  rw [ByteArray.size_extract]; omega
theorem text_yes (n : Nat) (hn : n < 13) (L : List ByteArray) (x : ByteArray) (hx : L[n]? = some x) (hs : 3 ≤ x.size ∧ x.size ≤ 1000) (ha : ∀ (j : Nat) (b : UInt8), (x.extract 0 1).data.toList[j]? = some b → b.toNat < 128) (S : ByteArray)
    (hS : Hid ((⟨(Lib.toUpperA (x.extract 0 1).data.toList).toArray⟩ : ByteArray) ++ x.extract 1 3 = S)) (w : World) :
    Calls Tryd.prog 45 #[.int .i64 (n : Int), .agg (strV L).toArray] w fun e w' => e = .returned (.string S) ∧ Below w.heap.size w w' := by
  have c0 := (Cs.new w (strV L) 79).at n (strV_at L n _ hx)
  have h0 : (0 : Int) ≤ (n : Int) := by omega
  have h1 : ¬ (13 : Int) ≤ (n : Int) := by omega
  have h2 : (n : Int) < 13 := by omega
  obtain ⟨hs1, hs2⟩ := hs
  have he : x.toList.isEmpty = false := by
    rw [isEmpty_of, List.isEmpty_eq_false_iff]
    intro e
    have : x.data.toList.length = x.size := by rw [Array.length_toList]; rfl
    rw [e] at this
    simp at this
    omega
  have q1 : (1 : Int) ≤ (x.size : Int) := by omega
  have q3 : (3 : Int) ≤ (x.size : Int) := by omega
  have hz1 := ext_size x 0 1 (by omega)
  have hz2 := ext_size x 1 3 (by omega)
  have hup : ∀ wx : World, Calls Tryd.prog 15 #[.string (x.extract 0 1)] wx fun e w' => e = .returned (.string ⟨(Lib.toUpperA (x.extract 0 1).data.toList).toArray⟩) ∧ Below wx.heap.size wx w' := fun wx => Tryd.strings_ToUpper_ascii _ wx (by omega) ha
  have hA : (⟨(Lib.toUpperA (x.extract 0 1).data.toList).toArray⟩ : ByteArray).size = 1 := by
    show (Lib.toUpperA (x.extract 0 1).data.toList).toArray.size = 1
    rw [List.size_toArray, Lib.toUpperA, List.length_map, Array.length_toList]
    exact hz1
  generalize (⟨(Lib.toUpperA (x.extract 0 1).data.toList).toArray⟩ : ByteArray) = U at *
  have hsum2 : ¬ 9223372036854775807 < U.size + (x.extract 1 3).size := by omega
  have hsum3 : ¬ 9223372036854775807 < U.size + (min 3 x.size - 1) := by omega
  have HU := Lib.hid hup
  have HC := Bs.hal (Lib.hid (Bs.mk0 w)) (.cells (strV L).toArray 79)
  clear hx hn ha hup hz1 hz2 hA hs1 hs2
  go_enter Tryd.func45, Tryd.ntmps45
  go_wp2_with fail
  clear c0
  generalize w.alloc (.cells (strV L).toArray 79) = w2 at *
  replace HC := Bs.hdr HC
  go_region_held3 (fun w' => Bs w w') (first | exact HC.out)
    (first | (go_at_call 15; refine (HU.out _).mono ?_; rintro e w3 ⟨rfl, hb⟩; replace HC := Bs.hbl HC hb; clear hb))
  go_wp2
  rw [hS.out]
  go_ret
  exact ⟨rfl, HC.out⟩
/-- the short word with a number -/
def txt (L : List ByteArray) (n : Int) : ByteArray :=
  if 0 ≤ n ∧ n < 13 then (match (L.getD n.toNat ⟨#[]⟩).data.toList with | a :: b :: c :: _ => ⟨#[Lib.upperB a, b, c]⟩ | _ => ⟨#[]⟩) else ⟨#[]⟩
def okw (x : ByteArray) : Bool := match x.data.toList with | [] => true | a :: _ :: _ :: _ => decide (a.toNat < 128) && decide (x.size ≤ 1000) | _ => false
theorem bs_of {a : ByteArray} {l : List UInt8} (h : a.data.toList = l) : a = ⟨l.toArray⟩ := by subst h; rfl
theorem text_any (L : List ByteArray) (hL : L.length = 13) (hw : ∀ x ∈ L, okw x = true) (n : Int) (S : ByteArray) (hS : Hid (txt L n = S)) (w : World) :
    Calls Tryd.prog 45 #[.int .i64 n, .agg (strV L).toArray] w fun e w' => e = .returned (.string S) ∧ Below w.heap.size w w' := by
  have h := hS.out
  unfold txt at h
  by_cases hn : 0 ≤ n ∧ n < 13
  · rw [if_pos hn] at h
    obtain ⟨k, rfl⟩ : ∃ k : Nat, n = k := ⟨n.toNat, by omega⟩
    have hk : k < 13 := by omega
    have hx : L[k]? = some (L[k]'(by omega)) := List.getElem?_eq_getElem (by omega)
    have ho := hw _ (List.getElem_mem (show k < L.length by omega))
    generalize L[k]'(by omega) = x at *
    have hg : L.getD (k : Int).toNat ⟨#[]⟩ = x := by rw [Int.toNat_natCast, List.getD_eq_getElem?_getD, hx]; rfl
    rw [hg] at h
    clear hg hS hw hn
    unfold okw at ho
    match hd : x.data.toList, ho, h with
    | [], _, h =>
      have := bs_of hd
      subst this
      subst h
      exact text_empty k hk L hx w
    | a :: b :: c :: r, ho, h =>
      simp only [Bool.and_eq_true, decide_eq_true_eq] at ho
      have hsz : x.size = (a :: b :: c :: r).length := by rw [← hd, Array.length_toList]; rfl
      have e1 : (x.extract 0 1).data.toList = [a] := by rw [Lib.extract_data, hd]; rfl
      have e2 : (x.extract 1 3).data.toList = [b, c] := by rw [Lib.extract_data, hd]; rfl
      refine text_yes k hk L x hx ⟨by rw [hsz]; simp, ho.2⟩ ?_ S ?_ w
      · rw [e1]
        intro j y hy
        match j, hy with
        | 0, hy => obtain rfl : a = y := by simpa using hy
                   exact ho.1
        | j + 1, hy => simp at hy
      · refine Lib.hid ?_
        rw [e1, bs_of e2, ← h]
        rfl
  · rw [if_neg hn] at h
    subst h
    exact text_no n (by omega) L w
theorem okw_monthsL : ∀ x ∈ monthsL, okw x = true := by decide +kernel
theorem okw_weeksL : ∀ x ∈ weeksL, okw x = true := by decide +kernel
end Go.Proofs.YtedcfnaphfgfjaaDoor
