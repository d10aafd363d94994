/- Day forms as strings, in plain lists: the first operator, numbers of days, last in letters of any size, how a string is read. -/
import Derived.Test.YtedcfnaphfgfjaaDoorWdc
import Derived.Lib.DecodeN
import Derived.Lib.MapLaws
namespace Go.Proofs.YtedcfnaphfgfjaaDoor
namespace Dy
def sgn : List UInt8 → Option Nat
  | [] => none
  | c :: l => if Nat.beq c.toNat 60 || Nat.beq c.toNat 62 then some 0 else (sgn l).map (· + 1)
/-- where an operator stands, and its kind -/
def opr (l : List UInt8) : Option (Nat × Nat) :=
  match sgn l with
  | none => none
  | some k => match l[k + 1]? with
    | none => none
    | some c => if Nat.beq c.toNat 61 then (match l[k]? with | some d => if Nat.beq d.toNat 62 then some (k, 3) else some (k, 4) | none => none) else none
def dig (c : UInt8) : Bool := Nat.ble 48 c.toNat && Nat.ble c.toNat 57
/-- the number of a day, or 0 and why not -/
def num : List UInt8 → Int × Int
  | [a] => if dig a && Nat.ble 49 a.toNat then (((a.toNat - 48 : Nat) : Int), 0) else (0, 5)
  | [a, b] => if dig a && Nat.ble 49 a.toNat && dig b then (if Nat.ble (10 * (a.toNat - 48) + (b.toNat - 48)) 31 then (((10 * (a.toNat - 48) + (b.toNat - 48) : Nat) : Int), 0) else (0, 3)) else (0, 5)
  | _ => (0, 5)
def isL : List UInt8 → Bool
  | a :: b :: c :: d :: _ => Nat.beq (Wd.sm a.toNat) 108 && Nat.beq (Wd.sm b.toNat) 97 && Nat.beq (Wd.sm c.toNat) 115 && Nat.beq (Wd.sm d.toNat) 116
  | _ => false
/-- as which kind of forms a string is read, and its two parts -/
def spl (l : List UInt8) : Nat × List UInt8 × List UInt8 :=
  match opr l with
  | some (k, kd) => (kd, l.take k, l.drop (k + 2))
  | none => if isL l then (2, l.drop 4, []) else (1, [], l)
def weeks : List (List Nat) := [[115, 117, 110, 100, 97, 121], [109, 111, 110, 100, 97, 121], [116, 117, 101, 115, 100, 97, 121], [119, 101, 100, 110, 101, 115, 100, 97, 121], [116, 104, 117, 114, 115, 100, 97, 121], [102, 114, 105, 100, 97, 121], [115, 97, 116, 117, 114, 100, 97, 121], [], [], [], [], [], []]
def week (l : List UInt8) : Int × Int := Wd.fnd weeks (Wd.low l)
/-- the form, of its parts -/
def fin (k : Nat) (p q : Int × Int) : (Int × Int × Int) × Int := if p.2 = 0 then (if q.2 = 0 then (((k : Int), p.1, q.1), 0) else ((0, 0, 0), q.2)) else ((0, 0, 0), p.2)
def wk (k : Nat) (l : List UInt8) : Int × Int := if k = 1 then (0, 0) else week l
def nm (k : Nat) (l : List UInt8) : Int × Int := if k = 2 then (0, 0) else num l
def parse (l : List UInt8) : (Int × Int × Int) × Int := fin (spl l).1 (wk (spl l).1 (spl l).2.1) (nm (spl l).1 (spl l).2.2)
theorem sgn_lt : ∀ (l : List UInt8) (k : Nat), sgn l = some k → ∃ c, l[k]? = some c ∧ (c.toNat = 60 ∨ c.toNat = 62) ∧ ∀ (j : Nat) (d : UInt8), j < k → l[j]? = some d → d.toNat ≠ 60 ∧ d.toNat ≠ 62
  | [], _, h => by cases h
  | c :: l, k, h => by
    unfold sgn at h
    split at h
    · rename_i hc
      injection h with h; subst h
      simp only [Bool.or_eq_true, Nat.beq_eq] at hc
      exact ⟨c, rfl, hc, fun j d hj => by omega⟩
    · rename_i hc
      simp only [Bool.or_eq_true, Nat.beq_eq, not_or] at hc
      obtain ⟨m, hm, rfl⟩ := Option.map_eq_some_iff.1 h
      obtain ⟨d, h1, h2, h3⟩ := sgn_lt l m hm
      refine ⟨d, by simpa using h1, h2, fun j e hj he => ?_⟩
      match j, he with
      | 0, he => simp at he; subst he; exact hc
      | j + 1, he => exact h3 j e (by omega) (by simpa using he)
theorem sgn_none : ∀ (l : List UInt8), sgn l = none → ∀ (j : Nat) (d : UInt8), l[j]? = some d → d.toNat ≠ 60 ∧ d.toNat ≠ 62
  | [], _, j, d, h => by simp at h
  | c :: l, h, j, d, hj => by
    unfold sgn at h
    split at h
    · cases h
    · rename_i hc
      simp only [Bool.or_eq_true, Nat.beq_eq, not_or] at hc
      have hm := Option.map_eq_none_iff.1 h
      match j, hj with
      | 0, hj => simp at hj; subst hj; exact hc
      | j + 1, hj => exact sgn_none l hm j d (by simpa using hj)
theorem sgn_hit : ∀ (l : List UInt8) (k : Nat) (c : UInt8), l[k]? = some c → (c.toNat = 60 ∨ c.toNat = 62) → (∀ (j : Nat) (d : UInt8), j < k → l[j]? = some d → d.toNat ≠ 60 ∧ d.toNat ≠ 62) → sgn l = some k
  | [], k, c, h, _, _ => by simp at h
  | x :: l, 0, c, h, hc, _ => by
    simp at h; subst h
    unfold sgn
    rw [if_pos (by simp only [Bool.or_eq_true, Nat.beq_eq]; exact hc)]
  | x :: l, k + 1, c, h, hc, hn => by
    have h0 := hn 0 x (by omega) rfl
    unfold sgn
    rw [if_neg (by simp only [Bool.or_eq_true, Nat.beq_eq, not_or]; exact h0), sgn_hit l k c (by simpa using h) hc (fun j d hj hd => hn (j + 1) d (by omega) (by simpa using hd))]
    rfl
theorem sgn_no (l : List UInt8) (h : ∀ (j : Nat) (d : UInt8), l[j]? = some d → d.toNat ≠ 60 ∧ d.toNat ≠ 62) : sgn l = none := by
  cases e : sgn l with
  | none => rfl
  | some k =>
    obtain ⟨c, h1, h2, _⟩ := sgn_lt l k e
    have := h k c h1
    omega
/-- the index that IndexAny returns -/
def sgnI (l : List UInt8) : Int := match sgn l with | some k => (k : Int) | none => -1
theorem get_byte (s : ByteArray) (k : Nat) : (s.get! k).toNat = ((s.data.toList[k]?).getD 0).toNat := by
  by_cases h : k < s.size
  · have h1 : s.get! k = s[k]'h := by
      simp [ByteArray.get!, getElem!_pos, h]; rfl
    have h2 : s.data.toList[k]? = some (s[k]'h) := by
      rw [Array.getElem?_toList]; exact Array.getElem?_eq_getElem h
    rw [h1, h2]; rfl
  · have h2 : s.data.toList[k]? = none := List.getElem?_eq_none (by rw [Array.length_toList]; exact Nat.le_of_not_lt h)
    rw [h2]
    have : s.get! k = 0 := by
      simp [ByteArray.get!]
      have h3 : s.data[k]? = none := Array.getElem?_eq_none (Nat.le_of_not_lt h)
      simp [getElem!_def, h3]; rfl
    rw [this]; rfl
/-- what is known of a rune of more than one byte, or of a byte that begins none -/
theorem dec_facts (s : ByteArray) (p : Nat) (h : p < s.size) (hb : 128 ≤ (s[p]'h).toNat) :
    128 ≤ (Utf8.decode s p).1 ∧ (Utf8.decode s p).1 ≤ 1114111 ∧ Utf8.valid (Utf8.decode s p).1 = true ∧ 1 ≤ (Utf8.decode s p).2 ∧ p + (Utf8.decode s p).2 ≤ s.size ∧ ((Utf8.decode s p).1 = 383 → (Utf8.decode s p).2 = 2) ∧
    ∀ (j : Nat) (d : UInt8), p ≤ j → j < p + (Utf8.decode s p).2 → s.data.toList[j]? = some d → 128 ≤ d.toNat := by
  have hat : ∀ j d, s.data.toList[j]? = some d → (s.get! j).toNat = d.toNat := fun j d hd => by rw [get_byte, hd]; rfl
  have h0 : (s.get! p).toNat = (s[p]'h).toNat := hat p _ (by rw [Array.getElem?_toList]; exact Array.getElem?_eq_getElem h)
  rw [Lib.decode_at, h0]
  have hs := Lib.decodeN_shape (s.size - p) (s[p]'h).toNat (s.get! (p + 1)).toNat (s.get! (p + 2)).toNat (s.get! (p + 3)).toNat
  have l0 := (s[p]'h).toNat_lt
  have l1 := (s.get! (p + 1)).toNat_lt
  have l2 := (s.get! (p + 2)).toNat_lt
  have l3 := (s.get! (p + 3)).toNat_lt
  generalize (s[p]'h).toNat = b0 at *
  have hat0 : ∀ d, s.data.toList[p]? = some d → b0 = d.toNat := fun d hd => by rw [← h0]; exact hat p d hd
  have hat1 := fun d => hat (p + 1) d
  have hat2 := fun d => hat (p + 2) d
  have hat3 := fun d => hat (p + 3) d
  generalize (s.get! (p + 1)).toNat = b1 at *
  generalize (s.get! (p + 2)).toNat = b2 at *
  generalize (s.get! (p + 3)).toNat = b3 at *
  have hv : ∀ r : Nat, (r < 55296 ∨ 57344 ≤ r) → r ≤ 1114111 → Utf8.valid (r : Int) = true := by
    intro r h1 h2
    simp only [Utf8.valid, Bool.or_eq_true, Bool.and_eq_true, decide_eq_true_eq]
    omega
  clear hat h0
  rcases hs with ⟨h1, e⟩ | ⟨h1, h2, h3, h4, e⟩ | ⟨h1, h2, h3, h4, h5, h6, e⟩ | ⟨h1, h2, h3, h4, h5, h6, h7, e⟩ | e
  · omega
  · rw [e]
    generalize hr : b0 % 32 * 64 + b1 % 64 = r at *
    refine ⟨h4, by omega, hv r (by omega) (by omega), by show 1 ≤ 2; omega, by show p + 2 ≤ s.size; omega, fun _ => rfl, fun j d h5 h6 hd => ?_⟩
    have h6' : j < p + 2 := h6
    have : j = p ∨ j = p + 1 := by omega
    rcases this with rfl | rfl
    · have := hat0 d hd; omega
    · have := hat1 d hd; omega
  · rw [e]
    generalize hr : b0 % 16 * 4096 + b1 % 64 * 64 + b2 % 64 = r at *
    refine ⟨by show 128 ≤ r; omega, by show r ≤ 1114111; omega, hv r (by omega) (by omega), by show 1 ≤ 3; omega, by show p + 3 ≤ s.size; omega, fun e3 => ?_, fun j d h7 h8 hd => ?_⟩
    · have e3' : r = 383 := e3
      omega
    have h8' : j < p + 3 := h8
    have : j = p ∨ j = p + 1 ∨ j = p + 2 := by omega
    rcases this with rfl | rfl | rfl
    · have := hat0 d hd; omega
    · have := hat1 d hd; omega
    · have := hat2 d hd; omega
  · rw [e]
    generalize hr : b0 % 8 * 262144 + b1 % 64 * 4096 + b2 % 64 * 64 + b3 % 64 = r at *
    refine ⟨by show 128 ≤ r; omega, by show r ≤ 1114111; omega, hv r (by omega) (by omega), by show 1 ≤ 4; omega, by show p + 4 ≤ s.size; omega, fun e3 => ?_, fun j d h8 h9 hd => ?_⟩
    · have e3' : r = 383 := e3
      omega
    have h9' : j < p + 4 := h9
    have : j = p ∨ j = p + 1 ∨ j = p + 2 ∨ j = p + 3 := by omega
    rcases this with rfl | rfl | rfl | rfl
    · have := hat0 d hd; omega
    · have := hat1 d hd; omega
    · have := hat2 d hd; omega
    · have := hat3 d hd; omega
  · rw [e]
    refine ⟨by decide, by decide, by decide, by decide, by show p + 1 ≤ s.size; omega, fun e3 => absurd e3 (by decide), fun j d h8 h9 hd => ?_⟩
    have h9' : j < p + 1 := h9
    obtain rfl : j = p := by omega
    have := hat0 d hd; omega
end Dy
end Go.Proofs.YtedcfnaphfgfjaaDoor
