/- Plain facts on day forms as strings: letters of any size; forms by numbers are read back; what is refused. -/
import Derived.Test.YtedcfnaphfgfjaaDoorDyg
namespace Go.Proofs.YtedcfnaphfgfjaaDoor
namespace Dy
theorem sm_key (c v : Nat) (h : v ≤ 64) : Nat.beq (Wd.sm c) v = Nat.beq c v := by
  by_cases h1 : 65 ≤ c ∧ c ≤ 90
  · rw [Wd.sm_yes c h1, Bool.eq_iff_iff, Nat.beq_eq, Nat.beq_eq]; omega
  · rw [Wd.sm_no c h1]
def digN (c : Nat) : Bool := Nat.ble 48 c && Nat.ble c 57
theorem dig_low (c : UInt8) : dig c = digN (Wd.sm c.toNat) := by
  unfold dig digN
  by_cases h1 : 65 ≤ c.toNat ∧ c.toNat ≤ 90
  · rw [Wd.sm_yes _ h1, Bool.eq_iff_iff]
    simp only [Bool.and_eq_true, Nat.ble_eq]; omega
  · rw [Wd.sm_no _ h1]
theorem dig_sm (c : UInt8) (h : digN (Wd.sm c.toNat) = true) : Wd.sm c.toNat = c.toNat := by
  by_cases h1 : 65 ≤ c.toNat ∧ c.toNat ≤ 90
  · rw [Wd.sm_yes _ h1] at h
    simp only [digN, Bool.and_eq_true, Nat.ble_eq] at h; omega
  · exact Wd.sm_no _ h1
def sgnN : List Nat → Option Nat
  | [] => none
  | c :: l => if Nat.beq c 60 || Nat.beq c 62 then some 0 else (sgnN l).map (· + 1)
theorem sgn_low : ∀ l : List UInt8, sgn l = sgnN (Wd.low l)
  | [] => rfl
  | c :: l => by
    show _ = sgnN (Wd.sm c.toNat :: Wd.low l)
    unfold sgn sgnN
    rw [sm_key _ 60 (by omega), sm_key _ 62 (by omega), sgn_low l]
theorem low_get (l : List UInt8) (k : Nat) : (Wd.low l)[k]? = (l[k]?).map fun c => Wd.sm c.toNat := by simp [Wd.low]
def oprN (l : List Nat) : Option (Nat × Nat) :=
  match sgnN l with
  | none => none
  | some k => match l[k + 1]? with
    | none => none
    | some c => if Nat.beq c 61 then (match l[k]? with | some d => if Nat.beq d 62 then some (k, 3) else some (k, 4) | none => none) else none
theorem opr_low (l : List UInt8) : opr l = oprN (Wd.low l) := by
  unfold opr oprN
  rw [sgn_low]
  cases sgnN (Wd.low l) with
  | none => rfl
  | some k =>
    simp only [low_get]
    cases l[k + 1]? with
    | none => rfl
    | some c =>
      simp only [Option.map_some, sm_key _ 61 (by omega)]
      cases l[k]? with
      | none => rfl
      | some d => simp only [Option.map_some, sm_key _ 62 (by omega)]
def numN : List Nat → Int × Int
  | [a] => if digN a && Nat.ble 49 a then (((a - 48 : Nat) : Int), 0) else (0, 5)
  | [a, b] => if digN a && Nat.ble 49 a && digN b then (if Nat.ble (10 * (a - 48) + (b - 48)) 31 then (((10 * (a - 48) + (b - 48) : Nat) : Int), 0) else (0, 3)) else (0, 5)
  | _ => (0, 5)
theorem num_low : ∀ l : List UInt8, num l = numN (Wd.low l)
  | [] => rfl
  | [a] => by
    show _ = numN [Wd.sm a.toNat]
    simp only [num, numN, dig_low]
    cases h : digN (Wd.sm a.toNat) with
    | false => simp
    | true => rw [dig_sm a h]
  | [a, b] => by
    show _ = numN [Wd.sm a.toNat, Wd.sm b.toNat]
    simp only [num, numN, dig_low]
    cases h : digN (Wd.sm a.toNat) with
    | false => simp
    | true =>
      rw [dig_sm a h]
      cases h2 : digN (Wd.sm b.toNat) with
      | false => simp
      | true => rw [dig_sm b h2]
  | _ :: _ :: _ :: _ => rfl
def isLN : List Nat → Bool
  | a :: b :: c :: d :: _ => Nat.beq a 108 && Nat.beq b 97 && Nat.beq c 115 && Nat.beq d 116
  | _ => false
theorem isL_low : ∀ l : List UInt8, isL l = isLN (Wd.low l)
  | [] => rfl
  | [_] => rfl
  | [_, _] => rfl
  | [_, _, _] => rfl
  | _ :: _ :: _ :: _ :: _ => rfl
def splN (l : List Nat) : Nat × List Nat × List Nat :=
  match oprN l with
  | some (k, kd) => (kd, l.take k, l.drop (k + 2))
  | none => if isLN l then (2, l.drop 4, []) else (1, [], l)
def parseN (l : List Nat) : (Int × Int × Int) × Int := fin (splN l).1 (if (splN l).1 = 1 then (0, 0) else Wd.fnd weeks (splN l).2.1) (if (splN l).1 = 2 then (0, 0) else numN (splN l).2.2)
theorem low_take (l : List UInt8) (k : Nat) : Wd.low (l.take k) = (Wd.low l).take k := by simp [Wd.low]
theorem low_drop (l : List UInt8) (k : Nat) : Wd.low (l.drop k) = (Wd.low l).drop k := by simp [Wd.low]
theorem spl_low (l : List UInt8) : splN (Wd.low l) = ((spl l).1, Wd.low (spl l).2.1, Wd.low (spl l).2.2) := by
  unfold spl splN
  rw [opr_low, isL_low]
  cases oprN (Wd.low l) with
  | some x => obtain ⟨k, kd⟩ := x; simp only [low_take, low_drop]
  | none =>
    simp only
    cases isLN (Wd.low l) with
    | true => simp only [if_true, low_drop]; rfl
    | false => rfl
theorem parse_low (l : List UInt8) : parse l = parseN (Wd.low l) := by
  unfold parse parseN
  rw [spl_low]
  simp only [wk, nm, week, num_low]
/-- whatever its letters' sizes -/
theorem parse_same (l m : List UInt8) (h : Wd.low l = Wd.low m) : parse l = parse m := by rw [parse_low, parse_low, h]
theorem fin_err (k : Nat) (p q : Int × Int) (h : (fin k p q).2 ≠ 0) : (fin k p q).1 = (0, 0, 0) := by
  unfold fin at *
  by_cases h1 : p.2 = 0
  · rw [if_pos h1] at h ⊢
    by_cases h2 : q.2 = 0
    · rw [if_pos h2] at h; exact absurd rfl h
    · rw [if_neg h2]
  · rw [if_neg h1]
theorem parse_err (l : List UInt8) (a b c e : Int) (h : parse l = ((a, b, c), e)) (he : e ≠ 0) : a = 0 ∧ b = 0 ∧ c = 0 := by
  have h1 := fin_err (spl l).1 (wk (spl l).1 (spl l).2.1) (nm (spl l).1 (spl l).2.2)
  have h2 : fin (spl l).1 (wk (spl l).1 (spl l).2.1) (nm (spl l).1 (spl l).2.2) = ((a, b, c), e) := h
  rw [h2] at h1
  have h3 := h1 he
  simp only [Prod.mk.injEq] at h3
  exact h3
end Dy
/-- the bytes of a form by numbers -/
def mstr (K W D : Nat) : List UInt8 := (prnt (Dfm.mK K) (Dfm.mW K W) (Dfm.mD K D)).1.data.toList
/-- what holds of all forms by numbers -/
def allF (p : Nat → Nat → Nat → Bool) : Bool := (List.range 4).all fun K => (List.range 7).all fun W => (List.range 31).all fun D => p K W D
theorem of_allF {p : Nat → Nat → Nat → Bool} (h : allF p = true) (K W D : Nat) (hK : K < 4) (hW : W < 7) (hD : D < 31) : p K W D = true := by
  have h1 := List.all_eq_true.1 h K (List.mem_range.2 hK)
  have h2 := List.all_eq_true.1 h1 W (List.mem_range.2 hW)
  exact List.all_eq_true.1 h2 D (List.mem_range.2 hD)
theorem back_all : allF (fun K W D => decide (Dy.parse (mstr K W D) = ((Dfm.mK K, Dfm.mW K W, Dfm.mD K D), 0))) = true := by decide +kernel
theorem made_back (K W D : Nat) (hK : K < 4) (hW : W < 7) (hD : D < 31) : Dy.parse (mstr K W D) = ((Dfm.mK K, Dfm.mW K W, Dfm.mD K D), 0) := of_decide_eq_true (of_allF back_all K W D hK hW hD)
/-- the strings that are refused -/
def bad (s : List UInt8) : Nat → List UInt8
  | 0 => s ++ [32]
  | 1 => 32 :: s
  | 2 => s ++ [61]
  | 3 => s ++ [62, 61]
  | 4 => [108, 97, 115, 116] ++ s
  | _ => s ++ [0]
theorem bad_all : allF (fun K W D => (List.range 6).all fun j => match Dy.parse (bad (mstr K W D) j) with | (_, e) => decide (e = 5 ∨ e = 8)) = true := by decide +kernel
end Go.Proofs.YtedcfnaphfgfjaaDoor
