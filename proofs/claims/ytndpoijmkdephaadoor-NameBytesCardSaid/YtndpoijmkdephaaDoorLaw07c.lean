/- The walk of NameBytes: what is plain, and a map of functions that the call makes. -/
import Derived.Test.YtndpoijmkdephaaDoorLaw07b
import Derived.Maps.RangeWalk
import Derived.BigRegion
import Derived.WalkLawsBesides
namespace Go.Proofs.YtndpoijmkdephaaDoor
open Go.RowKit
open Go.Maps (Keyed)
namespace Nm
theorem zst_zero (m : Nat) (c : UInt8) : (zst m c).2 = 0 ↔ c = 47 := by
  unfold zst
  split
  · rename_i h; simp [h]
  · rename_i h; split <;> simp [h]
theorem state_zero (p : List UInt8) (h : (run zst 0 p).1 = true) : (run zst 0 p).2 = 0 ↔ (p = [] ∨ p.getLast? = some 47) := by
  rcases List.eq_nil_or_concat p with rfl | ⟨a, c, rfl⟩
  · simp [run]
  · rw [List.concat_eq_append] at h ⊢
    have ha : (run zst 0 a).1 = true := by
      cases hq : (run zst 0 a).1 with
      | true => rfl
      | false => rw [run_bad _ _ _ _ hq] at h; cases h
    rw [run_snoc _ _ _ _ ha, zst_zero]
    simp
theorem zr_app2 (p l : List UInt8) (h : (run zst 0 p).1 = true) : zr 0 (p ++ l) = zr (run zst 0 p).2 l := by
  unfold zr; rw [run_append, if_pos h]
theorem run_of_zr (p l : List UInt8) (h : zr 0 (p ++ l) = true) : (run zst 0 p).1 = true := by
  cases hq : (run zst 0 p).1 with
  | true => rfl
  | false =>
    unfold zr at h
    rw [run_bad _ _ _ _ hq] at h
    cases h
theorem zr_change (p q : List UInt8) (x c : UInt8) (hx : x ≠ 47) (hc : c ≠ 47) (h : zr 0 (p ++ x :: q) = true) (b : Bool) (hb : decide (p = [] ∨ p.getLast? = some 47) = b) : zr 0 (p ++ c :: q) = if b then atP c else inP c := by
  have hp := run_of_zr _ _ h
  have hz := state_zero p hp
  rw [zr_app2 _ _ hp] at h ⊢
  subst hb
  cases hm : (run zst 0 p).2 with
  | zero =>
    rw [hm] at h hz
    rw [zr_cons0 _ _ hx] at h
    rw [zr_cons0 _ _ hc]
    simp only [Bool.and_eq_true] at h
    rw [h.2, Bool.and_true, decide_eq_true (hz.1 rfl)]; rfl
  | succ k =>
    rw [hm] at h hz
    rw [zr_cons _ _ _ hx] at h
    rw [zr_cons _ _ _ hc]
    simp only [Bool.and_eq_true] at h
    rw [h.1.1, h.2, Bool.true_and, Bool.and_true, decide_eq_false (fun e => by have := hz.2 e; omega)]; rfl
/-- byte k put in another one's place -/
def chg (l : List UInt8) (k : Nat) (c : UInt8) : List UInt8 := l.take k ++ c :: l.drop (k + 1)
theorem chg_len (l : List UInt8) (k : Nat) (c : UInt8) (h : k < l.length) : (chg l k c).length = l.length := by
  simp [chg]; omega
theorem chg_self (l : List UInt8) (k : Nat) (h : k < l.length) : l = l.take k ++ l[k] :: l.drop (k + 1) := by
  conv => lhs; rw [← List.take_append_drop k l, List.drop_eq_getElem_cons h]
theorem zone_chg (l : List UInt8) (k : Nat) (c : UInt8) (h : k < l.length) (hl : l.length ≤ 60) (hz : zr 0 l = true) (hx : l[k] ≠ 47) (hc : c ≠ 47) (b : Bool) (hb : decide (l.take k = [] ∨ (l.take k).getLast? = some 47) = b) : zone (chg l k c) = if b then atP c else inP c := by
  rw [zone_of_zr (by rw [chg_len _ _ _ h]; exact hl)]
  exact zr_change _ _ _ _ hx hc (by rw [← chg_self l k h]; exact hz) b hb
theorem chg_all (p : UInt8 → Bool) (l : List UInt8) (k : Nat) (c : UInt8) (h : l.all p = true) : (chg l k c).all p = p c := by
  unfold chg
  rw [List.all_append, List.all_cons]
  have h1 : (l.take k).all p = true := List.all_eq_true.2 fun x hx => List.all_eq_true.1 h x (List.mem_of_mem_take hx)
  have h2 : (l.drop (k + 1)).all p = true := List.all_eq_true.2 fun x hx => List.all_eq_true.1 h x (List.mem_of_mem_drop hx)
  rw [h1, h2]; simp
theorem lets_chg (a m : Nat) (l : List UInt8) (k : Nat) (c : UInt8) (h : k < l.length) (ha : a ≤ l.length) (hm : l.length ≤ m) (hl : l.all isL = true) : lets a m (chg l k c) = isL c := by
  rw [lets_alike, chg_len _ _ _ h, chg_all _ _ _ _ hl, decide_eq_true ha, decide_eq_true hm]; rfl
theorem set_chg (l : List UInt8) (k : Nat) (c : UInt8) (h : k < l.length) (hm : l.length ≤ 30) (hl : l.all isL = true) : set (chg l k c) = if k = 0 then isL c else inS c := by
  have hS : l.all inS = true := List.all_eq_true.2 fun x hx => isL_inS (List.all_eq_true.1 hl x hx)
  rw [set_eq, chg_len _ _ _ h, chg_all _ _ _ _ hS, decide_eq_true hm, decide_eq_true (by omega)]
  cases l with
  | nil => simp at h
  | cons d l =>
    cases k with
    | zero =>
      have e : (chg (d :: l) 0 c).head?.any isL = isL c := rfl
      rw [e, if_pos rfl]
      cases hc : isL c
      · rfl
      · rw [isL_inS hc]; rfl
    | succ k =>
      have e : (chg (d :: l) (k + 1) c).head?.any isL = isL d := rfl
      have hd : isL d = true := List.all_eq_true.1 hl d (by simp)
      rw [e, hd, if_neg (by omega)]; simp
/-- the three kinds of names that are made of letters -/
def nk (m : Nat) (l : List UInt8) : Bool := if m = 4 then lets 1 4 l else if m = 6 then lets 3 6 l else set l
theorem nk_letters (m : Nat) (hm : m = 4 ∨ m = 6 ∨ m = 30) (l : List UInt8) (h3 : 3 ≤ l.length) (h4 : l.length ≤ m) (hl : l.all isL = true) : nk m l = true := by
  rcases hm with rfl | rfl | rfl
  · show lets 1 4 l = true
    rw [lets_letters _ _ hl, decide_eq_true (by omega), decide_eq_true h4]; rfl
  · show lets 3 6 l = true
    rw [lets_letters _ _ hl, decide_eq_true h3, decide_eq_true h4]; rfl
  · show set l = true
    rw [set_letters hl, decide_eq_true (by omega), decide_eq_true h4]; rfl
theorem nk_chg (m : Nat) (hm : m = 4 ∨ m = 6 ∨ m = 30) (l : List UInt8) (k : Nat) (c : UInt8) (hk : k < l.length) (h3 : 3 ≤ l.length) (h4 : l.length ≤ m) (hl : l.all isL = true) : nk m (chg l k c) = (isL c || (decide (m = 30 ∧ 0 < k) && (isG c || c == 95 || c == 45))) := by
  rcases hm with rfl | rfl | rfl
  · show lets 1 4 _ = _
    rw [lets_chg _ _ _ _ _ hk (by omega) h4 hl]; simp
  · show lets 3 6 _ = _
    rw [lets_chg _ _ _ _ _ hk h3 h4 hl]; simp
  · show set _ = _
    rw [set_chg _ _ _ hk h4 hl]
    by_cases h0 : k = 0
    · rw [if_pos h0]; simp [h0]
    · rw [if_neg h0, inS_eq, decide_eq_true ⟨rfl, by omega⟩]; simp [Bool.or_assoc]
theorem chg_bs (S : ByteArray) (k : Nat) (c : UInt8) : (S.extract 0 k ++ ⟨#[c]⟩ ++ S.extract (k + 1) S.size).data.toList = chg S.data.toList k c := by
  rw [data_app, data_app, Lib.extract_data, Lib.extract_data, List.drop_zero, Nat.sub_zero]
  unfold chg
  rw [List.append_assoc]
  congr 1
  show [c] ++ _ = _
  rw [List.take_of_length_le (by simp)]; rfl
end Nm
/-- one byte as a string, wherever it lies -/
theorem byte_one (c : UInt8) (b : Nat) (wx : World) (h : wx.cell? ⟨b, 0, none⟩ = some (.int .u8 (c.toNat : Int))) : (convert 30 9 (.slice (some ⟨b, 0, none⟩) 1 1)).run Tryd.prog wx = .ok (.string ⟨#[c]⟩) wx := by
  have := run_convert_bytes_arg (P := Tryd.prog) wx 30 5 Tryd.underlying30 Tryd.underlying5 b 0 1 1 [(c.toNat : Int)] rfl (fun i hi => by obtain rfl : i = 0 := (by omega); exact h) 9 Tryd.underlying9
  rw [this]
  have e : strOfNums [(c.toNat : Int)] = ⟨#[c]⟩ := by
    show (⟨#[UInt8.ofNat (c.toNat : Int).toNat]⟩ : ByteArray) = _
    rw [Int.toNat_natCast, UInt8.ofNat_toNat]
  rw [e]
/-- an entry of a composite map -/
theorem wpList_insert_own {H : Type} {P : Program} (w : World) {ops : Array Oper} {rest : List Oper} {o : Oper} {a : Act} {Q : Exit → Act → World → Prop}
    (hg : o.guard = none) (m x v : Operand) (t : TypeId) (hop : o.op = Op.insert t m x v)
    (k e : TypeId) (K : Keyed P k) (ht : P.underlying t = some (.map k e)) (R : Value → Option (DataW H × List MemPlace)) (b n : Nat) (D : DataW H)
    (hm : a.eval m = .map (some b)) (hown : w.ownsMap P k R b n D) (hn : n < maxLen) (key val : Value) (kl : Lit) (hx : a.eval x = key) (hv : a.eval v = val) (hkey : keyOf P k key = some kl)
    (d : DataW H) (ps : List MemPlace) (hval : R val = some (d, ps))
    (hK : ∀ w', w'.ownsMap P k R b (n + 1) (D.put kl d) → w.grownBy w' (some b) → wpList P ops Q rest (a.put o.dst undef) w') :
    wpList P ops Q (o :: rest) a w := by
  refine wpList_plain hg fun K' hK' => ?_
  obtain ⟨w', hrun, r1, r2⟩ := hown.update K ht hn hkey hval
  unfold Oper.wp
  simp [execOp, hop, hm, hx, hv, hrun, Result.andThen]
  exact hK' _ _ (hK w' r1 r2)
/-- the functions of the map, each told by its key -/
def fnV (F : Nat) : Value := .func (.func F) #[] #[]
open Classical in
noncomputable def fnR (v : Value) : Option (DataW Unit × List MemPlace) :=
  if v = fnV 12 then some (.lit (.int .i64 4), []) else if v = fnV 14 then some (.lit (.int .i64 6), []) else if v = fnV 10 then some (.lit (.int .i64 30), []) else none
theorem fnV_inj {a b : Nat} (h : fnV a = fnV b) : a = b := by
  unfold fnV at h
  injection h with h
  injection h
theorem fnR4 : fnR (fnV 12) = some (.lit (.int .i64 4), []) := by unfold fnR; rw [if_pos rfl]
theorem fnR6 : fnR (fnV 14) = some (.lit (.int .i64 6), []) := by
  unfold fnR; rw [if_neg (fun h => absurd (fnV_inj h) (by decide)), if_pos rfl]
theorem fnR30 : fnR (fnV 10) = some (.lit (.int .i64 30), []) := by
  unfold fnR; rw [if_neg (fun h => absurd (fnV_inj h) (by decide)), if_neg (fun h => absurd (fnV_inj h) (by decide)), if_pos rfl]
theorem fnR_inv (v : Value) (y : DataW Unit × List MemPlace) (h : fnR v = some y) : ∃ c, v = fnV c := by
  unfold fnR at h
  split at h
  · exact ⟨_, by assumption⟩
  · split at h
    · exact ⟨_, by assumption⟩
    · split at h
      · exact ⟨_, by assumption⟩
      · cases h
theorem fnR_cases (F : Nat) (y : DataW Unit × List MemPlace) (h : fnR (fnV F) = some y) : (F = 12 ∧ y.1 = .lit (.int .i64 4)) ∨ (F = 14 ∧ y.1 = .lit (.int .i64 6)) ∨ (F = 10 ∧ y.1 = .lit (.int .i64 30)) := by
  unfold fnR at h
  split at h
  · rename_i e; cases h; exact .inl ⟨fnV_inj e, rfl⟩
  · split at h
    · rename_i e; cases h; exact .inr (.inl ⟨fnV_inj e, rfl⟩)
    · split at h
      · rename_i e; cases h; exact .inr (.inr ⟨fnV_inj e, rfl⟩)
      · cases h
/-- what the map reads as -/
def fnD : DataW Unit := .map [(.int .i64 4, .lit (.int .i64 4)), (.int .i64 6, .lit (.int .i64 6)), (.int .i64 30, .lit (.int .i64 30))]
theorem fnD_eq : ((((DataW.map [] : DataW Unit).put (.int .i64 4) (.lit (.int .i64 4))).put (.int .i64 6) (.lit (.int .i64 6))).put (.int .i64 30) (.lit (.int .i64 30))) = fnD := by rfl
/-- the element at a key is the one of that key -/
theorem fnD_at (x : Int) (y : DataW Unit × List MemPlace) (F : Nat) (h : ∀ zd, fnD.atKey (.int .i64 x) zd = y.1) (hF : fnR (fnV F) = some y) : (x = 4 ∧ F = 12) ∨ (x = 6 ∧ F = 14) ∨ (x = 30 ∧ F = 10) := by
  have hc := fnR_cases F y hF
  have hlit : ∀ a b : Int, (DataW.lit (.int .i64 a) : DataW Unit) = .lit (.int .i64 b) → a = b := fun a b e => by injection e with e; injection e
  by_cases h4 : x = 4
  · subst h4
    have e : y.1 = .lit (.int .i64 4) := (h (.lit (.int .i64 0))).symm
    rcases hc with ⟨hf, _⟩ | ⟨_, e2⟩ | ⟨_, e2⟩
    · exact .inl ⟨rfl, hf⟩
    · rw [e] at e2; exact absurd (hlit _ _ e2) (by decide)
    · rw [e] at e2; exact absurd (hlit _ _ e2) (by decide)
  · by_cases h6 : x = 6
    · subst h6
      have e : y.1 = .lit (.int .i64 6) := (h (.lit (.int .i64 0))).symm
      rcases hc with ⟨_, e2⟩ | ⟨hf, _⟩ | ⟨_, e2⟩
      · rw [e] at e2; exact absurd (hlit _ _ e2) (by decide)
      · exact .inr (.inl ⟨rfl, hf⟩)
      · rw [e] at e2; exact absurd (hlit _ _ e2) (by decide)
    · by_cases h30 : x = 30
      · subst h30
        have e : y.1 = .lit (.int .i64 30) := (h (.lit (.int .i64 0))).symm
        rcases hc with ⟨_, e2⟩ | ⟨_, e2⟩ | ⟨hf, _⟩
        · rw [e] at e2; exact absurd (hlit _ _ e2) (by decide)
        · rw [e] at e2; exact absurd (hlit _ _ e2) (by decide)
        · exact .inr (.inr ⟨rfl, hf⟩)
      · exfalso
        have hz : ∀ zd, fnD.atKey (.int .i64 x) zd = zd := by
          intro zd
          have e4 : (Lit.int .i64 4).sameKey (.int .i64 x) = false := by simp [Lit.sameKey]; omega
          have e6 : (Lit.int .i64 6).sameKey (.int .i64 x) = false := by simp [Lit.sameKey]; omega
          have e30 : (Lit.int .i64 30).sameKey (.int .i64 x) = false := by simp [Lit.sameKey]; omega
          simp [fnD, DataW.atKey, e4, e6, e30]
        have a1 := h (.lit (.int .i64 0))
        have a2 := h (.lit (.int .i64 1))
        rw [hz] at a1 a2
        exact absurd (hlit _ _ (a1.trans a2.symm)) (by decide)
end Go.Proofs.YtndpoijmkdephaaDoor
