/- Names that are made by numbers (the statements about layer 7; layers above use them), as plain lists of bytes. -/
import Derived.Test.YtndpoijmkdephaaDoorNm
namespace Go.Proofs.YtndpoijmkdephaaDoor.Nm
open Go
def abc : List UInt8 := [65, 66, 67, 68, 69, 70, 71, 72, 73, 74, 75, 76, 77, 78, 79, 80, 81, 82, 83, 84, 85, 86, 87, 88, 89, 90, 97, 98, 99, 100, 101, 102, 103, 104, 105, 106, 107, 108, 109, 110, 111, 112, 113, 114, 115, 116, 117, 118, 119, 120, 121, 122]
def pbs : List UInt8 := [65, 66, 67, 88, 89, 90, 97, 98, 99, 120, 121, 122, 48, 49, 50, 51, 52, 53, 54, 55, 56, 57, 95, 43, 46, 45]
def letb (n : Nat) : UInt8 := abc.getD (n % 52) 0
def letc (zs : List UInt8) (i : Nat) : UInt8 := letb (match zs[i]? with | some c => c.toNat | none => i * 7 % 256)
def lt (zs : List UInt8) (k : Nat) : List UInt8 := (List.range k).map (letc zs)
/-- letters by numbers, at least a and at most m -/
def letS (zs : List UInt8) (a m : Nat) : List UInt8 := lt zs (min m (max zs.length a))
def pbyte (i : Nat) (c : UInt8) : UInt8 := pbs.getD (c.toNat % (if i = 0 then 24 else 26)) 0
def pt (l : List UInt8) : List UInt8 := l.mapIdx pbyte
/-- a part by numbers -/
def prtS (l : List UInt8) : List UInt8 := if l = [] then [81] else pt (l.take 14)
def zt : List (List UInt8) → List UInt8
  | [] => []
  | l :: r => prtS l ++ (r.map fun x => 47 :: prtS x).flatten
/-- the name of a zone by numbers -/
def zoneS (D : List (List UInt8)) : List UInt8 := if D = [] then [69, 116, 99, 47, 81] else zt (D.take 4)
theorem lt_len (zs : List UInt8) (k : Nat) : (lt zs k).length = k := by simp [lt]
theorem lt_snoc (zs : List UInt8) (k : Nat) : lt zs (k + 1) = lt zs k ++ [letc zs k] := by simp [lt, List.range_succ]
theorem letb_isL (n : Nat) : isL (letb n) = true := by
  have h : ∀ k, k < 52 → isL (abc.getD k 0) = true := by decide +kernel
  exact h _ (Nat.mod_lt _ (by decide))
theorem lt_all (zs : List UInt8) (k : Nat) : (lt zs k).all isL = true := by
  rw [List.all_eq_true]
  intro c hc
  obtain ⟨i, _, rfl⟩ := List.mem_map.1 hc
  exact letb_isL _
theorem letS_len (zs : List UInt8) (a m : Nat) : (letS zs a m).length = min m (max zs.length a) := lt_len _ _
theorem letS_all (zs : List UInt8) (a m : Nat) : (letS zs a m).all isL = true := lt_all _ _
theorem pt_len (l : List UInt8) : (pt l).length = l.length := by simp [pt]
theorem pt_snoc (l : List UInt8) (k : Nat) (h : k < l.length) : pt (l.take (k + 1)) = pt (l.take k) ++ [pbyte k l[k]] := by
  unfold pt
  rw [List.take_succ_eq_append_getElem h, List.mapIdx_append]
  simp [Nat.min_eq_left (Nat.le_of_lt h)]
theorem pbs_inP : ∀ k, k < 26 → inP (pbs.getD k 0) = true := by decide +kernel
theorem pbs_atP : ∀ k, k < 24 → atP (pbs.getD k 0) = true := by decide +kernel
theorem pbyte_inP (i : Nat) (c : UInt8) : inP (pbyte i c) = true := by
  unfold pbyte
  apply pbs_inP
  split
  · have := Nat.mod_lt c.toNat (show 24 > 0 by decide); omega
  · exact Nat.mod_lt _ (by decide)
theorem pbyte_atP (c : UInt8) : atP (pbyte 0 c) = true := pbs_atP _ (Nat.mod_lt _ (by decide))
theorem pt_part (l : List UInt8) (h : l ≠ []) (h2 : l.length ≤ 14) : part (pt l) = true := by
  cases l with
  | nil => exact absurd rfl h
  | cons c l =>
    unfold part
    rw [pt_len]
    have e1 : decide (0 < (c :: l).length) = true := by simp
    have e3 : (pt (c :: l)).head?.any atP = true := by
      show (List.mapIdx pbyte (c :: l)).head?.any atP = true
      rw [List.mapIdx_cons, List.head?_cons, Option.any_some]
      exact pbyte_atP c
    have e4 : (pt (c :: l)).all inP = true := by
      rw [List.all_eq_true]
      intro x hx
      obtain ⟨i, hi, rfl⟩ := List.mem_mapIdx.1 hx
      exact pbyte_inP _ _
    rw [e1, decide_eq_true h2, e3, e4]; rfl
theorem prtS_part (l : List UInt8) : part (prtS l) = true := by
  unfold prtS
  split
  · decide +kernel
  · rename_i h
    apply pt_part
    · intro e; apply h; cases l with
      | nil => rfl
      | cons c l => simp at e
    · exact List.length_take_le 14 l
theorem part_len {x : List UInt8} (h : part x = true) : 1 ≤ x.length ∧ x.length ≤ 14 := by
  unfold part at h; simp at h; omega
theorem zt_cons (l : List UInt8) (l2 : List UInt8) (r : List (List UInt8)) : zt (l :: l2 :: r) = prtS l ++ 47 :: zt (l2 :: r) := by
  simp [zt]
theorem zt_snoc (l : List UInt8) (r : List (List UInt8)) (x : List UInt8) : zt (l :: (r ++ [x])) = zt (l :: r) ++ 47 :: prtS x := by
  simp [zt]
theorem zt_one (l : List UInt8) : zt [l] = prtS l := by simp [zt]
theorem zt_zr : ∀ (l : List UInt8) (r : List (List UInt8)), zr 0 (zt (l :: r)) = true ∧ (zt (l :: r)).length ≤ 15 * (r.length + 1) - 1
  | l, [] => by
    rw [zt_one]
    have := part_len (prtS_part l)
    exact ⟨zr_of_part (prtS_part l), by simp; omega⟩
  | l, l2 :: r => by
    have ih := zt_zr l2 r
    have := part_len (prtS_part l)
    rw [zt_cons, zr_app, zr_of_part (prtS_part l), ih.1]
    refine ⟨rfl, ?_⟩
    simp only [List.length_append, List.length_cons]
    have := ih.2
    omega
theorem zoneS_zr (D : List (List UInt8)) : zr 0 (zoneS D) = true ∧ (zoneS D).length ≤ 59 := by
  unfold zoneS
  split
  · decide +kernel
  · rename_i h
    cases D with
    | nil => exact absurd rfl h
    | cons l r =>
      have := zt_zr l (r.take 3)
      rw [List.take_succ_cons]
      refine ⟨this.1, ?_⟩
      have h2 := List.length_take_le 3 r
      have h3 := this.2
      omega
theorem zoneS_zone (D : List (List UInt8)) : zone (zoneS D) = true := by
  unfold zone
  rw [(zoneS_zr D).1, decide_eq_true (by have := (zoneS_zr D).2; omega)]; rfl
theorem zr_pos {l : List UInt8} (h : zr 0 l = true) : 0 < l.length := by
  cases l with
  | nil => cases h
  | cons c l => simp
end Go.Proofs.YtndpoijmkdephaaDoor.Nm
