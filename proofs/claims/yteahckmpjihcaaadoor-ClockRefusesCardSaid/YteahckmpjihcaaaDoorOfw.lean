/- Package offset: contracts of read and of what it calls. -/
import Derived.Test.YteahckmpjihcaaaDoorKit
import Derived.Test.YteahckmpjihcaaaDoorOf
import Derived.Test.YteahckmpjihcaaaDoorShelf
import Derived.WalkLawsBesides
import Derived.Deep.LoopGhost
namespace Go.Proofs.YteahckmpjihcaaaDoor
open Go.RowKit
theorem set_twice (w : World) (b : Nat) (u v : Value) : (w.setCell ⟨b, 0, none⟩ u).setCell ⟨b, 0, none⟩ v = w.setCell ⟨b, 0, none⟩ v := by
  unfold World.setCell
  simp only [World.mk.injEq, and_true]
  apply Array.ext
  · simp
  · intro i h1 h2
    simp only [Array.getElem_modify]
    by_cases e : b = i
    · simp only [e, if_true]
      cases w.heap[i]'(by simpa using h2) <;> simp
    · simp only [e, if_false]
theorem set_same {w : World} {b : Nat} {v : Value} {t : TypeId} (h : w.heap[b]? = some (.cells #[v] t (0, 0))) : w.setCell ⟨b, 0, none⟩ v = w := by
  unfold World.setCell
  cases w
  simp only [World.mk.injEq, and_true] at *
  apply Array.ext
  · simp
  · intro i h1 h2
    simp only [Array.getElem_modify]
    split
    · rename_i e
      subst e
      rw [Array.getElem?_eq_getElem h2] at h
      rw [Option.some.inj h]
      simp
    · rfl
theorem byte_at (s : ByteArray) (k : Nat) (h : k < s.size) : s.data.toList[k]? = some s[k] := by
  rw [List.getElem?_eq_getElem (by simpa using h)]; rfl
theorem byte_drop (s : ByteArray) (a k : Nat) (h : a + k < s.size) : (s.data.toList.drop a)[k]? = some s[a + k] := by
  rw [List.getElem?_drop]; exact byte_at s _ h
theorem drop_end (s : ByteArray) (a k : Nat) (h : ¬ a + k < s.size) : (s.data.toList.drop a)[k]? = none := by
  rw [List.getElem?_drop]; apply List.getElem?_eq_none; simp; omega
open Of in
set_option maxHeartbeats 1000000 in
theorem num_any (bA bS : Nat) (s : ByteArray) (a : Nat) (w : World) (hs : s.size ≤ maxLen) (ha : a ≤ s.size) (hne : bA ≠ bS)
    (hA : w.heap[bA]? = some (.cells #[.int .i64 a] 3 (0, 0))) (hS : w.cell? ⟨bS, 0, none⟩ = some (.string s)) :
    Calls Tryd.prog 36 #[.pointer (some ⟨bA, 0, none⟩), .pointer (some ⟨bS, 0, none⟩)] w fun e w' =>
      e = .returned (.tuple #[.int .i64 (val (run3 (s.data.toList.drop a))), .int .i64 (run3 (s.data.toList.drop a)).length]) ∧ w.setCell ⟨bA, 0, none⟩ (.int .i64 (a + (run3 (s.data.toList.drop a)).length : Nat)) = w' := by
  unfold maxLen at hs
  have HA := Lib.hid hA
  have HS := Lib.hid hS
  clear hA hS
  go_enter Tryd.func36, Tryd.ntmps36
  go_wp2
  go_loopw [2, 3] (fun n d wr => ∃ k : Nat, k ≤ 3 ∧ a + k ≤ s.size ∧ d = .int .i64 k ∧ n = .int .i64 (val ((s.data.toList.drop a).take k)) ∧ ((s.data.toList.drop a).take k).all isD = true ∧ wr = w.setCell ⟨bA, 0, none⟩ (.int .i64 (a + k : Nat))) (fun _ d _ => 3 - (intOf d).toNat)
  case atStart => exact ⟨0, by omega, by omega, rfl, rfl, rfl, (set_same HA.out).symm⟩
  case round =>
    obtain ⟨k, hk, hak, rfl, rfl, hall, hwr⟩ := hrel
    have ec : (.int .i64 ((a + k : Nat) : Int) : Value) = .int .i64 ((a : Int) + k) := by rw [Int.natCast_add]
    have rA := one_setCell (u := .int .i64 (a + k : Nat)) HA.out
    rw [← hwr, ec] at rA
    have cA := cell_of_one rA
    have fA := free_of_one rA
    have cS : wr.cell? ⟨bS, 0, none⟩ = some (.string s) := by rw [hwr]; exact cell_set HS.out (Ne.symm hne)
    have he : wr.setCell ⟨bA, 0, none⟩ (.int .i64 ((a : Int) + k + 1)) = w.setCell ⟨bA, 0, none⟩ (.int .i64 (a + (k + 1) : Nat)) := by
      rw [hwr, set_twice]; congr 2
    have HE := Lib.hid he
    have HAll := Lib.hid hall
    have HW := Lib.hid hwr
    have hv := val_nn _ hall
    have hp : (10 : Int) ^ ((s.data.toList.drop a).take k).length ≤ 1000 := by
      have : ((s.data.toList.drop a).take k).length ≤ 3 := by have := List.length_take_le k (s.data.toList.drop a); omega
      generalize ((s.data.toList.drop a).take k).length = n at *
      have : n = 0 ∨ n = 1 ∨ n = 2 ∨ n = 3 := by omega
      rcases this with rfl | rfl | rfl | rfl <;> decide
    have hv1 := hv.1
    have hv2 : val ((s.data.toList.drop a).take k) ≤ 999 := by omega
    clear he hall rA HA HS hwr ec hv hp
    by_cases h3 : k < 3
    · by_cases hb : a + k < s.size
      · have hc := byte_drop s a k hb
        have HC := Lib.hid hc
        clear hc
        by_cases hd : isD s[a + k] = true
        · have hd1 : 48 ≤ (s[a + k].toNat : Int) ∧ (s[a + k].toNat : Int) ≤ 57 := by simpa [isD] using hd
          have HD := Lib.hid hd
          clear hd
          obtain ⟨hd1, hd2⟩ := hd1
          go_wp2
          go_roundw
          case rel => exact ⟨k + 1, by omega, by omega, by go_num, by rw [val_snoc _ _ _ HC.out]; rfl, all_snoc _ _ _ HAll.out HC.out HD.out, by rw [← HE.out]⟩
          case measure => simp [intOf]; omega
        · have hd1 : ¬ (48 ≤ (s[a + k].toNat : Int) ∧ (s[a + k].toNat : Int) ≤ 57) := by simpa [isD] using hd
          have HD : Hid (isD s[a + k] = false) := Lib.hid (by simpa using hd)
          clear hd
          by_cases hd2 : 48 ≤ (s[a + k].toNat : Int)
          · have hd3 : ¬ (s[a + k].toNat : Int) ≤ 57 := fun h => hd1 ⟨hd2, h⟩
            clear hd1
            go_wp2
            go_ret2
            have hr := run3_stop (s.data.toList.drop a) k (by omega) HAll.out (.inr fun c hc => by rw [HC.out] at hc; cases hc; exact HD.out)
            rw [hr, show ((s.data.toList.drop a).take k).length = k by simp; omega]
            exact ⟨rfl, HW.out.symm⟩
          · clear hd1
            go_wp2
            go_ret2
            have hr := run3_stop (s.data.toList.drop a) k (by omega) HAll.out (.inr fun c hc => by rw [HC.out] at hc; cases hc; exact HD.out)
            rw [hr, show ((s.data.toList.drop a).take k).length = k by simp; omega]
            exact ⟨rfl, HW.out.symm⟩
      · go_wp2
        go_ret2
        have hr := run3_stop (s.data.toList.drop a) k (by omega) HAll.out (.inr fun c hc => by rw [drop_end s a k hb] at hc; cases hc)
        rw [hr, show ((s.data.toList.drop a).take k).length = k by simp; omega]
        exact ⟨rfl, HW.out.symm⟩
    · go_wp2
      go_ret2
      have hr := run3_stop (s.data.toList.drop a) k (by omega) HAll.out (.inl (by omega))
      rw [hr, show ((s.data.toList.drop a).take k).length = k by simp; omega]
      exact ⟨rfl, HW.out.symm⟩
/-- the digits from a place on say V, and are D -/
def NumIs (s : ByteArray) (a : Nat) (V : Int) (D : Nat) : Prop := Of.val (Of.run3 (s.data.toList.drop a)) = V ∧ (Of.run3 (s.data.toList.drop a)).length = D
/-- the same, with results as variables -/
theorem num_at (a : Nat) (V : Int) (D : Nat) (s : ByteArray) (hN : Hid (NumIs s a V D)) (bA bS : Nat) (w : World) (hs : s.size ≤ maxLen) (ha : a ≤ s.size) (hne : bA ≠ bS)
    (x : Int) (hA : w.heap[bA]? = some (.cells #[.int .i64 x] 3 (0, 0))) (hS : w.cell? ⟨bS, 0, none⟩ = some (.string s)) (hx : x = (a : Int)) :
    Calls Tryd.prog 36 #[.pointer (some ⟨bA, 0, none⟩), .pointer (some ⟨bS, 0, none⟩)] w fun e w' =>
      e = .returned (.tuple #[.int .i64 V, .int .i64 D]) ∧ w.setCell ⟨bA, 0, none⟩ (.int .i64 (x + D)) = w' := by
  subst hx
  obtain ⟨rfl, rfl⟩ := hN.out
  refine (num_any bA bS s a w hs ha hne hA hS).mono ?_
  rintro e w' ⟨rfl, rfl⟩
  exact ⟨rfl, by rw [Int.natCast_add]⟩
end Go.Proofs.YteahckmpjihcaaaDoor
