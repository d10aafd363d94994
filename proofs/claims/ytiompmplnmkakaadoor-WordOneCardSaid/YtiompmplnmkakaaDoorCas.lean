/- The contract of cased of the statements about layer 8. -/
import Derived.Test.YtiompmplnmkakaaDoorRef08
import Derived.Lib.ConvBytes
namespace Go.Proofs.YtiompmplnmkakaaDoor
open Go.RowKit
theorem below_bytes (w : World) (e : TypeId) (s : ByteArray) : Below w.heap.size w (Lib.bytesWorld w e s) :=
  ⟨rfl, rfl, rfl, by rw [Lib.bytesWorld_size]; omega, fun b hb => Lib.bytesWorld_at_old w e s b hb⟩
theorem sub32 (c : UInt8) (h : 97 ≤ c.toNat) : ((c - 32).toNat : Int) = (c.toNat : Int) - 32 := by
  rw [UInt8.toNat_sub_of_le _ _ (by rw [UInt8.le_iff_toNat_le]; exact Nat.le_trans (by decide) h)]
  show ((c.toNat - 32 : Nat) : Int) = _
  omega
theorem low_set (T : List UInt8) (k : Nat) (c : UInt8) (h : T[k]? = some c) (h1 : 97 ≤ c.toNat) (h2 : c.toNat ≤ 122) : Wd.low (T.set k (c - 32)) = Wd.low T := by
  have hd := sub32 c h1
  have e : Wd.sm (c - 32).toNat = Wd.sm c.toNat := by
    rw [Wd.sm_yes _ (by omega), Wd.sm_no _ (by omega)]
    omega
  apply List.ext_getElem?
  intro j
  simp only [Wd.low, List.getElem?_map]
  by_cases hj : j = k
  · subst hj
    rw [List.getElem?_set_self (List.getElem?_eq_some_iff.1 h).1, h]
    simp only [Option.map_some, e]
  · rw [List.getElem?_set_ne (fun h => hj h.symm)]
set_option maxRecDepth 100000 in
set_option maxHeartbeats 2000000 in
theorem cased_any (s : ByteArray) (hs : s.size ≤ 1000) (B : Int) (hB : 0 ≤ B ∧ B ≤ 65535) (W0 : World) :
    Calls Tryd.prog 24 #[.string s, .int .u16 B] W0 fun e w' => ∃ S : ByteArray, e = .returned (.string S) ∧ Hid (Wd.low S.data.toList = Wd.low s.data.toList) ∧ Below W0.heap.size W0 w' := by
  have hcv := Lib.run_convert_string_bytes (P := Tryd.prog) W0 9 36 5 s Tryd.underlying9 Tryd.underlying36 Tryd.underlying5
  go_enter Tryd.func24, Tryd.ntmps24
  go_wp2
  clear hcv
  have hb0 := below_bytes W0 5 s
  have hc0 : ∀ j b, s.data.toList[j]? = some b → (Lib.bytesWorld W0 5 s).cell? ⟨W0.heap.size, j, none⟩ = some (.int .u8 (b.toNat : Int)) := by
    intro j b hj
    obtain ⟨h1, h2⟩ := List.getElem?_eq_some_iff.1 hj
    have hl : s.data.toList.length = s.size := by rw [Array.length_toList]; rfl
    rw [Lib.bytesWorld_cell W0 _ s j (by omega), List.getD_eq_getElem?_getD, hj]
    rfl
  have hf0 : ∀ j, j < s.size → (Lib.bytesWorld W0 5 s).frozen? ⟨W0.heap.size, j, none⟩ = false := by
    intro j hj
    have := Lib.bytesWorld_at_new W0 5 s
    simp [World.frozen?, this, Lib.bytesCells]
    omega
  generalize Lib.bytesWorld W0 5 s = w1 at *
  generalize grownCap W0 s.size 0 5 = cap at *
  have HB := Lib.hid hB
  have hlen : s.data.toList.length = s.size := by rw [Array.length_toList]; rfl
  clear hB
  go_loopw [11] (fun i wr => ∃ (k : Nat) (T : List UInt8), k ≤ s.size ∧ i = .int .i64 k ∧ Hid (T.length = s.size ∧ Wd.low T = Wd.low s.data.toList) ∧ Hid (∀ j b, T[j]? = some b → wr.cell? ⟨W0.heap.size, j, none⟩ = some (.int .u8 (b.toNat : Int))) ∧ Hid (∀ j, j < s.size → wr.frozen? ⟨W0.heap.size, j, none⟩ = false) ∧ Hid (Below W0.heap.size W0 wr)) (fun i _ => s.size - (intOf i).toNat)
  case atStart => exact ⟨0, s.data.toList, by omega, rfl, Lib.hid ⟨hlen, rfl⟩, Lib.hid hc0, Lib.hid hf0, Lib.hid hb0⟩
  case round =>
    obtain ⟨k, T, hk, rfl, HT, HC, HF, HW⟩ := hrel
    clear hc0 hf0 hb0
    by_cases hkl : k < s.size
    · have hx : T[k]? = some (T[k]'(by rw [HT.out.1]; exact hkl)) := List.getElem?_eq_getElem _
      generalize T[k]'(by rw [HT.out.1]; exact hkl) = c at *
      have c0 := HC.out k c hx
      have f0 := HF.out k hkl
      have hc := c.toNat_lt
      have hk0 : (0 : Int) ≤ (k : Int) := by omega
      have hk1 : (k : Int) < (s.size : Int) := by omega
      have hb0 := HB.out.1
      have HX := Lib.hid hx
      clear hx
      go_wp2
      all_goals refine ⟨?_, by simp [intOf] <;> omega⟩
      all_goals first
        | exact ⟨k + 1, T, by omega, by go_num, HT, HC, HF, HW⟩
        | refine ⟨k + 1, T.set k (c - 32), by omega, by go_num, Lib.hid ⟨by rw [List.length_set]; exact HT.out.1, ?_⟩, Lib.hid ?_, Lib.hid ?_, Lib.hid (HW.out.setCell (p := ⟨W0.heap.size, k, none⟩) (Nat.le_refl _) _)⟩
      · rw [low_set T k c HX.out (by omega) (by omega)]
        exact HT.out.2
      · have hd : ((c - 32).toNat : Int) = (c.toNat : Int) - 32 := sub32 c (by omega)
        intro j b hj
        by_cases e : j = k
        · subst e
          rw [List.getElem?_set_self (by rw [HT.out.1]; exact hkl)] at hj
          obtain rfl := Option.some.inj hj
          rw [hd]
          exact World.cell?_setCell_same' _ _ _ (by rw [c0]; rfl)
        · rw [List.getElem?_set_ne (fun h => e h.symm)] at hj
          have hne : (⟨W0.heap.size, k, none⟩ : Addr) ≠ ⟨W0.heap.size, j, none⟩ := fun h => e (by injection h with _ h2 _; exact h2.symm)
          rw [World.cell?_setCell_other _ _ _ _ hne]
          exact HC.out j b hj
      · intro j hj
        rw [World.frozen?_setCell]
        exact HF.out j hj
    · obtain rfl : k = s.size := by omega
      have hcv := run_convert_bytes_back (P := Tryd.prog) wr 36 9 5 ⟨W0.heap.size, 0, none⟩ cap T Tryd.underlying36 Tryd.underlying5 Tryd.underlying9 (fun j hj => by
        have := HC.out j T[j] (List.getElem?_eq_getElem hj)
        by_cases e : j = 0
        · subst e; exact this
        · simpa [Addr.add, e] using this)
      rw [HT.out.1] at hcv
      have HS : Hid (Wd.low (⟨T.toArray⟩ : ByteArray).data.toList = Wd.low s.data.toList) := Lib.hid HT.out.2
      go_wp2
      go_ret
      exact ⟨_, rfl, HS, HW.out⟩
end Go.Proofs.YtiompmplnmkakaaDoor
