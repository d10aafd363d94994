/- The document's answers about day forms as strings: last, Parse, Print. -/
import Derived.Test.YtedcfnaphfgfjaaDoorDyr
import Derived.Test.YtedcfnaphfgfjaaDoorDyg
import Derived.Test.YtedcfnaphfgfjaaDoorRw
import Derived.Test.YtedcfnaphfgfjaaDoorRef02
namespace Go.Proofs.YtedcfnaphfgfjaaDoor
open Go.RowKit Go.Shelf
set_option maxRecDepth 100000 in
set_option maxHeartbeats 4000000 in
theorem rlast_any (s : ByteArray) (w : World) : Calls Tryd.prog 23 #[.string s] w fun e w' => e = .returned (.bool (Dy.isL s.data.toList)) ∧ Dw w w' := by
  by_cases h4 : s.size < 4
  · have q1 : (s.size : Int) < 4 := by omega
    rw [isL_short s h4]
    go_enter Tryd.func23, Tryd.ntmps23
    go_wp2
    go_ret
    exact ⟨rfl, Dw.refl _⟩
  · have q1 : ¬ (s.size : Int) < 4 := by omega
    have hz : (s.extract 0 4).size = 4 := by rw [ByteArray.size_extract]; omega
    obtain ⟨x0, hx0⟩ : ∃ x : UInt8, s[0]'(by omega) = x := ⟨_, rfl⟩
    obtain ⟨x1, hx1⟩ : ∃ x : UInt8, s[1]'(by omega) = x := ⟨_, rfl⟩
    obtain ⟨x2, hx2⟩ : ∃ x : UInt8, s[2]'(by omega) = x := ⟨_, rfl⟩
    obtain ⟨x3, hx3⟩ : ∃ x : UInt8, s[3]'(by omega) = x := ⟨_, rfl⟩
    have hI : Dy.isL s.data.toList = (Nat.beq (Wd.sm x0.toNat) 108 && Nat.beq (Wd.sm x1.toNat) 97 && Nat.beq (Wd.sm x2.toNat) 115 && Nat.beq (Wd.sm x3.toNat) 116) := by
      rw [← isL_four, fold_four _ hz]
      simp only [ByteArray.getElem_extract, Nat.zero_add, hx0, hx1, hx2, hx3]
      rfl
    rw [hI]
    clear hI hz
    go_enter Tryd.func23, Tryd.ntmps23
    go_wp2
    go_loopw [3] (fun k wr => Dw w wr ∧ ∃ i : Nat, i ≤ 4 ∧ k = .int .i64 i ∧ (0 < i → Wd.sm x0.toNat = 108) ∧ (1 < i → Wd.sm x1.toNat = 97) ∧ (2 < i → Wd.sm x2.toNat = 115) ∧ (3 < i → Wd.sm x3.toNat = 116)) (fun k _ => 4 - (intOf k).toNat)
    case atStart => exact ⟨Dw.refl _, 0, by omega, rfl, by omega, by omega, by omega, by omega⟩
    case round =>
      obtain ⟨hd, i, hi, rfl, g0, g1, g2, g3⟩ := hrel
      have HD := Lib.hid hd
      clear hd
      have q0 : ∀ k : Nat, k < 4 → (k : Int) < (s.size : Int) := fun k hk => by omega
      have h5 : i = 0 ∨ i = 1 ∨ i = 2 ∨ i = 3 ∨ i = 4 := by omega
      rcases h5 with rfl | rfl | rfl | rfl | rfl
      · have hl1 : ((⟨#[108, 97, 115, 116]⟩ : ByteArray)[0]'(by decide)).toNat = 108 := rfl
        have hl2 : ((⟨#[76, 65, 83, 84]⟩ : ByteArray)[0]'(by decide)).toNat = 76 := rfl
        have qk := q0 0 (by omega)
        have hse := sm_eq x0.toNat 108 (by decide)
        by_cases c1 : x0.toNat = 108
        · have b1 : ((x0.toNat : Int) != (((⟨#[108, 97, 115, 116]⟩ : ByteArray)[0]'(by decide)).toNat : Int)) = false := by rw [c1]; rfl
          have HS := Lib.hid (hse.2 (.inl c1))
          clear c1 hse hl1 hl2
          go_wp2
          go_region
          go_wp2
          go_roundw
          case rel => exact ⟨HD.out.trans ⟨1, rfl⟩, 1, by omega, by first | rfl | simp, fun _ => HS.out, by omega, by omega, by omega⟩
          case measure => simp [intOf] <;> omega
        · have b1 : ((x0.toNat : Int) != (((⟨#[108, 97, 115, 116]⟩ : ByteArray)[0]'(by decide)).toNat : Int)) = true := by rw [hl1]; simp; omega
          by_cases c2 : x0.toNat = 76
          · have b2 : ((x0.toNat : Int) != (((⟨#[76, 65, 83, 84]⟩ : ByteArray)[0]'(by decide)).toNat : Int)) = false := by rw [c2]; rfl
            have HS := Lib.hid (hse.2 (.inr (by omega)))
            clear c1 c2 hse hl1 hl2
            go_wp2
            go_region
            go_wp2
            go_roundw
            case rel => exact ⟨HD.out.trans ⟨1, rfl⟩, 1, by omega, by first | rfl | simp, fun _ => HS.out, by omega, by omega, by omega⟩
            case measure => simp [intOf] <;> omega
          · have b2 : ((x0.toNat : Int) != (((⟨#[76, 65, 83, 84]⟩ : ByteArray)[0]'(by decide)).toNat : Int)) = true := by rw [hl2]; simp; omega
            have HN := Lib.hid (sm_ne x0.toNat 108 (by decide) (by omega))
            clear c1 c2 hse hl1 hl2
            go_wp2
            go_region
            go_wp2
            go_ret
            exact ⟨by rw [HN.out]; simp, HD.out.trans ⟨1, rfl⟩⟩
      · have hl1 : ((⟨#[108, 97, 115, 116]⟩ : ByteArray)[1]'(by decide)).toNat = 97 := rfl
        have hl2 : ((⟨#[76, 65, 83, 84]⟩ : ByteArray)[1]'(by decide)).toNat = 65 := rfl
        have qk := q0 1 (by omega)
        have hse := sm_eq x1.toNat 97 (by decide)
        by_cases c1 : x1.toNat = 97
        · have b1 : ((x1.toNat : Int) != (((⟨#[108, 97, 115, 116]⟩ : ByteArray)[1]'(by decide)).toNat : Int)) = false := by rw [c1]; rfl
          have HS := Lib.hid (hse.2 (.inl c1))
          clear c1 hse hl1 hl2
          go_wp2
          go_region
          go_wp2
          go_roundw
          case rel => exact ⟨HD.out.trans ⟨1, rfl⟩, 2, by omega, by first | rfl | simp, fun _ => g0 (by omega), fun _ => HS.out, by omega, by omega⟩
          case measure => simp [intOf] <;> omega
        · have b1 : ((x1.toNat : Int) != (((⟨#[108, 97, 115, 116]⟩ : ByteArray)[1]'(by decide)).toNat : Int)) = true := by rw [hl1]; simp; omega
          by_cases c2 : x1.toNat = 65
          · have b2 : ((x1.toNat : Int) != (((⟨#[76, 65, 83, 84]⟩ : ByteArray)[1]'(by decide)).toNat : Int)) = false := by rw [c2]; rfl
            have HS := Lib.hid (hse.2 (.inr (by omega)))
            clear c1 c2 hse hl1 hl2
            go_wp2
            go_region
            go_wp2
            go_roundw
            case rel => exact ⟨HD.out.trans ⟨1, rfl⟩, 2, by omega, by first | rfl | simp, fun _ => g0 (by omega), fun _ => HS.out, by omega, by omega⟩
            case measure => simp [intOf] <;> omega
          · have b2 : ((x1.toNat : Int) != (((⟨#[76, 65, 83, 84]⟩ : ByteArray)[1]'(by decide)).toNat : Int)) = true := by rw [hl2]; simp; omega
            have HN := Lib.hid (sm_ne x1.toNat 97 (by decide) (by omega))
            clear c1 c2 hse hl1 hl2
            go_wp2
            go_region
            go_wp2
            go_ret
            exact ⟨by rw [HN.out]; simp, HD.out.trans ⟨1, rfl⟩⟩
      · have hl1 : ((⟨#[108, 97, 115, 116]⟩ : ByteArray)[2]'(by decide)).toNat = 115 := rfl
        have hl2 : ((⟨#[76, 65, 83, 84]⟩ : ByteArray)[2]'(by decide)).toNat = 83 := rfl
        have qk := q0 2 (by omega)
        have hse := sm_eq x2.toNat 115 (by decide)
        by_cases c1 : x2.toNat = 115
        · have b1 : ((x2.toNat : Int) != (((⟨#[108, 97, 115, 116]⟩ : ByteArray)[2]'(by decide)).toNat : Int)) = false := by rw [c1]; rfl
          have HS := Lib.hid (hse.2 (.inl c1))
          clear c1 hse hl1 hl2
          go_wp2
          go_region
          go_wp2
          go_roundw
          case rel => exact ⟨HD.out.trans ⟨1, rfl⟩, 3, by omega, by first | rfl | simp, fun _ => g0 (by omega), fun _ => g1 (by omega), fun _ => HS.out, by omega⟩
          case measure => simp [intOf] <;> omega
        · have b1 : ((x2.toNat : Int) != (((⟨#[108, 97, 115, 116]⟩ : ByteArray)[2]'(by decide)).toNat : Int)) = true := by rw [hl1]; simp; omega
          by_cases c2 : x2.toNat = 83
          · have b2 : ((x2.toNat : Int) != (((⟨#[76, 65, 83, 84]⟩ : ByteArray)[2]'(by decide)).toNat : Int)) = false := by rw [c2]; rfl
            have HS := Lib.hid (hse.2 (.inr (by omega)))
            clear c1 c2 hse hl1 hl2
            go_wp2
            go_region
            go_wp2
            go_roundw
            case rel => exact ⟨HD.out.trans ⟨1, rfl⟩, 3, by omega, by first | rfl | simp, fun _ => g0 (by omega), fun _ => g1 (by omega), fun _ => HS.out, by omega⟩
            case measure => simp [intOf] <;> omega
          · have b2 : ((x2.toNat : Int) != (((⟨#[76, 65, 83, 84]⟩ : ByteArray)[2]'(by decide)).toNat : Int)) = true := by rw [hl2]; simp; omega
            have HN := Lib.hid (sm_ne x2.toNat 115 (by decide) (by omega))
            clear c1 c2 hse hl1 hl2
            go_wp2
            go_region
            go_wp2
            go_ret
            exact ⟨by rw [HN.out]; simp, HD.out.trans ⟨1, rfl⟩⟩
      · have hl1 : ((⟨#[108, 97, 115, 116]⟩ : ByteArray)[3]'(by decide)).toNat = 116 := rfl
        have hl2 : ((⟨#[76, 65, 83, 84]⟩ : ByteArray)[3]'(by decide)).toNat = 84 := rfl
        have qk := q0 3 (by omega)
        have hse := sm_eq x3.toNat 116 (by decide)
        by_cases c1 : x3.toNat = 116
        · have b1 : ((x3.toNat : Int) != (((⟨#[108, 97, 115, 116]⟩ : ByteArray)[3]'(by decide)).toNat : Int)) = false := by rw [c1]; rfl
          have HS := Lib.hid (hse.2 (.inl c1))
          clear c1 hse hl1 hl2
          go_wp2
          go_region
          go_wp2
          go_roundw
          case rel => exact ⟨HD.out.trans ⟨1, rfl⟩, 4, by omega, by first | rfl | simp, fun _ => g0 (by omega), fun _ => g1 (by omega), fun _ => g2 (by omega), fun _ => HS.out⟩
          case measure => simp [intOf] <;> omega
        · have b1 : ((x3.toNat : Int) != (((⟨#[108, 97, 115, 116]⟩ : ByteArray)[3]'(by decide)).toNat : Int)) = true := by rw [hl1]; simp; omega
          by_cases c2 : x3.toNat = 84
          · have b2 : ((x3.toNat : Int) != (((⟨#[76, 65, 83, 84]⟩ : ByteArray)[3]'(by decide)).toNat : Int)) = false := by rw [c2]; rfl
            have HS := Lib.hid (hse.2 (.inr (by omega)))
            clear c1 c2 hse hl1 hl2
            go_wp2
            go_region
            go_wp2
            go_roundw
            case rel => exact ⟨HD.out.trans ⟨1, rfl⟩, 4, by omega, by first | rfl | simp, fun _ => g0 (by omega), fun _ => g1 (by omega), fun _ => g2 (by omega), fun _ => HS.out⟩
            case measure => simp [intOf] <;> omega
          · have b2 : ((x3.toNat : Int) != (((⟨#[76, 65, 83, 84]⟩ : ByteArray)[3]'(by decide)).toNat : Int)) = true := by rw [hl2]; simp; omega
            have HN := Lib.hid (sm_ne x3.toNat 116 (by decide) (by omega))
            clear c1 c2 hse hl1 hl2
            go_wp2
            go_region
            go_wp2
            go_ret
            exact ⟨by rw [HN.out]; simp, HD.out.trans ⟨1, rfl⟩⟩
      · have hres : (Nat.beq (Wd.sm x0.toNat) 108 && Nat.beq (Wd.sm x1.toNat) 97 && Nat.beq (Wd.sm x2.toNat) 115 && Nat.beq (Wd.sm x3.toNat) 116) = true := by rw [g0 (by omega), g1 (by omega), g2 (by omega), g3 (by omega)]; rfl
        have HR := Lib.hid hres
        clear hres
        go_wp2
        go_ret
        exact ⟨by rw [HR.out]; rfl, HD.out⟩
end Go.Proofs.YtedcfnaphfgfjaaDoor
