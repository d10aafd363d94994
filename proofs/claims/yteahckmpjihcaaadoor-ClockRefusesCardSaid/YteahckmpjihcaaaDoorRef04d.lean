/- The document's answers of layer 4: Parse. -/
import Derived.Test.YteahckmpjihcaaaDoorRef04c
namespace Go.Proofs.YteahckmpjihcaaaDoor
open Go.RowKit
set_option maxHeartbeats 2000000 in
theorem rparse_any (s : ByteArray) (hs : s.size ≤ 1000) (w : World) : Calls Tryd.prog 24 #[.string s] w fun e w' => e = .returned (.tuple #[.int .i64 (Of.parse s.data.toList).1, .int .i64 (Of.parse s.data.toList).2]) ∧ ∃ n, w' = w.drewN n := by
  by_cases hm : ∃ h : 0 < s.size, s[0] = 45
  · obtain ⟨h0, h45⟩ := hm
    have hb45 : ((s[0].toNat : Int) == 45) = true := by rw [h45]; rfl
    have hl : s.data.toList = 45 :: (s.extract 1 s.size).data.toList := by
      rw [Lib.extract_data, List.take_of_length_le (by simp)]
      have := Of.drop_eq (byte_at s 0 h0)
      rw [List.drop_zero, h45] at this
      exact this
    have HL := Lib.hid hl
    have hu : (s.extract 1 s.size).size ≤ 1000 := by simp; omega
    have HU := fun w => rform_any (s.extract 1 s.size) hu w
    clear hl h45 hu
    go_enter Tryd.func24, Tryd.ntmps24
    go_wp2_with fail
    refine (HU _).mono ?_
    rintro e w1 ⟨x, ok, rfl, hy, hn, n1, rfl⟩
    cases ok
    · have HF := Lib.hid (parse_of_minus (r := (0, 5)) HL.out (hn rfl) rfl)
      clear hy hn
      go_wp2
      go_ret2
      exact ⟨ret_ii HF.out, _, rfl⟩
    · have hf := hy rfl
      have hxb := Of.form_bd hf
      obtain ⟨hx1, hx2⟩ := hxb
      clear hy hn
      by_cases hx0 : x = 0
      · subst hx0
        have HF := Lib.hid (parse_of_minus (r := (0, 5)) HL.out hf rfl)
        clear hf
        go_wp2
        go_ret2
        exact ⟨ret_ii HF.out, _, rfl⟩
      · have hxe : (x == 0) = false := by simpa using hx0
        by_cases hx : 604799 < x
        · have HF := Lib.hid (parse_of_minus (r := (0, 3)) HL.out hf (by unfold pM; simp [hx0]; omega))
          clear hf hx0
          go_wp2
          go_ret2
          exact ⟨ret_ii HF.out, _, rfl⟩
        · have HF := Lib.hid (parse_of_minus (r := (-x, 0)) HL.out hf (by unfold pM; simp [hx0]; omega))
          clear hf hx0
          go_wp2
          go_ret2
          exact ⟨ret_ii HF.out, _, rfl⟩
  · have hp : s.data.toList[0]? ≠ some 45 := by
      intro h
      rcases Nat.lt_or_ge 0 s.size with k | k
      · rw [byte_at s 0 k] at h
        exact hm ⟨k, Option.some.inj h⟩
      · rw [List.getElem?_eq_none (by simpa using k)] at h; cases h
    have HP := Lib.hid hp
    have hb45 : ∀ h : 0 < s.size, ((s[0].toNat : Int) == 45) = false := by
      intro h
      have h1 : s[0] ≠ 45 := fun e => hm ⟨h, e⟩
      have h3 : s[0].toNat ≠ 45 := fun e => h1 (UInt8.toNat_inj.1 (by simpa using e))
      simp; omega
    have HU := fun w => rform_any s hs w
    clear hp hm
    by_cases h0 : 0 < s.size
    all_goals
      have hb4 := hb45
      clear hb45
      first | replace hb4 := hb4 h0 | clear hb4
      go_enter Tryd.func24, Tryd.ntmps24
      go_wp2_with fail
      refine (HU _).mono ?_
      rintro e w1 ⟨x, ok, rfl, hy, hn, n1, rfl⟩
      cases ok
      · have HF := Lib.hid (parse_of_plain (r := (0, 5)) HP.out (hn rfl) rfl)
        clear hy hn
        go_wp2
        go_ret2
        exact ⟨ret_ii HF.out, _, rfl⟩
      · have hf := hy rfl
        have hxb := Of.form_bd hf
        obtain ⟨hx1, hx2⟩ := hxb
        clear hy hn
        by_cases hx : 604799 < x
        · have HF := Lib.hid (parse_of_plain (r := (0, 3)) HP.out hf (by unfold pP; simp; omega))
          clear hf
          go_wp2
          go_ret2
          exact ⟨ret_ii HF.out, _, rfl⟩
        · have HF := Lib.hid (parse_of_plain (r := (x, 0)) HP.out hf (by unfold pP; simp; omega))
          clear hf
          go_wp2
          go_ret2
          exact ⟨ret_ii HF.out, _, rfl⟩
end Go.Proofs.YteahckmpjihcaaaDoor
