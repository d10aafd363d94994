/- The walk of CheckedBack: for any two numbers it returns true. -/
import Derived.Test.YtejdeaacpjgjiaaLaw03b
import Derived.Deep.DeepCutAuto
namespace Go.Proofs.Ytejdeaacpjgjiaa
open Go.RowKit

theorem back_s (a b s : Int) (c : Bool) (fa : Ck.fit a = true) (fb : Ck.fit b = true) (h : Ck.rs (a + b) = s ∧ Ck.fit (a + b) = c) : c = false ∨ (c = true ∧ Ck.fit s = true ∧ (Ck.rs (s - b) = a ∧ Ck.fit (s - b) = true) ∧ (Ck.rs (s - a) = b ∧ Ck.fit (s - a) = true)) := by
  obtain ⟨rfl, rfl⟩ := h
  rcases Ck.fit_cases (a + b) with ⟨h1, h2, h3⟩ | ⟨h1, h2, h3⟩
  · right
    have e1 : a + b - b = a := by omega
    have e2 : a + b - a = b := by omega
    rw [h2, e1, e2]
    exact ⟨h1, h1, ⟨Ck.rs_yes fa, fa⟩, ⟨Ck.rs_yes fb, fb⟩⟩
  · exact .inl h1
theorem back_d (a b d : Int) (c : Bool) (fa : Ck.fit a = true) (h : Ck.rs (a - b) = d ∧ Ck.fit (a - b) = c) : c = false ∨ (c = true ∧ Ck.fit d = true ∧ (Ck.rs (d + b) = a ∧ Ck.fit (d + b) = true)) := by
  obtain ⟨rfl, rfl⟩ := h
  rcases Ck.fit_cases (a - b) with ⟨h1, h2, h3⟩ | ⟨h1, h2, h3⟩
  · right
    have e1 : a - b + b = a := by omega
    rw [h2, e1]
    exact ⟨h1, h1, Ck.rs_yes fa, fa⟩
  · exact .inl h1
/-- a product, divided -/
theorem Ck_mul_div (a b : Int) (hb : b ≠ 0) : Ck.dv (a * b) b = a ∧ Ck.md (a * b) b = 0 := Ck.dv_unique (a * b) b a 0 hb (by rw [Int.mul_comm]; omega) (fun g => by omega) (fun g => by omega)
theorem back_m (a b m : Int) (c : Bool) (fa : Ck.fit a = true) (h : Ck.rs (a * b) = m ∧ Ck.fit (a * b) = c) : c = false ∨ (c = true ∧ ((b == 0) = true ∨ ((b == 0) = false ∧ Ck.fit m = true ∧ ((if Ck.dok m b then Ck.dv m b else 0) = a ∧ Ck.dok m b = true) ∧ ((if decide (b ≠ 0) then Ck.md m b else 0) = 0 ∧ decide (b ≠ 0) = true)))) := by
  obtain ⟨rfl, rfl⟩ := h
  rcases Ck.fit_cases (a * b) with ⟨h1, h2, h3⟩ | ⟨h1, h2, h3⟩
  · right
    rw [h2]
    refine ⟨h1, ?_⟩
    by_cases hb : b = 0
    · exact .inl (by simpa using hb)
    · right
      have e := Ck_mul_div a b hb
      have hd : Ck.dok (a * b) b = true := by
        cases c : Ck.dok (a * b) b with
        | true => rfl
        | false =>
          have := Ck.dv_out _ _ hb c
          obtain ⟨e1, rfl⟩ := this
          rw [Ck.fit_iff] at fa
          omega
      have hn : decide (b ≠ 0) = true := by simpa using hb
      rw [hd, hn, e.1, e.2]
      exact ⟨by simpa using hb, h1, ⟨rfl, rfl⟩, ⟨rfl, rfl⟩⟩
  · exact .inl h1
theorem div_fit {a b q : Int} {c : Bool} (h : (if Ck.dok a b then Ck.dv a b else 0) = q ∧ Ck.dok a b = c) (fa : Ck.fit a = true) : Ck.fit q = true := by
  obtain ⟨rfl, rfl⟩ := h
  cases c : Ck.dok a b with
  | false => rfl
  | true => exact (Ck.fit_iff _).2 (Ck.dv_bd a b ((Ck.fit_iff a).1 fa) c)
theorem back_q (a b q r t : Int) (c4 c5 c6 : Bool) (fa : Ck.fit a = true) (fb : Ck.fit b = true) (h4 : (if Ck.dok a b then Ck.dv a b else 0) = q ∧ Ck.dok a b = c4) (h5 : (if decide (b ≠ 0) then Ck.md a b else 0) = r ∧ decide (b ≠ 0) = c5) (h6 : Ck.rs (q * b) = t ∧ Ck.fit (q * b) = c6) :
    (b = 0 ∧ c4 = false ∧ c5 = false) ∨ ((b == 0) = false ∧ c5 = true ∧ ((0 < b ∧ 0 ≤ r ∧ r < b) ∨ (b < 0 ∧ b < r ∧ r ≤ 0)) ∧ (c4 = false ∨ (c4 = true ∧ (c6 = false ∨ (c6 = true ∧ Ck.fit t = true ∧ Ck.fit r = true ∧ (Ck.rs (t + r) = a ∧ Ck.fit (t + r) = true)))))) := by
  obtain ⟨rfl, rfl⟩ := h4
  obtain ⟨rfl, rfl⟩ := h5
  obtain ⟨rfl, rfl⟩ := h6
  by_cases hb : b = 0
  · left
    exact ⟨hb, (Ck.dok_no a b).2 (.inl hb), by simpa using hb⟩
  · right
    have hn : decide (b ≠ 0) = true := by simpa using hb
    obtain ⟨e1, e2, e3⟩ := Ck.dv_facts a b hb
    rw [hn]
    refine ⟨by simpa using hb, rfl, ?_, ?_⟩
    · rcases Int.lt_or_lt_of_ne hb with g | g
      · exact .inr ⟨g, e3 g⟩
      · exact .inl ⟨g, e2 g⟩
    · cases c : Ck.dok a b with
      | false => exact .inl rfl
      | true =>
        right
        refine ⟨rfl, ?_⟩
        rcases Ck.fit_cases (Ck.dv a b * b) with ⟨h1, h2, h3⟩ | ⟨h1, h2, h3⟩
        · right
          have e : Ck.dv a b * b + Ck.md a b = a := by rw [Int.mul_comm]; omega
          simp only [if_true]
          rw [h2, e]
          exact ⟨h1, h1, (Ck.fit_iff _).2 (Ck.md_bd a b hb ((Ck.fit_iff b).1 fb)), Ck.rs_yes fa, fa⟩
        · exact .inl h1
set_option maxRecDepth 100000 in
set_option maxHeartbeats 4000000 in
theorem back_walk (a : Int) (wa : (Lit.int .i64 a).wf = true) (b : Int) (wb : (Lit.int .i64 b).wf = true) (W : World) :
    Calls Try.prog 5 #[.int .i64 a, .int .i64 b] W fun e w' => e = .returned (.bool true) ∧ Below W.heap.size W w' := by
  have A := Lib.hid ((Ck.fit_iff a).2 (bd_i64 wa))
  have B := Lib.hid ((Ck.fit_iff b).2 (bd_i64 wb))
  clear wa wb
  obtain ⟨s, c1, H1⟩ : ∃ s c, Hid (Ck.rs (a + b) = s ∧ Ck.fit (a + b) = c) := ⟨_, _, Lib.hid ⟨rfl, rfl⟩⟩
  obtain ⟨d, c2, H2⟩ : ∃ s c, Hid (Ck.rs (a - b) = s ∧ Ck.fit (a - b) = c) := ⟨_, _, Lib.hid ⟨rfl, rfl⟩⟩
  obtain ⟨m, c3, H3⟩ : ∃ s c, Hid (Ck.rs (a * b) = s ∧ Ck.fit (a * b) = c) := ⟨_, _, Lib.hid ⟨rfl, rfl⟩⟩
  go_enter Try.func5, Try.ntmps5
  go_wp2_with fail
  refine (add_at a b s c1 H1.out A.out B.out _).mono ?_; rintro e w' ⟨rfl, rfl⟩
  go_upto_if 35 with fail
  go_cut [] (fun wx => W = wx)
  case first =>
    rcases back_s a b s c1 A.out B.out H1.out with rfl | ⟨rfl, f1, e1, e2⟩
    · go_wp2_with fail
      go_meet
      exact rfl
    · have F1 := Lib.hid f1
      have E1 := Lib.hid e1
      have E2 := Lib.hid e2
      clear f1 e1 e2
      go_wp2_with fail
      refine (sub_at s b a true E1.out F1.out B.out _).mono ?_; rintro e w' ⟨rfl, rfl⟩
      go_wp2_with fail
      refine (sub_at s a b true E2.out F1.out A.out _).mono ?_; rintro e w' ⟨rfl, rfl⟩
      go_wp2_with fail
      refine (is_yes _ _ _ _ rfl rfl _).mono ?_; rintro e w2 ⟨rfl, rfl⟩
      go_wp2_with fail
      refine (is_yes _ _ _ _ rfl rfl _).mono ?_; rintro e w2 ⟨rfl, rfl⟩
      go_wp2_with fail
      go_meet
      exact rfl
  case rest =>
    obtain rfl := hcut
    go_wp2_with fail
    refine (sub_at a b d c2 H2.out A.out B.out _).mono ?_; rintro e w' ⟨rfl, rfl⟩
    go_upto_if 66 with fail
    go_cut [] (fun wx => W = wx)
    case first =>
      rcases back_d a b d c2 A.out H2.out with rfl | ⟨rfl, f1, e1⟩
      · go_wp2_with fail
        go_meet
        exact rfl
      · have F1 := Lib.hid f1
        have E1 := Lib.hid e1
        clear f1 e1
        go_wp2_with fail
        refine (add_at d b a true E1.out F1.out B.out _).mono ?_; rintro e w' ⟨rfl, rfl⟩
        go_wp2_with fail
        refine (is_yes _ _ _ _ rfl rfl _).mono ?_; rintro e w2 ⟨rfl, rfl⟩
        go_wp2_with fail
        go_meet
        exact rfl
    case rest =>
      obtain rfl := hcut
      obtain ⟨q, c4, H4⟩ : ∃ s c, Hid ((if Ck.dok a b then Ck.dv a b else 0) = s ∧ Ck.dok a b = c) := ⟨_, _, Lib.hid ⟨rfl, rfl⟩⟩
      obtain ⟨r, c5, H5⟩ : ∃ s c, Hid ((if decide (b ≠ 0) then Ck.md a b else 0) = s ∧ decide (b ≠ 0) = c) := ⟨_, _, Lib.hid ⟨rfl, rfl⟩⟩
      obtain ⟨t, c6, H6⟩ : ∃ s c, Hid (Ck.rs (q * b) = s ∧ Ck.fit (q * b) = c) := ⟨_, _, Lib.hid ⟨rfl, rfl⟩⟩
      go_wp2_with fail
      refine (mul_at a b m c3 H3.out A.out B.out _).mono ?_; rintro e w' ⟨rfl, rfl⟩
      rcases back_m a b m c3 A.out H3.out with rfl | ⟨rfl, b0 | ⟨b0, f1, e1, e2⟩⟩
      · go_wp2_with fail
        refine (div_at a b q c4 H4.out A.out B.out _).mono ?_; rintro e w' ⟨rfl, rfl⟩
        go_wp2_with fail
        refine (mod_at a b r c5 H5.out B.out _).mono ?_; rintro e w' ⟨rfl, rfl⟩
        have FD := Lib.hid (div_fit H4.out A.out)
        rcases back_q a b q r t c4 c5 c6 A.out B.out H4.out H5.out H6.out with ⟨b0, rfl, rfl⟩ | ⟨b0, rfl, hr | hr, rfl | ⟨rfl, rfl | ⟨rfl, f1, f2, e1⟩⟩⟩
        · clear b0
          go_wp2_with fail
          refine (mul_at q b t c6 H6.out FD.out B.out _).mono ?_; rintro e w' ⟨rfl, rfl⟩
          go_wp2_with fail
          refine (works3_any _).mono ?_; rintro e w2 ⟨rfl, hd⟩
          go_wp2
          go_ret
          exact ⟨rfl, hd⟩
        · go_wp2_with fail
          refine (mul_at q b t c6 H6.out FD.out B.out _).mono ?_; rintro e w' ⟨rfl, rfl⟩
          go_wp2_with fail
          refine (works3_any _).mono ?_; rintro e w2 ⟨rfl, hd⟩
          go_wp2
          go_ret
          exact ⟨rfl, hd⟩
        · go_wp2_with fail
          refine (mul_at q b t false H6.out FD.out B.out _).mono ?_; rintro e w' ⟨rfl, rfl⟩
          go_wp2_with fail
          refine (works3_any _).mono ?_; rintro e w2 ⟨rfl, hd⟩
          go_wp2
          go_ret
          exact ⟨rfl, hd⟩
        · have F1 := Lib.hid f1
          have F2 := Lib.hid f2
          have E1 := Lib.hid e1
          clear f1 f2 e1
          go_wp2_with fail
          refine (mul_at q b t true H6.out FD.out B.out _).mono ?_; rintro e w' ⟨rfl, rfl⟩
          go_wp2_with fail
          refine (add_at t r a true E1.out F1.out F2.out _).mono ?_; rintro e w' ⟨rfl, rfl⟩
          go_wp2_with fail
          refine (is_yes _ _ _ _ rfl rfl _).mono ?_; rintro e w2 ⟨rfl, rfl⟩
          go_wp2_with fail
          refine (works3_any _).mono ?_; rintro e w2 ⟨rfl, hd⟩
          go_wp2
          go_ret
          exact ⟨rfl, hd⟩
        · go_wp2_with fail
          refine (mul_at q b t c6 H6.out FD.out B.out _).mono ?_; rintro e w' ⟨rfl, rfl⟩
          go_wp2_with fail
          refine (works3_any _).mono ?_; rintro e w2 ⟨rfl, hd⟩
          go_wp2
          go_ret
          exact ⟨rfl, hd⟩
        · go_wp2_with fail
          refine (mul_at q b t false H6.out FD.out B.out _).mono ?_; rintro e w' ⟨rfl, rfl⟩
          go_wp2_with fail
          refine (works3_any _).mono ?_; rintro e w2 ⟨rfl, hd⟩
          go_wp2
          go_ret
          exact ⟨rfl, hd⟩
        · have F1 := Lib.hid f1
          have F2 := Lib.hid f2
          have E1 := Lib.hid e1
          clear f1 f2 e1
          go_wp2_with fail
          refine (mul_at q b t true H6.out FD.out B.out _).mono ?_; rintro e w' ⟨rfl, rfl⟩
          go_wp2_with fail
          refine (add_at t r a true E1.out F1.out F2.out _).mono ?_; rintro e w' ⟨rfl, rfl⟩
          go_wp2_with fail
          refine (is_yes _ _ _ _ rfl rfl _).mono ?_; rintro e w2 ⟨rfl, rfl⟩
          go_wp2_with fail
          refine (works3_any _).mono ?_; rintro e w2 ⟨rfl, hd⟩
          go_wp2
          go_ret
          exact ⟨rfl, hd⟩
      · go_wp2_with fail
        clear b0
        refine (div_at a b q c4 H4.out A.out B.out _).mono ?_; rintro e w' ⟨rfl, rfl⟩
        go_wp2_with fail
        refine (mod_at a b r c5 H5.out B.out _).mono ?_; rintro e w' ⟨rfl, rfl⟩
        have FD := Lib.hid (div_fit H4.out A.out)
        rcases back_q a b q r t c4 c5 c6 A.out B.out H4.out H5.out H6.out with ⟨b0, rfl, rfl⟩ | ⟨b0, rfl, hr | hr, rfl | ⟨rfl, rfl | ⟨rfl, f1, f2, e1⟩⟩⟩
        · clear b0
          go_wp2_with fail
          refine (mul_at q b t c6 H6.out FD.out B.out _).mono ?_; rintro e w' ⟨rfl, rfl⟩
          go_wp2_with fail
          refine (works3_any _).mono ?_; rintro e w2 ⟨rfl, hd⟩
          go_wp2
          go_ret
          exact ⟨rfl, hd⟩
        · go_wp2_with fail
          refine (mul_at q b t c6 H6.out FD.out B.out _).mono ?_; rintro e w' ⟨rfl, rfl⟩
          go_wp2_with fail
          refine (works3_any _).mono ?_; rintro e w2 ⟨rfl, hd⟩
          go_wp2
          go_ret
          exact ⟨rfl, hd⟩
        · go_wp2_with fail
          refine (mul_at q b t false H6.out FD.out B.out _).mono ?_; rintro e w' ⟨rfl, rfl⟩
          go_wp2_with fail
          refine (works3_any _).mono ?_; rintro e w2 ⟨rfl, hd⟩
          go_wp2
          go_ret
          exact ⟨rfl, hd⟩
        · have F1 := Lib.hid f1
          have F2 := Lib.hid f2
          have E1 := Lib.hid e1
          clear f1 f2 e1
          go_wp2_with fail
          refine (mul_at q b t true H6.out FD.out B.out _).mono ?_; rintro e w' ⟨rfl, rfl⟩
          go_wp2_with fail
          refine (add_at t r a true E1.out F1.out F2.out _).mono ?_; rintro e w' ⟨rfl, rfl⟩
          go_wp2_with fail
          refine (is_yes _ _ _ _ rfl rfl _).mono ?_; rintro e w2 ⟨rfl, rfl⟩
          go_wp2_with fail
          refine (works3_any _).mono ?_; rintro e w2 ⟨rfl, hd⟩
          go_wp2
          go_ret
          exact ⟨rfl, hd⟩
        · go_wp2_with fail
          refine (mul_at q b t c6 H6.out FD.out B.out _).mono ?_; rintro e w' ⟨rfl, rfl⟩
          go_wp2_with fail
          refine (works3_any _).mono ?_; rintro e w2 ⟨rfl, hd⟩
          go_wp2
          go_ret
          exact ⟨rfl, hd⟩
        · go_wp2_with fail
          refine (mul_at q b t false H6.out FD.out B.out _).mono ?_; rintro e w' ⟨rfl, rfl⟩
          go_wp2_with fail
          refine (works3_any _).mono ?_; rintro e w2 ⟨rfl, hd⟩
          go_wp2
          go_ret
          exact ⟨rfl, hd⟩
        · have F1 := Lib.hid f1
          have F2 := Lib.hid f2
          have E1 := Lib.hid e1
          clear f1 f2 e1
          go_wp2_with fail
          refine (mul_at q b t true H6.out FD.out B.out _).mono ?_; rintro e w' ⟨rfl, rfl⟩
          go_wp2_with fail
          refine (add_at t r a true E1.out F1.out F2.out _).mono ?_; rintro e w' ⟨rfl, rfl⟩
          go_wp2_with fail
          refine (is_yes _ _ _ _ rfl rfl _).mono ?_; rintro e w2 ⟨rfl, rfl⟩
          go_wp2_with fail
          refine (works3_any _).mono ?_; rintro e w2 ⟨rfl, hd⟩
          go_wp2
          go_ret
          exact ⟨rfl, hd⟩
      · skip
        have F1 := Lib.hid f1
        have E1 := Lib.hid e1
        have E2 := Lib.hid e2
        clear f1 e1 e2
        go_wp2_with fail
        refine (div_at m b a true E1.out F1.out B.out _).mono ?_; rintro e w' ⟨rfl, rfl⟩
        go_wp2_with fail
        refine (mod_at m b 0 true E2.out B.out _).mono ?_; rintro e w' ⟨rfl, rfl⟩
        go_wp2_with fail
        refine (is_yes _ _ _ _ rfl rfl _).mono ?_; rintro e w2 ⟨rfl, rfl⟩
        go_wp2_with fail
        refine (is_yes _ _ _ _ rfl rfl _).mono ?_; rintro e w2 ⟨rfl, rfl⟩
        clear b0
        go_wp2_with fail
        refine (div_at a b q c4 H4.out A.out B.out _).mono ?_; rintro e w' ⟨rfl, rfl⟩
        go_wp2_with fail
        refine (mod_at a b r c5 H5.out B.out _).mono ?_; rintro e w' ⟨rfl, rfl⟩
        have FD := Lib.hid (div_fit H4.out A.out)
        rcases back_q a b q r t c4 c5 c6 A.out B.out H4.out H5.out H6.out with ⟨b0, rfl, rfl⟩ | ⟨b0, rfl, hr | hr, rfl | ⟨rfl, rfl | ⟨rfl, f1, f2, e1⟩⟩⟩
        · clear b0
          go_wp2_with fail
          refine (mul_at q b t c6 H6.out FD.out B.out _).mono ?_; rintro e w' ⟨rfl, rfl⟩
          go_wp2_with fail
          refine (works3_any _).mono ?_; rintro e w2 ⟨rfl, hd⟩
          go_wp2
          go_ret
          exact ⟨rfl, hd⟩
        · go_wp2_with fail
          refine (mul_at q b t c6 H6.out FD.out B.out _).mono ?_; rintro e w' ⟨rfl, rfl⟩
          go_wp2_with fail
          refine (works3_any _).mono ?_; rintro e w2 ⟨rfl, hd⟩
          go_wp2
          go_ret
          exact ⟨rfl, hd⟩
        · go_wp2_with fail
          refine (mul_at q b t false H6.out FD.out B.out _).mono ?_; rintro e w' ⟨rfl, rfl⟩
          go_wp2_with fail
          refine (works3_any _).mono ?_; rintro e w2 ⟨rfl, hd⟩
          go_wp2
          go_ret
          exact ⟨rfl, hd⟩
        · have F1 := Lib.hid f1
          have F2 := Lib.hid f2
          have E1 := Lib.hid e1
          clear f1 f2 e1
          go_wp2_with fail
          refine (mul_at q b t true H6.out FD.out B.out _).mono ?_; rintro e w' ⟨rfl, rfl⟩
          go_wp2_with fail
          refine (add_at t r a true E1.out F1.out F2.out _).mono ?_; rintro e w' ⟨rfl, rfl⟩
          go_wp2_with fail
          refine (is_yes _ _ _ _ rfl rfl _).mono ?_; rintro e w2 ⟨rfl, rfl⟩
          go_wp2_with fail
          refine (works3_any _).mono ?_; rintro e w2 ⟨rfl, hd⟩
          go_wp2
          go_ret
          exact ⟨rfl, hd⟩
        · go_wp2_with fail
          refine (mul_at q b t c6 H6.out FD.out B.out _).mono ?_; rintro e w' ⟨rfl, rfl⟩
          go_wp2_with fail
          refine (works3_any _).mono ?_; rintro e w2 ⟨rfl, hd⟩
          go_wp2
          go_ret
          exact ⟨rfl, hd⟩
        · go_wp2_with fail
          refine (mul_at q b t false H6.out FD.out B.out _).mono ?_; rintro e w' ⟨rfl, rfl⟩
          go_wp2_with fail
          refine (works3_any _).mono ?_; rintro e w2 ⟨rfl, hd⟩
          go_wp2
          go_ret
          exact ⟨rfl, hd⟩
        · have F1 := Lib.hid f1
          have F2 := Lib.hid f2
          have E1 := Lib.hid e1
          clear f1 f2 e1
          go_wp2_with fail
          refine (mul_at q b t true H6.out FD.out B.out _).mono ?_; rintro e w' ⟨rfl, rfl⟩
          go_wp2_with fail
          refine (add_at t r a true E1.out F1.out F2.out _).mono ?_; rintro e w' ⟨rfl, rfl⟩
          go_wp2_with fail
          refine (is_yes _ _ _ _ rfl rfl _).mono ?_; rintro e w2 ⟨rfl, rfl⟩
          go_wp2_with fail
          refine (works3_any _).mono ?_; rintro e w2 ⟨rfl, hd⟩
          go_wp2
          go_ret
          exact ⟨rfl, hd⟩
end Go.Proofs.Ytejdeaacpjgjiaa
