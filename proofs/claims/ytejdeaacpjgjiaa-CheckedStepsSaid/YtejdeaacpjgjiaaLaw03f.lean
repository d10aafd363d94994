/- The walk of CheckedSteps: for any numbers it returns true. -/
import Derived.Test.YtejdeaacpjgjiaaLaw03b
import Derived.Deep.DeepCutAuto
namespace Go.Proofs.Ytejdeaacpjgjiaa
open Go.RowKit

theorem steps_n (a b m n s : Int) (p q r : Bool) (h1 : Ck.rs (a * b) = m ∧ Ck.fit (a * b) = p) (h2 : Ck.rs (a * (b + 1)) = n ∧ Ck.fit (a * (b + 1)) = q) (h3 : Ck.rs (m + a) = s ∧ Ck.fit (m + a) = r) : p = false ∨ (p = true ∧ q = false ∧ r = false) ∨ (p = true ∧ q = true ∧ r = true ∧ s = n) := by
  obtain ⟨rfl, rfl⟩ := h1
  obtain ⟨rfl, rfl⟩ := h2
  obtain ⟨rfl, rfl⟩ := h3
  rcases Ck.fit_cases (a * b) with ⟨e1, e2, e3⟩ | ⟨e1, e2, e3⟩
  · right
    have e : Ck.rs (a * b) + a = a * (b + 1) := by rw [e2, Int.mul_add]; omega
    rw [e]
    cases c : Ck.fit (a * (b + 1)) with
    | true => exact .inr ⟨e1, rfl, rfl, rfl⟩
    | false => exact .inl ⟨e1, rfl, rfl⟩
  · exact .inl e1
theorem steps_d (a k d x y : Int) (f g : Bool) (hk : 0 < k) (fa : Ck.fit a = true) (h4 : (if Ck.dok a k then Ck.dv a k else 0) = d ∧ Ck.dok a k = true) (h5 : Ck.rs (d * k) = x ∧ Ck.fit (d * k) = f) (h6 : Ck.rs ((d + 1) * k) = y ∧ Ck.fit ((d + 1) * k) = g) :
    (f = false ∨ (f = true ∧ x ≤ a)) ∧ (g = false ∨ (g = true ∧ a < y)) ∧ Ck.fit d = true := by
  obtain ⟨h4, e4⟩ := h4
  rw [e4] at h4
  obtain rfl : Ck.dv a k = d := h4
  obtain ⟨rfl, rfl⟩ := h5
  obtain ⟨rfl, rfl⟩ := h6
  obtain ⟨e1, e2, e3⟩ := Ck.dv_facts a k (by omega)
  have e5 := e2 hk
  refine ⟨?_, ?_, (Ck.fit_iff _).2 (Ck.dv_bd a k ((Ck.fit_iff a).1 fa) e4)⟩
  · rcases Ck.fit_cases (Ck.dv a k * k) with ⟨h1, h2, h3⟩ | ⟨h1, h2, h3⟩
    · exact .inr ⟨h1, by rw [h2, Int.mul_comm]; omega⟩
    · exact .inl h1
  · rcases Ck.fit_cases ((Ck.dv a k + 1) * k) with ⟨h1, h2, h3⟩ | ⟨h1, h2, h3⟩
    · exact .inr ⟨h1, by rw [h2, Int.add_mul, Int.mul_comm]; omega⟩
    · exact .inl h1
set_option maxRecDepth 100000 in
set_option maxHeartbeats 4000000 in
theorem steps_walk (a : Int) (wa : (Lit.int .i64 a).wf = true) (b : Int) (wb : (Lit.int .i64 b).wf = true) (c : Int) (wc : (Lit.int .u32 c).wf = true) (W : World) :
    Calls Try.prog 7 #[.int .i64 a, .int .i64 b, .int .u32 c] W fun e w' => e = .returned (.bool true) ∧ Below W.heap.size W w' := by
  have A := Lib.hid ((Ck.fit_iff a).2 (bd_i64 wa))
  have B := Lib.hid ((Ck.fit_iff b).2 (bd_i64 wb))
  have bc : 0 ≤ c ∧ c ≤ 4294967295 := bounds_u32 wc
  clear wa wb wc
  have K := Lib.hid ((Ck.fit_iff (c + 1)).2 (by omega))
  obtain ⟨m, p, H1⟩ : ∃ s c, Hid (Ck.rs (a * b) = s ∧ Ck.fit (a * b) = c) := ⟨_, _, Lib.hid ⟨rfl, rfl⟩⟩
  obtain ⟨n, q, H2⟩ : ∃ s c, Hid (Ck.rs (a * (b + 1)) = s ∧ Ck.fit (a * (b + 1)) = c) := ⟨_, _, Lib.hid ⟨rfl, rfl⟩⟩
  obtain ⟨s, r, H3⟩ : ∃ s c, Hid (Ck.rs (m + a) = s ∧ Ck.fit (m + a) = c) := ⟨_, _, Lib.hid ⟨rfl, rfl⟩⟩
  have M : Hid (Ck.fit m = true) := Lib.hid (by rw [← H1.out.1]; exact (Ck.fit_iff _).2 (Ck.rs_bd _))
  have hdok : Ck.dok a (c + 1) = true := (Ck.dok_iff _ _).2 ⟨by omega, by omega⟩
  obtain ⟨d, H4⟩ : ∃ d, Hid ((if Ck.dok a (c + 1) then Ck.dv a (c + 1) else 0) = d ∧ Ck.dok a (c + 1) = true) := ⟨_, Lib.hid ⟨rfl, hdok⟩⟩
  clear hdok
  obtain ⟨x, f, H5⟩ : ∃ s f, Hid (Ck.rs (d * (c + 1)) = s ∧ Ck.fit (d * (c + 1)) = f) := ⟨_, _, Lib.hid ⟨rfl, rfl⟩⟩
  obtain ⟨y, g, H6⟩ : ∃ s f, Hid (Ck.rs ((d + 1) * (c + 1)) = s ∧ Ck.fit ((d + 1) * (c + 1)) = f) := ⟨_, _, Lib.hid ⟨rfl, rfl⟩⟩
  have SD := Lib.hid (steps_d a (c + 1) d x y f g (by omega) A.out H4.out H5.out H6.out)
  go_enter Try.func7, Try.ntmps7
  go_wp2_with fail
  refine (mul_at a b m p H1.out A.out B.out _).mono ?_; rintro e w' ⟨rfl, rfl⟩
  go_upto_if 28 with fail
  go_cut [] (fun wx => W = wx)
  case first =>
    by_cases hb : b < 9223372036854775807
    · have bb := (Ck.fit_iff b).1 B.out
      have NB := Lib.hid ((Ck.fit_iff (b + 1)).2 (by omega))
      go_wp2_with fail
      refine (mul_at a (b + 1) n q H2.out A.out NB.out _).mono ?_; rintro e w' ⟨rfl, rfl⟩
      go_wp2_with fail
      refine (add_at m a s r H3.out M.out A.out _).mono ?_; rintro e w' ⟨rfl, rfl⟩
      rcases steps_n a b m n s p q r H1.out H2.out H3.out with rfl | ⟨rfl, rfl, rfl⟩ | ⟨rfl, rfl, rfl, rfl⟩
      · go_wp2_with fail
        go_meet
        exact rfl
      · go_wp2_with fail
        go_meet
        exact rfl
      · go_wp2_with fail
        refine (is_yes _ _ _ _ rfl rfl _).mono ?_; rintro e w' ⟨rfl, rfl⟩
        go_wp2_with fail
        go_meet
        exact rfl
    · go_wp2_with fail
      go_meet
      exact rfl
  case rest =>
    obtain rfl := hcut
    go_wp2_with fail
    refine (div_at a (c + 1) d true H4.out A.out K.out _).mono ?_; rintro e w' ⟨rfl, rfl⟩
    go_wp2_with fail
    refine (mul_at d (c + 1) x f H5.out SD.out.2.2 K.out _).mono ?_; rintro e w' ⟨rfl, rfl⟩
    go_upto_region 12 with fail
    go_cut [85] (fun s85 wx => s85 = .bool false ∧ W = wx)
    case first =>
      rcases SD.out.1 with rfl | ⟨rfl, hx⟩
      · go_wp2_with fail
        go_meet
        exact ⟨rfl, rfl⟩
      · have hx2 : ¬ a < x := by omega
        go_wp2_with fail
        go_meet
        exact ⟨rfl, rfl⟩
    case rest =>
      obtain ⟨rfl, rfl⟩ := hcut
      by_cases hd : d = 9223372036854775807
      · have E : Hid (Ck.rs (d + 1) = 0 ∧ Ck.fit (d + 1) = false) := by
          subst hd; exact Lib.hid ⟨by decide, by decide⟩
        have d2 : (d == 9223372036854775807) = true := by simpa using hd
        clear hd
        go_wp2_with fail
        refine (add_at d 1 0 false E.out SD.out.2.2 (by decide) _).mono ?_; rintro e w' ⟨rfl, rfl⟩
        go_wp2_with fail
        refine (works3_any _).mono ?_; rintro e w2 ⟨rfl, hd⟩
        go_wp2
        go_ret
        exact ⟨rfl, hd⟩
      · have bd := (Ck.fit_iff d).1 SD.out.2.2
        have E : Hid (Ck.rs (d + 1) = d + 1 ∧ Ck.fit (d + 1) = true) := by
          have := (Ck.fit_iff (d + 1)).2 (by omega)
          exact Lib.hid ⟨Ck.rs_yes this, this⟩
        go_wp2_with fail
        refine (add_at d 1 (d + 1) true E.out SD.out.2.2 (by decide) _).mono ?_; rintro e w' ⟨rfl, rfl⟩
        go_wp2_with fail
        refine (mul_at (d + 1) (c + 1) y g H6.out E.out.2 K.out _).mono ?_; rintro e w' ⟨rfl, rfl⟩
        rcases SD.out.2.1 with rfl | ⟨rfl, hx⟩
        · go_wp2_with fail
          refine (works3_any _).mono ?_; rintro e w2 ⟨rfl, hd⟩
          go_wp2
          go_ret
          exact ⟨rfl, hd⟩
        · go_wp2_with fail
          refine (works3_any _).mono ?_; rintro e w2 ⟨rfl, hd⟩
          go_wp2
          go_ret
          exact ⟨rfl, hd⟩
end Go.Proofs.Ytejdeaacpjgjiaa
