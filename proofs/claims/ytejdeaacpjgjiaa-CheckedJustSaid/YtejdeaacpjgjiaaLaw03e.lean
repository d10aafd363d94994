/- The walk of CheckedJust: for any two numbers it returns true. -/
import Derived.Test.YtejdeaacpjgjiaaLaw03b
import Derived.Deep.DeepCutAuto
namespace Go.Proofs.Ytejdeaacpjgjiaa
open Go.RowKit

theorem just_s (a b s : Int) (c : Bool) (h : Ck.rs (a + b) = s ∧ Ck.fit (a + b) = c) : (c = true ∧ (s != wrap64 (a + b)) = false) ∨ (c = false ∧ s = 0) := by
  obtain ⟨rfl, rfl⟩ := h
  rcases Ck.fit_cases (a + b) with ⟨h1, h2, h3⟩ | ⟨h1, h2, h3⟩
  · exact .inl ⟨h1, by rw [h2, wrap64_of h3]; simp⟩
  · exact .inr ⟨h1, h2⟩
theorem just_d (a b q r : Int) (c4 c5 : Bool) (h4 : (if Ck.dok a b then Ck.dv a b else 0) = q ∧ Ck.dok a b = c4) (h5 : (if decide (b ≠ 0) then Ck.md a b else 0) = r ∧ decide (b ≠ 0) = c5) :
    ((b != 0) = false ∧ c4 = false ∧ c5 = false) ∨ ((b != 0) = true ∧ c5 = true ∧ (((b != -1) = true ∧ c4 = true) ∨ ((b != -1) = false ∧ (a != -9223372036854775808) = false ∧ c4 = false) ∨ ((b != -1) = false ∧ (a != -9223372036854775808) = true ∧ c4 = true))) := by
  obtain ⟨_, rfl⟩ := h4
  obtain ⟨_, rfl⟩ := h5
  by_cases x : b = 0
  · exact .inl ⟨by simpa using x, (Ck.dok_no _ _).2 (.inl x), by simpa using x⟩
  · refine .inr ⟨by simpa using x, by simpa using x, ?_⟩
    by_cases y : b = -1
    · by_cases z : a = -9223372036854775808
      · exact .inr (.inl ⟨by simpa using y, by simpa using z, (Ck.dok_no _ _).2 (.inr ⟨z, y⟩)⟩)
      · exact .inr (.inr ⟨by simpa using y, by simpa using z, (Ck.dok_iff _ _).2 ⟨x, fun g => z g.1⟩⟩)
    · exact .inl ⟨by simpa using y, (Ck.dok_iff _ _).2 ⟨x, fun g => y g.2⟩⟩
set_option maxRecDepth 100000 in
set_option maxHeartbeats 4000000 in
theorem just_walk (a : Int) (wa : (Lit.int .i64 a).wf = true) (b : Int) (wb : (Lit.int .i64 b).wf = true) (W : World) :
    Calls Try.prog 6 #[.int .i64 a, .int .i64 b] W fun e w' => e = .returned (.bool true) ∧ Below W.heap.size W w' := by
  have ba := bd_i64 wa
  have bb := bd_i64 wb
  have A := Lib.hid ((Ck.fit_iff a).2 ba)
  have B := Lib.hid ((Ck.fit_iff b).2 bb)
  clear wa wb
  obtain ⟨s, c1, H1⟩ : ∃ s c, Hid (Ck.rs (a + b) = s ∧ Ck.fit (a + b) = c) := ⟨_, _, Lib.hid ⟨rfl, rfl⟩⟩
  obtain ⟨d, c2, H2⟩ : ∃ s c, Hid (Ck.rs (a - b) = s ∧ Ck.fit (a - b) = c) := ⟨_, _, Lib.hid ⟨rfl, rfl⟩⟩
  obtain ⟨m, c3, H3⟩ : ∃ s c, Hid (Ck.rs (a * b) = s ∧ Ck.fit (a * b) = c) := ⟨_, _, Lib.hid ⟨rfl, rfl⟩⟩
  obtain ⟨g1, G1⟩ : ∃ g, Hid ((decide (0 ≤ a) && decide (0 ≤ b)) = g) := ⟨_, Lib.hid rfl⟩
  obtain ⟨g2, G2⟩ : ∃ g, Hid ((decide (a < 0) && decide (b < 0)) = g) := ⟨_, Lib.hid rfl⟩
  obtain ⟨v1, V1⟩ : ∃ g, Hid ((if g1 then c1 else true) = g) := ⟨_, Lib.hid rfl⟩
  go_enter Try.func6, Try.ntmps6
  go_upto_region 2 with fail
  go_cut [27] (fun s27 wx => s27 = .bool g1 ∧ W = wx)
  case first =>
    by_cases x : 0 ≤ a
    · by_cases y : 0 ≤ b
      · go_wp2_with fail
        go_meet
        exact ⟨by rw [← G1.out]; simp [x, y], rfl⟩
      · go_wp2_with fail
        go_meet
        exact ⟨by rw [← G1.out]; simp; omega, rfl⟩
    · go_wp2_with fail
      go_meet
      exact ⟨by rw [← G1.out]; simp; omega, rfl⟩
  case rest =>
    obtain ⟨rfl, rfl⟩ := hcut
    go_upto_if 27 with fail
    go_cut [5] (fun s5 wx => s5 = .bool v1 ∧ W = wx)
    case first =>
      cases g1 with
      | true =>
        have g := G1.out
        simp at g
        obtain ⟨gx, gy⟩ := g
        go_wp2_with fail
        go_meet
        refine ⟨?_, rfl⟩
        rw [← V1.out, ← H1.out.2]
        show _ = Value.bool (Ck.fit (a + b))
        unfold Ck.fit
        congr 1
        rw [decide_eq_decide]
        omega
      | false =>
        go_wp2_with fail
        go_meet
        exact ⟨by rw [← V1.out]; rfl, rfl⟩
    case rest =>
      obtain ⟨rfl, rfl⟩ := hcut
      go_upto_region 4 with fail
      go_cut [39] (fun s39 wx => s39 = .bool g2 ∧ W = wx)
      case first =>
        by_cases x : a < 0
        · by_cases y : b < 0
          · go_wp2_with fail
            go_meet
            exact ⟨by rw [← G2.out]; simp [x, y], rfl⟩
          · go_wp2_with fail
            go_meet
            exact ⟨by rw [← G2.out]; simp; omega, rfl⟩
        · go_wp2_with fail
          go_meet
          exact ⟨by rw [← G2.out]; simp; omega, rfl⟩
      case rest =>
        obtain ⟨rfl, rfl⟩ := hcut
        go_upto_if 39 with fail
        go_cut [5] (fun s5 wx => s5 = .bool c1 ∧ W = wx)
        case first =>
          cases g2 with
          | true =>
            have g := G2.out
            simp at g
            obtain ⟨gx, gy⟩ := g
            go_wp2_with fail
            go_meet
            refine ⟨?_, rfl⟩
            rw [← H1.out.2]
            unfold Ck.fit
            congr 1
            rw [decide_eq_decide]
            omega
          | false =>
            go_wp2_with fail
            go_meet
            refine ⟨?_, rfl⟩
            rw [← V1.out]
            have g2 := G2.out
            cases g1 with
            | true => rfl
            | false =>
              have g1 := G1.out
              simp at g1 g2
              show Value.bool true = Value.bool c1
              rw [← H1.out.2]
              congr 1
              exact ((Ck.fit_iff _).2 (by omega)).symm
        case rest =>
          obtain ⟨rfl, rfl⟩ := hcut
          clear ba bb V1 G1 G2
          go_wp2_with fail
          refine (add_at a b s c1 H1.out A.out B.out _).mono ?_; rintro e w' ⟨rfl, rfl⟩
          go_wp2_with fail
          refine (add_at b a s c1 (by rw [Int.add_comm]; exact H1.out) B.out A.out _).mono ?_; rintro e w' ⟨rfl, rfl⟩
          go_wp2_with fail
          refine (mul_at a b m c3 H3.out A.out B.out _).mono ?_; rintro e w' ⟨rfl, rfl⟩
          go_wp2_with fail
          refine (mul_at b a m c3 (by rw [Int.mul_comm]; exact H3.out) B.out A.out _).mono ?_; rintro e w' ⟨rfl, rfl⟩
          go_upto_region 10 with fail
          go_cut [110] (fun s110 wx => s110 = .bool false ∧ W = wx)
          case first =>
            rcases just_s a b s c1 H1.out with ⟨rfl, e1⟩ | ⟨rfl, rfl⟩
            · go_wp2_with fail
              refine (is_yes _ _ _ _ rfl rfl _).mono ?_; rintro e w' ⟨rfl, rfl⟩
              go_wp2_with fail
              refine (is_yes _ _ _ _ rfl rfl _).mono ?_; rintro e w' ⟨rfl, rfl⟩
              go_wp2_with fail
              go_meet
              exact ⟨rfl, rfl⟩
            · go_wp2_with fail
              refine (is_yes _ _ _ _ rfl rfl _).mono ?_; rintro e w' ⟨rfl, rfl⟩
              go_wp2_with fail
              refine (is_yes _ _ _ _ rfl rfl _).mono ?_; rintro e w' ⟨rfl, rfl⟩
              go_wp2_with fail
              go_meet
              exact ⟨rfl, rfl⟩
          case rest =>
            obtain ⟨rfl, rfl⟩ := hcut
            go_upto_if 112 with fail
            go_cut [] (fun wx => W = wx)
            case first =>
              by_cases x : (b != -9223372036854775808) = false
              · go_wp2_with fail
                go_meet
                exact rfl
              · replace x : (b != -9223372036854775808) = true := by simpa using x
                have bb := (Ck.fit_iff b).1 B.out
                have x2 : b ≠ -9223372036854775808 := by simpa using x
                have bn : -9223372036854775807 ≤ b := by omega
                have NB := Lib.hid ((Ck.fit_iff (-b)).2 (by omega))
                have H4 : Hid (Ck.rs (a + -b) = d ∧ Ck.fit (a + -b) = c2) := Lib.hid (by rw [← Int.sub_eq_add_neg]; exact H2.out)
                clear x2
                go_wp2_with fail
                refine (sub_at a b d c2 H2.out A.out B.out _).mono ?_; rintro e w' ⟨rfl, rfl⟩
                go_wp2_with fail
                refine (add_at a (-b) d c2 H4.out A.out NB.out _).mono ?_; rintro e w' ⟨rfl, rfl⟩
                go_wp2_with fail
                refine (is_yes _ _ _ _ rfl rfl _).mono ?_; rintro e w' ⟨rfl, rfl⟩
                go_wp2_with fail
                go_meet
                exact rfl
            case rest =>
              obtain rfl := hcut
              obtain ⟨q, c4, H4⟩ : ∃ s c, Hid ((if Ck.dok a b then Ck.dv a b else 0) = s ∧ Ck.dok a b = c) := ⟨_, _, Lib.hid ⟨rfl, rfl⟩⟩
              obtain ⟨r, c5, H5⟩ : ∃ s c, Hid ((if decide (b ≠ 0) then Ck.md a b else 0) = s ∧ decide (b ≠ 0) = c) := ⟨_, _, Lib.hid ⟨rfl, rfl⟩⟩
              go_wp2_with fail
              refine (div_at a b q c4 H4.out A.out B.out _).mono ?_; rintro e w' ⟨rfl, rfl⟩
              go_wp2_with fail
              refine (mod_at a b r c5 H5.out B.out _).mono ?_; rintro e w' ⟨rfl, rfl⟩
              rcases just_d a b q r c4 c5 H4.out H5.out with ⟨x0, rfl, rfl⟩ | ⟨x0, rfl, ⟨x1, rfl⟩ | ⟨x1, x2, rfl⟩ | ⟨x1, x2, rfl⟩⟩
              · skip
                go_wp2_with fail
                refine (works3_any _).mono ?_; rintro e w2 ⟨rfl, hd⟩
                go_wp2
                go_ret
                exact ⟨rfl, hd⟩
              · skip
                go_wp2_with fail
                refine (works3_any _).mono ?_; rintro e w2 ⟨rfl, hd⟩
                go_wp2
                go_ret
                exact ⟨rfl, hd⟩
              · skip
                go_wp2_with fail
                refine (works3_any _).mono ?_; rintro e w2 ⟨rfl, hd⟩
                go_wp2
                go_ret
                exact ⟨rfl, hd⟩
              · skip
                go_wp2_with fail
                refine (works3_any _).mono ?_; rintro e w2 ⟨rfl, hd⟩
                go_wp2
                go_ret
                exact ⟨rfl, hd⟩
end Go.Proofs.Ytejdeaacpjgjiaa
