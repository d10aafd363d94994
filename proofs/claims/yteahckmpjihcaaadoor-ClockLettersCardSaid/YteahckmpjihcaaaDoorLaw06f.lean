/- The walk of ClockLetters. -/
import Derived.Test.YteahckmpjihcaaaDoorLaw06c
import Derived.Deep.LoopGhost
namespace Go.Proofs.YteahckmpjihcaaaDoor
open Go.RowKit
/-- the letters, their bases -/
def Lt (k : Nat) : UInt8 := [119, 115, 117, 103, 122].getD k 0
def Lb (k : Nat) : Int := [0, 1, 2, 2, 2].getD k 0
theorem Lt_let (k : Nat) (hk : k < 5) : Cl.letB (Lt k) = some (Lb k) := by
  have h : k = 0 ∨ k = 1 ∨ k = 2 ∨ k = 3 ∨ k = 4 := by omega
  rcases h with rfl | rfl | rfl | rfl | rfl <;> rfl
theorem Lb_bd (k : Nat) (hk : k < 5) : 0 ≤ Lb k ∧ Lb k ≤ 2 := Cl.letB_bd (Lt_let k hk)
theorem let_none {c : UInt8} (h : ∀ j, j < 5 → c ≠ Lt j) : Cl.letB c = none := by
  unfold Cl.letB
  rw [if_neg (show c ≠ 119 from h 0 (by omega)), if_neg (show c ≠ 115 from h 1 (by omega)), if_neg ?_]
  rintro (e | e | e)
  · exact h 2 (by omega) e
  · exact h 3 (by omega) e
  · exact h 4 (by omega) e
def cellL (k j : Nat) : Value := match j with
  | 0 => .string ⟨#[Lt k]⟩
  | _ => .int .i64 (Lb k)
/-- a byte as a string, wherever it lies -/
theorem byte_strL (c : Int) : ∀ (b : Nat) (wx : World), wx.cell? ⟨b, 0, none⟩ = some (.int .u8 c) → (convert 40 9 (.slice (some ⟨b, 0, none⟩) 1 1)).run Tryd.prog wx = .ok (.string ⟨#[UInt8.ofNat c.toNat]⟩) wx := by
  intro b wx h
  have := run_convert_bytes_arg (P := Tryd.prog) wx 40 5 Tryd.underlying40 Tryd.underlying5 b 0 1 1 [c] rfl (fun i hi => by obtain rfl : i = 0 := (by omega); exact h) 9 Tryd.underlying9
  rw [this]
  rfl
/-- what the strings with letters mean -/
theorem let_facts {x : Int} (h1 : -604799 ≤ x) (h2 : x ≤ 604799) (S : ByteArray) (hS : ⟨(Of.prt x).toArray⟩ = S) (k : Nat) (hk : k < 5) :
    Cl.parse (S ++ ⟨#[Lt k]⟩).data.toList = (x, Lb k, 0) ∧ Cl.parse (S ++ ⟨#[Lt k]⟩ ++ ⟨#[Lt k]⟩).data.toList = (0, 0, 5) := by
  subst hS
  have e1 : ((⟨(Of.prt x).toArray⟩ : ByteArray) ++ ⟨#[Lt k]⟩) = ⟨(Of.prt x ++ [Lt k]).toArray⟩ := app_bs _ [Lt k]
  have e2 : ((⟨(Of.prt x ++ [Lt k]).toArray⟩ : ByteArray) ++ ⟨#[Lt k]⟩) = ⟨(Of.prt x ++ [Lt k] ++ [Lt k]).toArray⟩ := app_bs _ [Lt k]
  rw [e1, e2]
  refine ⟨Cl.parse_let h1 h2 _ _ (Lt_let k hk), ?_⟩
  show Cl.parse (Of.prt x ++ [Lt k] ++ [Lt k]) = _
  rw [List.append_assoc]
  exact Cl.parse_twice h1 h2 _ _ _ (Lt_let k hk)
theorem byte_facts {x : Int} (h1 : -604799 ≤ x) (h2 : x ≤ 604799) (S : ByteArray) (hS : ⟨(Of.prt x).toArray⟩ = S) (c : Int) (hc : 0 ≤ c ∧ c < 256) (h : ∀ j, j < 5 → c ≠ ((Lt j).toNat : Int)) :
    Cl.parse (S ++ ⟨#[UInt8.ofNat c.toNat]⟩).data.toList = (0, 0, 5) := by
  subst hS
  have e1 : ((⟨(Of.prt x).toArray⟩ : ByteArray) ++ ⟨#[UInt8.ofNat c.toNat]⟩) = ⟨(Of.prt x ++ [UInt8.ofNat c.toNat]).toArray⟩ := app_bs _ [_]
  rw [e1]
  refine Cl.parse_no h1 h2 _ (let_none fun j hj e => h j hj ?_)
  rw [← e, UInt8.toNat_ofNat']
  omega
theorem reads_b {W0 w : World} (s : ByteArray) (x b : Int) (hs : Hid (s.size ≤ maxLen)) (h : Hid (Cl.parse s.data.toList = (x, b, 0))) (HC : Hid (Ks W0 w)) : Calls Tryd.prog 18 #[.string s, .int .i64 x, .int .i64 b] w fun e w' => e = .returned (.bool true) ∧ Below w.heap.size w w' :=
  (reads_s s x b hs h (Lib.hid (Ks.mk0 HC.out.2))).mono fun _ _ ⟨he, hb⟩ => ⟨he, hb.out.1⟩
theorem fails_b {W0 w : World} (s : ByteArray) (f : Int) (hs : Hid (s.size ≤ maxLen)) (h : Hid (Cl.parse s.data.toList = (0, 0, f))) (HC : Hid (Ks W0 w)) : Calls Tryd.prog 19 #[.string s, .int .i64 f] w fun e w' => e = .returned (.bool true) ∧ Below w.heap.size w w' :=
  (fails_s s f hs h (Lib.hid (Ks.mk0 HC.out.2))).mono fun _ _ ⟨he, hb⟩ => ⟨he, hb.out.1⟩
set_option maxRecDepth 100000 in
set_option maxHeartbeats 4000000 in
theorem cletters_core (m c x : Int) (hm : -2147483648 ≤ m ∧ m ≤ 2147483647) (hc0 : 0 ≤ c) (hc1 : c < 256) (hx : m.tmod 604800 = x) (bx1 : -604799 ≤ x) (bx2 : x ≤ 604799) (S : ByteArray) (hS : ⟨(Of.prt x).toArray⟩ = S)
    (W0 : World) (hTT : Tabs W0) : Calls Tryd.prog 7 #[.int .i32 m, .int .u8 c] W0 fun e w' => e = .returned (.bool true) ∧ Below W0.heap.size W0 w' := by
  have HC := Lib.hid (Ks.mk0 hTT)
  have HL := Lib.hid (let_facts bx1 bx2 S hS)
  have HB := Lib.hid (byte_facts bx1 bx2 S hS c ⟨hc0, hc1⟩)
  have hp := of_prs_yes bx1 bx2
  have hw := Cl.parse_wall bx1 bx2
  have hl := (Of.prt_len x).2
  have hsz : S.size ≤ 10 := by rw [← hS, bs_size]; exact hl
  have hwl : Cl.parse S.data.toList = (x, 0, 0) := by rw [← hS]; exact hw
  rw [hS] at hp
  have HP0 := Lib.hid hp
  have HW := Lib.hid hwl
  have HX := Lib.hid (show -9223372036854775808 ≤ x ∧ x ≤ 9223372036854775807 by omega)
  have HSZ := Lib.hid hsz
  obtain ⟨hm1, hm2⟩ := hm
  clear hTT hp hw hl hS hwl
  go_enter Tryd.func7, Tryd.ntmps7
  go_wp2_with fail
  refine (print_at x HX.out S 0 HP0.out _ HC.out.2.1.1 HC.out.2.1.2).mono ?_; rintro e w1 ⟨rfl, hb⟩; replace HC := Ks.hbl HC hb; clear hb
  go_wp2_with fail
  refine (reads_s S x 0 (Lib.hid (by have := HSZ.out; unfold maxLen; omega)) HW HC).mono ?_; rintro e w2 ⟨rfl, HC⟩
  go_wp2
  generalize hW : World.alloc w2 _ = W1
  have hc : ∀ i j, i < 5 → j < 2 → W1.cell? ⟨w2.heap.size, i * 2 + j, none⟩ = some (cellL i j) := by
    intro i j hi hj
    rw [← hW]
    refine new_cell _ _ _ _ _ ?_
    have h3 : i = 0 ∨ i = 1 ∨ i = 2 ∨ i = 3 ∨ i = 4 := by omega
    have h2 : j = 0 ∨ j = 1 := by omega
    rcases h3 with rfl | rfl | rfl | rfl | rfl <;> rcases h2 with rfl | rfl <;> rfl
  have HS1 : Hid (Ks W0 W1) := by rw [← hW]; exact Ks.hal HC _
  have hz : w2.heap.size < W1.heap.size := by rw [← hW]; simp
  have HK := Lib.hid hc
  clear hc hW HC
  generalize w2.heap.size = g at *
  go_loopw [35] (fun i wr => ∃ k : Nat, k ≤ 5 ∧ i = .int .i64 k ∧ (∀ j, j < k → c ≠ ((Lt j).toNat : Int)) ∧ Below W1.heap.size W1 wr) (fun i _ => 5 - (intOf i).toNat)
  case atStart => exact ⟨0, by omega, rfl, (fun j hj => absurd hj (Nat.not_lt_zero j)), Below.refl _ _⟩
  case round =>
    obtain ⟨k, hk, rfl, hne, hb⟩ := hrel
    have HP := Lib.hid (HS1.out.bl hb)
    have HNE := Lib.hid hne
    clear hne
    by_cases hk3 : k < 5
    · have cs : ∀ j, j < 2 → wr.cell? ⟨g, k * 2 + j, none⟩ = some (cellL k j) := fun j hj => (hb.cell (p := ⟨g, k * 2 + j, none⟩) hz).trans (HK.out k j hk3 hj)
      have c0 : wr.cell? ⟨g, k * 2, none⟩ = some (.string ⟨#[Lt k]⟩) := cs 0 (by omega)
      have c1 : wr.cell? ⟨g, k * 2 + 1, none⟩ = some (.int .i64 (Lb k)) := cs 1 (by omega)
      have HF := Lib.hid (HL.out k hk3)
      have hL0 : 0 < (⟨#[Lt k]⟩ : ByteArray).size := Nat.zero_lt_one
      have hls : (⟨#[Lt k]⟩ : ByteArray).size = 1 := rfl
      have hlv : (((⟨#[Lt k]⟩ : ByteArray)[0]'hL0).toNat : Int) = ((Lt k).toNat : Int) := rfl
      have hlb : ((Lt k).toNat : Int) < 256 := by have := (Lt k).toNat_lt; omega
      have HB2 := Lib.hid hb
      have hnx : c ≠ ((Lt k).toNat : Int) → ∀ j, j < k + 1 → c ≠ ((Lt j).toNat : Int) := by
        intro h j hj
        by_cases e : j = k
        · subst e; exact h
        · exact HNE.out j (by omega)
      have HNX := Lib.hid hnx
      clear hb cs hnx
      generalize (⟨#[Lt k]⟩ : ByteArray) = L at *
      generalize Lb k = lb0 at *
      have hq1 : ¬ 9223372036854775807 < S.size + L.size := by omega
      have hq2 : ¬ 9223372036854775807 < S.size + L.size + L.size := by omega
      have hq1' : ¬ 9223372036854775807 < S.size + 1 := by omega
      have hq2' : ¬ 9223372036854775807 < S.size + 1 + 1 := by omega
      generalize ((Lt k).toNat : Int) = v at *
      have d0 := new_cell wr #[.string L, .int .i64 lb0] 37 0 (.string L) rfl
      have d1 := new_cell wr #[.string L, .int .i64 lb0] 37 1 (.int .i64 lb0) rfl
      have HP2 := Ks.hal HP (.cells #[.string L, .int .i64 lb0] 37)
      have HB3 := Lib.hid (HB2.out.alloc HB2.out.size (.cells #[.string L, .int .i64 lb0] 37))
      have HM1 : Hid ((S ++ L).size ≤ maxLen) := Lib.hid (by rw [ByteArray.size_append]; unfold maxLen; omega)
      have HM2 : Hid ((S ++ L ++ L).size ≤ maxLen) := Lib.hid (by rw [ByteArray.size_append, ByteArray.size_append]; unfold maxLen; omega)
      go_wp2_with fail
      generalize wr.alloc (.cells #[.string L, .int .i64 lb0] 37) = W2 at *
      generalize wr.heap.size = g2 at *
      refine (reads_b (S ++ L) x lb0 HM1 (Lib.hid HF.out.1) HP2).mono ?_
      rintro e w4 ⟨rfl, hb⟩
      replace d0 := cell_bl hb d0
      replace d1 := cell_bl hb d1
      replace HP2 := Ks.hbl HP2 hb
      replace HB3 := Lib.hid ((HB3.out.trans (hb.mono HB3.out.size) : Below W1.heap.size W1 w4))
      clear hb
      go_wp2_with fail
      refine (fails_b (S ++ L ++ L) 5 HM2 (Lib.hid HF.out.2) HP2).mono ?_
      rintro e w5 ⟨rfl, hb⟩
      replace d0 := cell_bl hb d0
      replace d1 := cell_bl hb d1
      replace HP2 := Ks.hbl HP2 hb
      replace HB3 := Lib.hid ((HB3.out.trans (hb.mono HB3.out.size) : Below W1.heap.size W1 w5))
      clear hb
      by_cases hcv : c = v
      · have hcb : (c == v) = true := by simpa using hcv
        clear hcv
        go_wp2_with fail
        refine (works6_s HP2).mono ?_
        rintro e w6 ⟨rfl, HP3⟩
        go_wp2
        go_ret
        exact ⟨rfl, HP3.out.1⟩
      · have hcb : (c == v) = false := by simpa using hcv
        have HNY := Lib.hid (HNX.out hcv)
        clear hcv
        go_wp2
        go_roundw
        case rel => first | exact ⟨k + 1, by omega, by go_num, HNY.out, HB3.out⟩ | ((repeat apply Exists.intro); exact ⟨⟨k + 1, by omega, by go_num, HNY.out, HB3.out⟩, rfl⟩)
        case measure => simp [intOf]; omega
    · obtain rfl : k = 5 := by omega
      have hcv := byte_strL c
      have hcw := hcv wr.heap.size
      have hq : ¬ 9223372036854775807 < S.size + (⟨#[UInt8.ofNat c.toNat]⟩ : ByteArray).size := by
        have : (⟨#[UInt8.ofNat c.toNat]⟩ : ByteArray).size = 1 := rfl
        omega
      have hmx : (S ++ ⟨#[UInt8.ofNat c.toNat]⟩).size ≤ maxLen := by
        have : (⟨#[UInt8.ofNat c.toNat]⟩ : ByteArray).size = 1 := rfl
        rw [ByteArray.size_append]; unfold maxLen; omega
      have HM := Lib.hid hmx
      have HN := Lib.hid (HB.out HNE.out)
      clear hb hcv HK HL HB HNE hmx
      generalize (⟨#[UInt8.ofNat c.toNat]⟩ : ByteArray) = C at *
      go_wp2_with fail
      refine (kparse_s (S ++ C) 0 0 5 HM HN (Ks.hal HP _)).mono ?_
      rintro e w6 ⟨rfl, HP⟩
      go_wp2_with fail
      refine (works6_s (Ks.hal HP _)).mono ?_
      rintro e w7 ⟨rfl, HP⟩
      go_wp2
      go_ret
      exact ⟨rfl, HP.out.1⟩
theorem cletters_walk (m : Int) (hm : (Lit.int .i32 m).wf = true) (c : Int) (hc : (Lit.int .u8 c).wf = true) (W0 : World) (hT : Tabs W0) : Calls Tryd.prog 7 #[.int .i32 m, .int .u8 c] W0 fun e w' => e = .returned (.bool true) ∧ Below W0.heap.size W0 w' := by
  have g1 := bounds_i32 hm
  have g2 := bounds_u8 hc
  have m1 : -2147483648 ≤ m ∧ m ≤ 2147483647 := by omega
  have bx := made_bd (a := 0) m1
  exact cletters_core m c _ m1 (by omega) (by omega) rfl bx.1.1 bx.1.2 _ rfl W0 hT
end Go.Proofs.YteahckmpjihcaaaDoor
