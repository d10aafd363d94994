/- The document's Fields: contracts. -/
import Derived.Test.YtlekbbggbfhgaaaDoorLq
import Derived.Test.YtlekbbggbfhgaaaDoorRef05
import Derived.Test.YtlekbbggbfhgaaaDoorLxf
namespace Go.Proofs.YtlekbbggbfhgaaaDoor
open Go.RowKit
theorem plain_core (n : Int) (k : Bool) (h0 : 0 ≤ n) (h1 : n < 256) (hk : (n = 34 ∧ k = false) ∨ (n = 35 ∧ k = false) ∨ ((n ≠ 34 ∧ n ≠ 35) ∧ ((n < 33 ∧ k = false) ∨ (126 < n ∧ k = false) ∨ (33 ≤ n ∧ n ≤ 126 ∧ k = true)))) (w : World) :
    Calls Tryd.prog 32 #[.int .u8 n] w fun e w' => e = .returned (.bool k) ∧ w = w' := by
  rcases hk with ⟨rfl, rfl⟩ | ⟨rfl, rfl⟩ | ⟨⟨e1, e2⟩, ⟨h2, rfl⟩ | ⟨h2, rfl⟩ | ⟨h2, h3, rfl⟩⟩
  all_goals
    (try have b1 : (n != 34) = true := by simpa using e1)
    (try have b2 : (n != 35) = true := by simpa using e2)
    (try clear e1 e2)
    go_enter Tryd.func32, Tryd.ntmps32
    go_wp2
    go_ret
    first | exact ⟨rfl, rfl⟩ | exact ⟨ret_bool (by simp; omega), rfl⟩ | exact ⟨ret_bool (by simp_all), rfl⟩
theorem plain_any (b : UInt8) (w : World) : Calls Tryd.prog 32 #[.int .u8 (b.toNat : Int)] w fun e w' => e = .returned (.bool (Lx.pl b)) ∧ w = w' := by
  have hb := b.toNat_lt
  refine plain_core _ _ (by omega) (by omega) ?_ w
  unfold Lx.pl
  rcases Lx.kindF b with ⟨h, e⟩ | ⟨h, e⟩ | ⟨h, e⟩ | ⟨h, e⟩ | ⟨h, ⟨h2, e⟩ | ⟨h2, e⟩ | ⟨h2, h3, e⟩⟩ <;> rw [e] <;> simp <;> omega
/-- what quoted returns -/
def QPost (s : ByteArray) (i : Nat) (w : World) (e : Ending) (w' : World) : Prop := ∃ p nx ok, e = .returned (.tuple #[.string (Lx.bs p), .int .i64 ((nx : Nat) : Int), .bool ok]) ∧ w = w' ∧ Lx.QRes s.data.toList s.size i p nx ok
set_option maxRecDepth 100000 in
set_option maxHeartbeats 2000000 in
theorem quoted_any (s : ByteArray) (hs : s.size ≤ 1000) (i : Nat) (hi : i ≤ s.size) (w : World) : Calls Tryd.prog 46 #[.string s, .int .i64 (i : Int)] w (QPost s i w) := by
  have hlen : s.data.toList.length = s.size := by rw [Lib.size_eq]
  have HLEN := Lib.hid hlen
  clear hlen
  go_enter Tryd.func46, Tryd.ntmps46
  go_wp2
  go_loopw [7] (fun j wr => ∃ k : Nat, i ≤ k ∧ k ≤ s.size ∧ j = .int .i64 k ∧ (∀ F L, Lx.scan (s.data.toList.drop i) F L true true = Lx.scan (s.data.toList.drop k) F (L ++ (s.data.toList.drop i).take (k - i)) true true) ∧ w = wr) (fun j _ => s.size - (intOf j).toNat)
  case atStart => exact ⟨i, by omega, hi, rfl, fun F L => by simp, by first | rfl | trivial⟩
  case round =>
    obtain ⟨k, hik, hk, rfl, hsc, rfl⟩ := hrel
    have HSC := Lib.hid hsc
    clear hsc
    by_cases hkn : k < s.size
    · have hcons := Lx.drop_cons s k hkn HLEN.out
      have hk0 : (0 : Int) ≤ (k : Int) := by omega
      have hk1 : (k : Int) < (s.size : Int) := by omega
      have hb := s[k].toNat_lt
      rcases Lx.kindT s[k] with ⟨h, e⟩ | ⟨h, h1, h2, e⟩ | ⟨h, e⟩
      · have hex := ext_bs s i k
        have hq : ((s[k].toNat : Int) == 34) = true := by simp; omega
        have g1 : (32 : Int) ≤ (s[k].toNat : Int) := by omega
        have g2 : (s[k].toNat : Int) ≤ 126 := by omega
        have hpl : ((s.data.toList.drop i).take (k - i)).length = k - i := by rw [List.length_take, List.length_drop, HLEN.out]; omega
        have hres : Lx.QRes s.data.toList s.size i ((s.data.toList.drop i).take (k - i)) (k + 1) true := by
          refine .inl ⟨rfl, by omega, by omega, by omega, fun F L => ?_⟩
          rw [HSC.out, hcons, Lx.scan2 e]; rfl
        have HR := Lib.hid hres
        have HX := Lib.hid hex
        clear hres hex hpl hcons e h
        go_wp2
        refine bodyPost_ret (results_tmp3 rfl _ _ _) rfl ?_
        refine ⟨_, k + 1, true, ?_, rfl, HR.out⟩
        rw [← HX.out]; rfl
      · have hq : ((s[k].toNat : Int) == 34) = false := by simp; omega
        have g1 : (32 : Int) ≤ (s[k].toNat : Int) := by omega
        have g2 : (s[k].toNat : Int) ≤ 126 := by omega
        have hn : ∀ F L, Lx.scan (s.data.toList.drop i) F L true true = Lx.scan (s.data.toList.drop (k + 1)) F (L ++ (s.data.toList.drop i).take (k + 1 - i)) true true := by
          intro F L
          rw [HSC.out, hcons, Lx.scan1 e]
          have e2 : k + 1 - i = (k - i) + 1 := by omega
          have hlt : k - i < (s.data.toList.drop i).length := by rw [List.length_drop, HLEN.out]; omega
          have e3 : (s.data.toList.drop i)[k - i] = s[k] := by
            rw [List.getElem_drop]
            show s.data.toList[i + (k - i)]'(by rw [HLEN.out]; omega) = s.data.toList[k]'(by rw [HLEN.out]; exact hkn)
            congr 1; omega
          rw [e2, List.take_succ_eq_append_getElem hlt, e3, List.append_assoc]
        have HN := Lib.hid hn
        clear hn hcons e h h1 h2
        go_wp2
        go_roundw
        case rel => exact ⟨k + 1, by omega, by omega, by go_num, HN.out, by first | rfl | trivial⟩
        case measure => simp [intOf] <;> omega
      · have hres : Lx.QRes s.data.toList s.size i [] 0 false := by
          refine .inr ⟨rfl, rfl, rfl, fun F L => ?_⟩
          rw [HSC.out, hcons, Lx.scan0 e]
        have HR := Lib.hid hres
        clear hres hcons e
        rcases h with h | h
        · have g1 : ¬ (32 : Int) ≤ (s[k].toNat : Int) := by omega
          clear h
          go_wp2
          refine bodyPost_ret (results_tmp3 rfl _ _ _) rfl ?_
          exact ⟨[], 0, false, rfl, rfl, HR.out⟩
        · have g1 : (32 : Int) ≤ (s[k].toNat : Int) := by omega
          have g2 : ¬ (s[k].toNat : Int) ≤ 126 := by omega
          clear h
          go_wp2
          refine bodyPost_ret (results_tmp3 rfl _ _ _) rfl ?_
          exact ⟨[], 0, false, rfl, rfl, HR.out⟩
    · obtain rfl : k = s.size := by omega
      have hres : Lx.QRes s.data.toList s.size i [] 0 false := by
        refine .inr ⟨rfl, rfl, rfl, fun F L => ?_⟩
        rw [HSC.out, List.drop_of_length_le (by rw [HLEN.out]; exact Nat.le_refl _)]; rfl
      have HR := Lib.hid hres
      clear hres
      go_wp2
      refine bodyPost_ret (results_tmp3 rfl _ _ _) rfl ?_
      exact ⟨[], 0, false, rfl, rfl, HR.out⟩
theorem quoted_at (s : ByteArray) (hs : s.size ≤ 1000) (x : Int) (i : Nat) (hx : x = (i : Int)) (hi : i ≤ s.size) (w : World) : Calls Tryd.prog 46 #[.string s, .int .i64 x] w (QPost s i w) := by
  subst hx; exact quoted_any s hs i hi w
theorem plain_at (b : UInt8) (r : Bool) (h : Lx.pl b = r) (w : World) : Calls Tryd.prog 32 #[.int .u8 (b.toNat : Int)] w fun e w' => e = .returned (.bool r) ∧ w = w' := by
  subst h; exact plain_any b w
/-- what field returns -/
def FPost (s : ByteArray) (i : Nat) (w : World) (e : Ending) (w' : World) : Prop := ∃ p nx ok, e = .returned (.tuple #[.string (Lx.bs p), .int .i64 ((nx : Nat) : Int), .bool ok]) ∧ w = w' ∧ Lx.FRes s.data.toList s.size i p nx ok
set_option maxRecDepth 100000 in
set_option maxHeartbeats 2000000 in
theorem field_any (s : ByteArray) (hs : s.size ≤ 1000) (i : Nat) (hi : i ≤ s.size) (w : World) : Calls Tryd.prog 33 #[.string s, .int .i64 (i : Int)] w (FPost s i w) := by
  have hlen : s.data.toList.length = s.size := by rw [Lib.size_eq]
  have HLEN := Lib.hid hlen
  clear hlen
  go_enter Tryd.func33, Tryd.ntmps33
  go_wp2
  go_loopw [1, 7] (fun j v wr => ∃ (k : Nat) (q : List UInt8), i ≤ k ∧ k ≤ s.size ∧ j = .int .i64 k ∧ v = .string (Lx.bs q) ∧ q.length ≤ k ∧ (∀ F, Lx.scan (s.data.toList.drop i) F [] true false = Lx.scan (s.data.toList.drop k) F q true false) ∧ w = wr) (fun j _ _ => s.size - (intOf j).toNat)
  case atStart => exact ⟨i, [], by omega, hi, rfl, rfl, by simp, fun F => rfl, by first | rfl | trivial⟩
  case round =>
    obtain ⟨k, q, hik, hk, rfl, rfl, hqk, hsc, rfl⟩ := hrel
    have HSC := Lib.hid hsc
    clear hsc
    have hqs : (Lx.bs q).size = q.length := Lx.size_bs q
    by_cases hkn : k < s.size
    · have hcons := Lx.drop_cons s k hkn HLEN.out
      have hk0 : (0 : Int) ≤ (k : Int) := by omega
      have hk1 : (k : Int) < (s.size : Int) := by omega
      have hb := s[k].toNat_lt
      by_cases h1 : Lx.kind s[k] false = 1
      · have hpl : Lx.pl s[k] = true := by unfold Lx.pl; rw [h1]; rfl
        have hp := fun w => plain_at s[k] true hpl w
        have hex : s.extract k (k + 1) = Lx.bs [s[k]] := by
          rw [ext_bs, hcons]
          have : k + 1 - k = 1 := by omega
          rw [this]; rfl
        have happ : Lx.bs q ++ s.extract k (k + 1) = Lx.bs (q ++ [s[k]]) := by
          rw [hex, ← Lx.data_bs q]
          show ByteArray.append _ _ = _
          simp [ByteArray.append, Lx.bs]
        have hes : (s.extract k (k + 1)).size = 1 := by rw [hex]; rfl
        have q1 : ¬ 9223372036854775807 < (Lx.bs q).size + 1 := by omega
        have q2 : ¬ 9223372036854775807 < q.length + 1 := by omega
        have hn : ∀ F, Lx.scan (s.data.toList.drop i) F [] true false = Lx.scan (s.data.toList.drop (k + 1)) F (q ++ [s[k]]) true false := by
          intro F
          rw [HSC.out, hcons, Lx.scan1 h1]
        have HN := Lib.hid hn
        have HA := Lib.hid happ
        generalize hQ : Lx.bs q = Q at *
        clear hn happ hex hcons hpl hb
        go_wp2_with fail
        refine (hp _).mono ?_; rintro e w1 ⟨rfl, rfl⟩
        go_wp2_with fail
        refine (hp _).mono ?_; rintro e w1 ⟨rfl, rfl⟩
        go_wp2
        go_roundw
        case rel => exact ⟨k + 1, q ++ [s[k]], by omega, by omega, by go_num, by first | (rw [HA.out]; done) | (rw [← HA.out]; done), by simp; omega, HN.out, by first | rfl | trivial⟩
        case measure => simp [intOf] <;> omega
      · have hpl : Lx.pl s[k] = false := by unfold Lx.pl; simpa using h1
        have hp := fun w => plain_at s[k] false hpl w
        by_cases h2 : Lx.kind s[k] false = 2
        · have hq : ((s[k].toNat : Int) == 34) = true := by
            have := Lx.kindF s[k]
            simp; omega
          have hqt := fun w => quoted_at s hs ((k : Int) + 1) (k + 1) (by omega) (by omega) w
          have hc2 : ∀ F, Lx.scan (s.data.toList.drop i) F [] true false = Lx.scan (s.data.toList.drop (k + 1)) F q true true := by
            intro F
            rw [HSC.out, hcons, Lx.scan2 h2]; rfl
          have HC2 := Lib.hid hc2
          have happ : ∀ p : List UInt8, Lx.bs q ++ Lx.bs p = Lx.bs (q ++ p) := by
            intro p
            show ByteArray.append _ _ = _
            simp [ByteArray.append, Lx.bs]
          have HA := Lib.hid happ
          generalize hQ : Lx.bs q = Q at *
          clear hc2 happ hcons hpl hb h1 h2
          go_wp2_with fail
          refine (hp _).mono ?_; rintro e w1 ⟨rfl, rfl⟩
          go_wp2_with fail
          refine (hp _).mono ?_; rintro e w1 ⟨rfl, rfl⟩
          go_wp2_with fail
          refine (hqt _).mono ?_; rintro e w1 ⟨p, nx, ok, rfl, rfl, hres⟩
          rcases hres with ⟨rfl, g1, g2, g3, g4⟩ | ⟨rfl, rfl, rfl, g4⟩
          · have hps : (Lx.bs p).size = p.length := Lx.size_bs p
            have q1 : ¬ 9223372036854775807 < Q.size + (Lx.bs p).size := by omega
            have hn : ∀ F, Lx.scan (s.data.toList.drop i) F [] true false = Lx.scan (s.data.toList.drop nx) F (q ++ p) true false := by
              intro F
              rw [HC2.out, g4]
            have HN := Lib.hid hn
            have HA1 := Lib.hid (HA.out p)
            generalize Lx.bs p = PP at *
            clear hn g4
            go_wp2
            go_roundw
            case rel => exact ⟨nx, q ++ p, by omega, by omega, by go_num, by first | (rw [HA1.out]; done) | (rw [← HA1.out]; done), by simp; omega, HN.out, by first | rfl | trivial⟩
            case measure => simp [intOf] <;> omega
          · have hres : Lx.FRes s.data.toList s.size i [] 0 false := .inr ⟨rfl, rfl, rfl, fun F => by rw [HC2.out, g4]⟩
            have HR := Lib.hid hres
            clear hres g4
            go_wp2
            refine bodyPost_ret (results_tmp3 rfl _ _ _) rfl ?_
            exact ⟨[], 0, false, rfl, rfl, HR.out⟩
        · have hq : ((s[k].toNat : Int) == 34) = false := by
            have := Lx.kindF s[k]
            simp; omega
          have hres : Lx.FRes s.data.toList s.size i q k true := .inl ⟨rfl, by omega, by omega, by omega, fun b r e => by
            rw [hcons] at e
            obtain ⟨rfl, _⟩ := List.cons.inj e
            exact ⟨h1, h2⟩, HSC.out⟩
          have HR := Lib.hid hres
          clear hres hcons hpl hb h1 h2
          go_wp2_with fail
          refine (hp _).mono ?_; rintro e w1 ⟨rfl, rfl⟩
          go_wp2
          refine bodyPost_ret (results_tmp3 rfl _ _ _) rfl ?_
          exact ⟨q, k, true, rfl, rfl, HR.out⟩
    · obtain rfl : k = s.size := by omega
      have hnil : s.data.toList.drop s.size = [] := List.drop_of_length_le (by rw [HLEN.out]; exact Nat.le_refl _)
      have hres : Lx.FRes s.data.toList s.size i q s.size true := .inl ⟨rfl, by omega, by omega, by omega, (fun b r e => by rw [hnil] at e; cases e), HSC.out⟩
      have HR := Lib.hid hres
      clear hres hnil
      go_wp2
      refine bodyPost_ret (results_tmp3 rfl _ _ _) rfl ?_
      exact ⟨q, s.size, true, rfl, rfl, HR.out⟩
theorem field_at (s : ByteArray) (hs : s.size ≤ 1000) (x : Int) (i : Nat) (hx : x = (i : Int)) (hi : i ≤ s.size) (w : World) : Calls Tryd.prog 33 #[.string s, .int .i64 x] w (FPost s i w) := by
  subst hx; exact field_any s hs i hi w
end Go.Proofs.YtlekbbggbfhgaaaDoor
