/- The walks of CheckedSums and CheckedParts: for any list of numbers they return true. -/
import Derived.Test.YtejdeaacpjgjiaaLaw03b
import Derived.Test.YtejdeaacpjgjiaaRef03
import Derived.Test.YtejdeaacpjgjiaaSls
namespace Go.Proofs.Ytejdeaacpjgjiaa
open Go.RowKit

theorem radd_at (a b r : Int) (c : Bool) (h : Ck.rs (a + b) = r ∧ Ck.fit (a + b) = c) (ha : Ck.fit a = true) (hb : Ck.fit b = true) (w : World) : Calls Try.prog 10 #[.int .i64 a, .int .i64 b] w fun e w' => e = .returned (.tuple #[.int .i64 r, .bool c]) ∧ w = w' := by
  obtain ⟨rfl, rfl⟩ := h; exact radd_any a b w ((Ck.fit_iff a).1 ha) ((Ck.fit_iff b).1 hb)
set_option maxHeartbeats 1000000 in
/-- the document's sum of a list -/
theorem rsum_any (sv : Value) (zs : List Int) (hl : zs.length ≤ 1000) (hf : Nums zs) (w : World) (hI : Ints w sv zs) :
    Calls Try.prog 23 #[sv] w fun e W' => e = outIf (Ck.okS (nth zs) zs.length) (Ck.S (nth zs) zs.length) ∧ w = W' := by
  rcases hI with ⟨a, cap, rfl, rfl⟩ | ⟨b, off, cap, rfl, hp, hb, hc⟩
  · have E : outIf (Ck.okS (nth []) ([] : List Int).length) (Ck.S (nth []) ([] : List Int).length) = .returned (.tuple #[.int .i64 0, .bool true]) := rfl
    rw [E]
    clear E hl hf
    go_enter Try.func23, Try.ntmps23
    go_wp2
    go_loop [5, 4] (fun i s => i = .int .i64 0 ∧ s = .int .i64 0) (fun _ _ => 0)
    case atStart => exact ⟨rfl, rfl⟩
    case round =>
      obtain ⟨rfl, rfl⟩ := hrel
      go_wp2
      go_ret2
      exact ⟨rfl, rfl⟩
  · have F := Lib.hid hf
    have HC := Lib.hid hc
    clear hf hc
    generalize hn : zs.length = n at *
    clear hn
    go_enter Try.func23, Try.ntmps23
    go_wp2
    go_loop [5, 4] (fun i s => ∃ k : Nat, k ≤ n ∧ i = .int .i64 k ∧ s = .int .i64 (Ck.S (nth zs) k) ∧ Hid (Ck.okS (nth zs) k = true)) (fun i _ => n - (intOf i).toNat)
    case atStart => exact ⟨0, by omega, rfl, rfl, Lib.hid rfl⟩
    case round =>
      obtain ⟨k, hk, rfl, rfl, hok⟩ := hrel
      by_cases hlt : k < n
      · have x1 := HC.out k hlt
        have fS := Lib.hid (Ck.S_fit (nth zs) k)
        have fx := Lib.hid (F.out.nth k)
        have hno := Lib.hid (Ck.okS_no (nth zs) k n hlt)
        have hyes : Hid (Ck.fit (Ck.S (nth zs) k + nth zs k) = true → Ck.okS (nth zs) (k + 1) = true) := Lib.hid fun h => by simp only [Ck.okS, Bool.and_eq_true]; exact ⟨hok.out, h⟩
        have hS : Hid (Ck.S (nth zs) (k + 1) = Ck.rs (Ck.S (nth zs) k + nth zs k)) := Lib.hid rfl
        generalize Ck.S (nth zs) k = s at *
        generalize nth zs k = x at *
        obtain ⟨r, c, H1⟩ : ∃ r c, Hid (Ck.rs (s + x) = r ∧ Ck.fit (s + x) = c) := ⟨_, _, Lib.hid ⟨rfl, rfl⟩⟩
        go_wp2_with fail
        refine (radd_at s x r c H1.out fS.out fx.out _).mono ?_; rintro e w' ⟨rfl, rfl⟩
        cases c with
        | true =>
          go_wp2
          go_round
          case rel => exact ⟨k + 1, by omega, by go_num, by rw [hS.out, H1.out.1], Lib.hid (hyes.out H1.out.2)⟩
          case measure => simp [intOf]; omega
        | false =>
          have e := outIf_no (x := Ck.S (nth zs) n) (hno.out H1.out.2)
          have E := Lib.hid e
          clear e
          go_wp2
          go_ret2
          exact ⟨E.out.symm, rfl⟩
      · obtain rfl : k = n := by omega
        have e := outIf_yes (x := Ck.S (nth zs) k) hok.out
        have E := Lib.hid e
        clear e
        go_wp2
        go_ret2
        exact ⟨E.out.symm, rfl⟩
theorem nums_wf {zs : List Int} (h : ∀ n ∈ zs, (Lit.int .i64 n).wf = true) : Nums zs := fun n hn => (Ck.fit_iff n).2 (bd_i64 (h n hn))
theorem sum_at2 (sv : Value) (zs : List Int) (r : Int) (c : Bool) {w : World} (hI : Ints w sv zs) (hl : zs.length ≤ 1000) (hf : Nums zs) (h : (if Ck.okS (nth zs) zs.length then Ck.S (nth zs) zs.length else 0) = r ∧ Ck.okS (nth zs) zs.length = c) :
    Calls Try.prog 22 #[sv] w fun e w' => e = .returned (.tuple #[.int .i64 r, .bool c]) ∧ Below w.heap.size w w' := by
  obtain ⟨rfl, rfl⟩ := h
  exact sum_any sv zs (by omega) hf w hI
theorem rsum_at (sv : Value) (zs : List Int) (r : Int) (c : Bool) {w : World} (hI : Ints w sv zs) (hl : zs.length ≤ 1000) (hf : Nums zs) (h : (if Ck.okS (nth zs) zs.length then Ck.S (nth zs) zs.length else 0) = r ∧ Ck.okS (nth zs) zs.length = c) :
    Calls Try.prog 23 #[sv] w fun e w' => e = .returned (.tuple #[.int .i64 r, .bool c]) ∧ w = w' := by
  obtain ⟨rfl, rfl⟩ := h
  exact rsum_any sv zs hl hf w hI
/-- the length of a slice -/
theorem Ints.form {w : World} {sv : Value} {zs : List Int} (h : Ints w sv zs) : ∃ a cap, sv = .slice a zs.length cap := by
  rcases h with ⟨a, cap, rfl, rfl⟩ | ⟨b, off, cap, rfl, _⟩
  · exact ⟨_, _, rfl⟩
  · exact ⟨_, _, rfl⟩
set_option maxRecDepth 100000 in
set_option maxHeartbeats 4000000 in
theorem sums_walk (W : World) (v : Value) (zs : List Int) (hI : Ints W v zs) (hn : ∀ n ∈ zs, (Lit.int .i64 n).wf = true) (hm : zs.length ≤ maxLen) :
    Calls Try.prog 4 #[v] W fun e w' => e = .returned (.bool true) ∧ Below W.heap.size W w' := by
  obtain ⟨a, cap, rfl⟩ := hI.form
  have HI := Lib.hid hI
  have HN := Lib.hid (nums_wf hn)
  unfold maxLen at hm
  clear hI hn
  have HS : ∃ r c, Hid ((if Ck.okS (nth zs) zs.length then Ck.S (nth zs) zs.length else 0) = r ∧ Ck.okS (nth zs) zs.length = c) := ⟨_, _, Lib.hid ⟨rfl, rfl⟩⟩
  obtain ⟨r, c, HR⟩ := HS
  by_cases hl : zs.length ≤ 1000
  · have HL := Lib.hid hl
    go_enter Try.func4, Try.ntmps4
    go_wp2_with fail
    refine (clone_any _ zs HL.out _ HI.out).mono ?_; rintro e w1 ⟨v, rfl, h1, h2⟩
    obtain ⟨a1, cap1, rfl⟩ := h1.form
    have H1 := Lib.hid h1
    have HB : Hid (Bs W w1) := Lib.hid h2
    clear h1 h2
    go_wp2_with fail
    refine (sum_at2 _ zs r c H1.out HL.out HN.out HR.out).mono ?_; rintro e w2 ⟨rfl, hd⟩
    replace H1 := Lib.hid (H1.out.bl hd)
    replace HB := Bs.hbl HB hd
    clear hd
    go_wp2_with fail
    refine (rsum_at _ zs r c (HI.out.bl HB.out) HL.out HN.out HR.out).mono ?_; rintro e w3 ⟨rfl, rfl⟩
    go_wp2_with fail
    refine (is_yes _ _ _ _ rfl rfl _).mono ?_; rintro e w3 ⟨rfl, rfl⟩
    go_wp2_with fail
    refine (equal_any _ _ zs HL.out _ H1.out (HI.out.bl HB.out)).mono ?_; rintro e w3 ⟨rfl, hd⟩
    replace HB := Bs.hdw HB hd
    clear hd
    go_wp2_with fail
    refine (works3_any _).mono ?_; rintro e w4 ⟨rfl, hd⟩
    replace HB := Bs.hbl HB hd
    clear hd
    go_wp2
    go_ret
    exact ⟨rfl, HB.out⟩
  · have g1 : ¬ (zs.length ≤ 1000) := hl
    generalize zs.length = n at *
    go_enter Try.func4, Try.ntmps4
    go_wp2_with fail
    refine (works3_any _).mono ?_; rintro e w2 ⟨rfl, hd⟩
    go_wp2
    go_ret
    exact ⟨rfl, hd⟩
theorem nth_take (zs : List Int) (k j : Nat) (h : j < k) : nth (zs.take k) j = nth zs j := by simp [nth, h]
theorem take_ints {w : World} {b off cap : Nat} {zs : List Int} (h : Ints w (.slice (some ⟨b, off, none⟩) zs.length cap) zs) {k : Nat} (hk : 0 < k ∧ k ≤ zs.length) : Ints w (.slice (some ⟨b, off, none⟩) k cap) (zs.take k) := by
  have hl : (zs.take k).length = k := by simp; omega
  rcases h with ⟨a, c, e, rfl⟩ | ⟨b', off', cap', e, hp, hb, hc⟩
  · simp at hk; omega
  · injection e with e1 e2 e3
    injection e1 with e1
    injection e1 with e1 e4 e5
    subst e1 e4 e3
    exact .inr ⟨b, off, cap, by rw [hl], by omega, hb, fun j hj => by rw [nth_take zs k j (by omega)]; exact hc j (by omega)⟩
theorem take_sum (zs : List Int) (k : Nat) (hk : k ≤ zs.length) : (if Ck.okS (nth (zs.take k)) (zs.take k).length then Ck.S (nth (zs.take k)) (zs.take k).length else 0) = Ck.sT (nth zs) k ∧ Ck.okS (nth (zs.take k)) (zs.take k).length = Ck.okS (nth zs) k := by
  have hl : (zs.take k).length = k := by simp; omega
  rw [hl]
  obtain ⟨e1, e2⟩ := Ck.S_congr (nth (zs.take k)) (nth zs) k (fun j hj => nth_take zs k j hj)
  rw [e1, e2]
  exact ⟨rfl, rfl⟩
set_option maxRecDepth 100000 in
set_option maxHeartbeats 4000000 in
theorem parts_walk (W : World) (v : Value) (zs : List Int) (hI : Ints W v zs) (hn : ∀ n ∈ zs, (Lit.int .i64 n).wf = true) (hm : zs.length ≤ maxLen) :
    Calls Try.prog 8 #[v] W fun e w' => e = .returned (.bool true) ∧ Below W.heap.size W w' := by
  have HN := Lib.hid (nums_wf hn)
  unfold maxLen at hm
  clear hn
  by_cases hl : zs.length ≤ 300
  · rcases hI with ⟨a, cap, rfl, rfl⟩ | ⟨b, off, cap, rfl, hp, hb, hc⟩
    · clear hl hm
      go_enter Try.func8, Try.ntmps8
      go_wp2
      go_loop [17] (fun i => i = .int .i64 0) (fun _ => 0)
      case atStart => rfl
      case round =>
        obtain rfl := hrel
        go_wp2_with fail
        refine (works3_any _).mono ?_; rintro e w2 ⟨rfl, hd⟩
        go_wp2
        go_ret
        exact ⟨rfl, hd⟩
    · have HC := Lib.hid hc
      clear hc
      generalize hn : zs.length = n at *
      have HL := Lib.hid hn
      clear hn
      go_enter Try.func8, Try.ntmps8
      go_wp2
      go_loopw [17, 3, 4] (fun i s q wr => ∃ k : Nat, k ≤ n ∧ i = .int .i64 k ∧ s = .int .i64 (Ck.sT (nth zs) k) ∧ q = .bool (Ck.okS (nth zs) k) ∧ Below W.heap.size W wr) (fun i _ _ _ => n - (intOf i).toNat)
      case atStart => exact ⟨0, by omega, rfl, rfl, rfl, Below.refl _ _⟩
      case round =>
        obtain ⟨k, hk, rfl, rfl, rfl, hd⟩ := hrel
        by_cases hlt : k < n
        · have x1 : wr.cell? ⟨b, off + k, none⟩ = some (.int .i64 (nth zs k)) := (hd.cell (p := ⟨b, off + k, none⟩) hb).trans (HC.out k hlt)
          have HI2 : Hid (Ints wr (.slice (some ⟨b, off, none⟩) (k + 1) cap) (zs.take (k + 1))) := Lib.hid (take_ints (Ints.bl (w := W) (.inr ⟨b, off, cap, rfl, by rw [HL.out]; omega, hb, fun j hj => HC.out j (by rw [← HL.out]; exact hj)⟩) hd) (by rw [HL.out]; omega))
          have HD : Hid (Bs W wr) := Lib.hid hd
          have L2 : Hid ((zs.take (k + 1)).length ≤ 1000) := Lib.hid (by simp; omega)
          have N2 : Hid (Nums (zs.take (k + 1))) := Lib.hid (fun n hn => HN.out n (List.mem_of_mem_take hn))
          have R2 : Hid ((if Ck.okS (nth (zs.take (k + 1))) (zs.take (k + 1)).length then Ck.S (nth (zs.take (k + 1))) (zs.take (k + 1)).length else 0) = Ck.sT (nth zs) (k + 1) ∧ Ck.okS (nth (zs.take (k + 1))) (zs.take (k + 1)).length = Ck.okS (nth zs) (k + 1)) := Lib.hid (take_sum zs (k + 1) (by rw [HL.out]; omega))
          obtain ⟨r, c, H1⟩ : ∃ r c, Hid (Ck.rs (Ck.sT (nth zs) k + nth zs k) = r ∧ Ck.fit (Ck.sT (nth zs) k + nth zs k) = c) := ⟨_, _, Lib.hid ⟨rfl, rfl⟩⟩
          have ST := Lib.hid (Ck.sT_step (nth zs) k r c H1.out)
          have F1 := Lib.hid (Ck.sT_fit (nth zs) k)
          have F2 := Lib.hid (HN.out.nth k)
          clear hd
          generalize nth zs k = x at *
          generalize Ck.sT (nth zs) k = s at *
          generalize ht1 : Ck.sT (nth zs) (k + 1) = s1 at *
          generalize Ck.okS (nth zs) k = o at *
          generalize ho1 : Ck.okS (nth zs) (k + 1) = o1 at *
          have T1 := Lib.hid ht1
          have O1 := Lib.hid ho1
          clear ht1 ho1
          go_wp2_with fail
          refine (add_at s x r c H1.out F1.out F2.out _).mono ?_; rintro e w' ⟨rfl, rfl⟩
          rcases ST.out with ⟨rfl, rfl, rfl, rfl⟩ | ⟨rfl, rfl, rfl, rfl⟩ | ⟨rfl, rfl, rfl⟩
          · go_wp2_with fail
            refine (sum_at2 _ _ _ _ HI2.out L2.out N2.out R2.out).mono ?_; rintro e w' ⟨rfl, hd⟩
            replace HD := Bs.hbl HD hd
            clear hd
            go_wp2
            go_roundw
            case rel => exact ⟨k + 1, by omega, by go_num, by rw [T1.out], by rw [O1.out], HD.out⟩
            case measure => simp [intOf]; omega
          · go_wp2_with fail
            refine (sum_at2 _ _ _ _ HI2.out L2.out N2.out R2.out).mono ?_; rintro e w' ⟨rfl, hd⟩
            replace HD := Bs.hbl HD hd
            clear hd
            go_wp2
            go_roundw
            case rel => exact ⟨k + 1, by omega, by go_num, by rw [T1.out], by rw [O1.out], HD.out⟩
            case measure => simp [intOf]; omega
          · go_wp2_with fail
            refine (sum_at2 _ _ _ _ HI2.out L2.out N2.out R2.out).mono ?_; rintro e w' ⟨rfl, hd⟩
            replace HD := Bs.hbl HD hd
            clear hd
            go_wp2
            go_roundw
            case rel => exact ⟨k + 1, by omega, by go_num, by rw [T1.out], by rw [O1.out], HD.out⟩
            case measure => simp [intOf]; omega
        · obtain rfl : k = n := by omega
          have HD : Hid (Bs W wr) := Lib.hid hd
          clear hd
          go_wp2_with fail
          refine (works3_any _).mono ?_; rintro e w2 ⟨rfl, hd⟩
          replace HD := Bs.hbl HD hd
          clear hd
          go_wp2
          go_ret
          exact ⟨rfl, HD.out⟩
  · obtain ⟨a, cap, rfl⟩ := hI.form
    clear hI
    generalize zs.length = n at *
    go_enter Try.func8, Try.ntmps8
    go_wp2_with fail
    refine (works3_any _).mono ?_; rintro e w2 ⟨rfl, hd⟩
    go_wp2
    go_ret
    exact ⟨rfl, hd⟩
end Go.Proofs.Ytejdeaacpjgjiaa
