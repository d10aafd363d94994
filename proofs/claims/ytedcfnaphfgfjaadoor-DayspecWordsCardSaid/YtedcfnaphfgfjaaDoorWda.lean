/- The contracts of package word: small, begins, the range-function begun, meant. -/
import Derived.Test.YtedcfnaphfgfjaaDoorWd
import Derived.Test.YtedcfnaphfgfjaaDoorStr
import Derived.RangeFuncNested
import Derived.RangeFuncBound
import Derived.RangeFuncCalls
import Derived.RangeFuncLeaves
import Derived.RangeFuncBox
import Derived.Shelf.Abstract
import Derived.Shelf.RegionOpen
import Derived.OwnWalkIn
import Derived.TacticsInMore
import Derived.LoopNIn
import Derived.LoopIn
namespace Go.Proofs.YtedcfnaphfgfjaaDoor
open Go.RowKit Go.Shelf

theorem small_any (c r : Nat) (hc : c < 256) (hr : Hid (Wd.sm c = r)) (w : World) : Calls Tryd.prog 94 #[.int .u8 c] w fun e w' => e = .returned (.int .u8 r) ∧ w = w' := by
  have e : (65 ≤ c ∧ c ≤ 90 ∧ r = c + 32) ∨ (c < 65 ∧ r = c) ∨ (65 ≤ c ∧ 90 < c ∧ r = c) := by
    have h := hr.out
    by_cases h1 : 65 ≤ c ∧ c ≤ 90
    · rw [Wd.sm_yes c h1] at h; omega
    · rw [Wd.sm_no c h1] at h; omega
  rcases e with ⟨h1, h2, rfl⟩ | ⟨h1, rfl⟩ | ⟨h1, h2, rfl⟩
  · have q1 : (65 : Int) ≤ (c : Int) := by omega
    have q2 : (c : Int) ≤ 90 := by omega
    go_enter Tryd.func94, Tryd.ntmps94
    go_wp2
    go_ret
    refine ⟨ret_int ?_, rfl⟩
    try omega
  · have q1 : ¬ (65 : Int) ≤ (r : Int) := by omega
    go_enter Tryd.func94, Tryd.ntmps94
    go_wp2
    go_ret
    exact ⟨rfl, rfl⟩
  · have q1 : (65 : Int) ≤ (r : Int) := by omega
    have q2 : ¬ (r : Int) ≤ 90 := by omega
    go_enter Tryd.func94, Tryd.ntmps94
    go_wp2
    go_ret
    exact ⟨rfl, rfl⟩
theorem begins_any (s x : ByteArray) (r : Bool) (hr : Hid (Wd.pre (Wd.low s.data.toList) (Wd.nats x.data.toList) = r)) (hs : x.size ≤ 1000) (W : World) :
    Calls Tryd.prog 81 #[.string s, .string x] W fun e w' => e = .returned (.bool r) ∧ Dw W w' := by
  by_cases hl : s.size ≤ x.size
  · have h1 : ¬ (x.size : Int) < (s.size : Int) := by omega
    go_enter Tryd.func81, Tryd.ntmps81
    go_wp2
    go_loopw [13] (fun i wr => ∃ k : Nat, k ≤ s.size ∧ i = .int .i64 k ∧ Dw W wr ∧ Hid (Wd.pre ((Wd.low s.data.toList).drop k) ((Wd.nats x.data.toList).drop k) = r)) (fun i _ => s.size - (intOf i).toNat)
    case atStart => exact ⟨0, by omega, rfl, Dw.refl _, hr⟩
    case round =>
      obtain ⟨k, hk, rfl, hd, HR⟩ := hrel
      have HD := Lib.hid hd
      clear hd hr
      by_cases hkl : k < s.size
      · have hkx : k < x.size := by omega
        have hst := Wd.pre_step _ _ k _ _ (Wd.low_at s k hkl) (Wd.nats_at x k hkx)
        rw [HR.out] at hst
        have hc := s[k].toNat_lt
        have hx := x[k].toNat_lt
        have hk0 : (0 : Int) ≤ (k : Int) := by omega
        have hk1 : (k : Int) < (s.size : Int) := by omega
        have hk2 : (k : Int) < (x.size : Int) := by omega
        have hsm := Wd.sm_lt _ hc
        obtain ⟨q, hq⟩ : ∃ q, Wd.sm s[k].toNat = q := ⟨_, rfl⟩
        rw [hq] at hst hsm
        have HQ := Lib.hid hq
        by_cases he : q = x[k].toNat
        · have hne : ((q : Int) != (x[k].toNat : Int)) = false := by rw [he]; simp
          have HST : Hid (Wd.pre ((Wd.low s.data.toList).drop (k + 1)) ((Wd.nats x.data.toList).drop (k + 1)) = r) := Lib.hid (by rw [hst, he, Nat.beq_refl, Bool.true_and])
          have HC := Lib.hid hc
          clear hst hq he hsm hc hx
          go_wp2
          go_quiet ((go_at_call 94; exact dw_same (small_any _ _ HC.out HQ _)))
          go_wp2
          go_roundw
          case rel => exact ⟨k + 1, by omega, by go_num, HD.out.drewN _, HST⟩
          case measure => simp [intOf] <;> omega
        · have hne : ((q : Int) != (x[k].toNat : Int)) = true := by simp; omega
          have hb : Nat.beq q x[k].toNat = false := by
            cases e : Nat.beq q x[k].toNat with
            | false => rfl
            | true => exact absurd (Nat.eq_of_beq_eq_true e) he
          rw [hb, Bool.false_and] at hst
          subst hst
          have HC := Lib.hid hc
          clear hb hq he hsm hc hx
          go_wp2
          go_quiet ((go_at_call 94; exact dw_same (small_any _ _ HC.out HQ _)))
          go_wp2
          go_ret
          exact ⟨rfl, HD.out.drewN _⟩
      · obtain rfl : k = s.size := by omega
        have e : r = true := by rw [← HR.out, Wd.pre_done _ _ _ (by rw [Wd.low_len]; omega)]
        subst e
        go_wp2
        go_ret
        exact ⟨rfl, HD.out⟩
  · have h1 : (x.size : Int) < (s.size : Int) := by omega
    have e : r = false := by rw [← hr.out, Wd.pre_long _ _ (by rw [Wd.low_len, Wd.nats_len]; omega)]
    subst e
    go_enter Tryd.func81, Tryd.ntmps81
    go_wp2
    go_ret
    exact ⟨rfl, Dw.refl _⟩
/-- thirteen words that lie in a block are read as one -/
theorem und13 : Tryd.prog.underlying 79 = some (.array 13 9) := by kernel_rfl
theorem inf13 : (Tryd.prog.info? 79).map (·.size) = some 13 := by kernel_rfl
theorem run_load13 (L : List ByteArray) (hL : L.length = 13) (w : World) (b : Nat) (hc : Cs w b (strV L)) : (loadVar 79 ⟨b, 0, none⟩).run Tryd.prog w = .ok (.agg (strV L).toArray) w := by
  have hl : (loadCells ⟨b, 0, none⟩ (strV L).length).run Tryd.prog w = .ok (strV L).toArray w :=
    run_loadCells_list (P := Tryd.prog) w ⟨b, 0, none⟩ (strV L) (fun j v hv => by
      have hadd : (⟨b, 0, none⟩ : Addr).add j = ⟨b, j, none⟩ := by unfold Addr.add; split <;> simp_all
      rw [hadd]
      exact hc j v hv)
  rw [strV_len, hL] at hl
  have hi := inf13
  cases hq : Tryd.prog.info? 79 with
  | none => rw [hq] at hi; cases hi
  | some i =>
    have hs : i.size = 13 := by simpa [hq] using hi
    have hagg : (isAgg 79).run Tryd.prog w = .ok true w := by
      unfold isAgg
      rw [Sem.run_bind, run_underlying und13 w]
      rfl
    simp [loadVar, Sem.run_bind, hagg, sizeOf, typeInfo, hq, hs, hl]
theorem wpList_load13 {ops : Array Oper} {rest : List Oper} {o : Oper} {a : Act} {w : World} {Q : Exit → Act → World → Prop} (L : List ByteArray) (hL : L.length = 13) (hgd : o.guard = none) (x : Operand) (ho : o.op = .load 79 x)
    (b : Nat) (hx : a.eval x = .pointer (some ⟨b, 0, none⟩)) (hc : Cs w b (strV L)) (h : wpList Tryd.prog ops Q rest (a.put o.dst (.agg (strV L).toArray)) w) : wpList Tryd.prog ops Q (o :: rest) a w :=
  wpList_plain hgd fun _ hK => by
    unfold Oper.wp execOp
    simp only [ho, hx, Instr.loadAt, Instr.sureAddr, Sem.run_bind, Sem.run_pure, Result.andThen_ok, run_load13 L hL w b hc]
    exact hK _ _ h
theorem wpListIn_load13 {F : Fence} {n : Nat} {ops : Array Oper} {rest : List Oper} {o : Oper} {a : Act} {w : World} {Q : Exit → Act → World → Prop} (L : List ByteArray) (hL : L.length = 13) (hgd : o.guard = none) (x : Operand) (ho : o.op = .load 79 x)
    (b : Nat) (hx : a.eval x = .pointer (some ⟨b, 0, none⟩)) (hc : Cs w b (strV L)) (h : wpListIn F n Tryd.prog ops Q rest (a.put o.dst (.agg (strV L).toArray)) w) : wpListIn F n Tryd.prog ops Q (o :: rest) a w := by
  refine wpListIn_plain hgd fun K hK => ?_
  unfold Oper.wpIn
  refine ⟨?_, ?_⟩
  · simp [Oper.about, ho]
  · rw [Oper.semAt_plain F _ _ (by rw [ho]; intro c hc'; cases hc')]
    simp only [execOp, ho, hx, Instr.loadAt, Instr.sureAddr, Sem.run_bind, Sem.run_pure, Result.andThen_ok, run_load13 L hL w b hc]
    exact hK _ _ h
theorem ix13 (L : List ByteArray) (k : Nat) (hk : k < 13) (x : ByteArray) (hx : L[k]? = some x) (w : World) : (Instr.index 79 (.agg (strV L).toArray) (.int .i64 (k : Int))).run Tryd.prog w = .ok (.string x) w := by
  have h1 : (strV L)[k]? = some (.string x) := strV_at L k x hx
  have hz : (sizeOf 9).run Tryd.prog w = .ok 1 w := by kernel_rfl
  have hk2 : (0 : Int) ≤ (k : Int) ∧ (k : Int) < ((13 : Nat) : Int) := by omega
  simp only [Instr.index, asIntOf, Sem.run_bind, Sem.run_pure, Result.andThen_ok, run_underlying und13 w]
  rw [if_pos hk2]
  simp [Sem.run_bind, hz, part, h1]
end Go.Proofs.YtedcfnaphfgfjaaDoor
