/- The contract of checked.Sum, which ranges over a function: the iterator, its caller. -/
import Derived.Test.YtejdeaacpjgjiaaLaw03
import Derived.RangeFuncNested
import Derived.RangeFuncBound
import Derived.RangeFuncCalls
import Derived.RangeFuncLeaves
import Derived.RangeFuncBox
import Derived.Shelf.Abstract
import Derived.Shelf.RegionOpen
import Derived.OwnWalkIn
import Derived.TacticsInMore
import Derived.LoopNIn
import Derived.LoopIn
namespace Go.Proofs.Ytejdeaacpjgjiaa
open Go.RowKit Go.Shelf
attribute [local go_sem] Oper.semAt_some

set_option maxRecDepth 100000 in
set_option maxHeartbeats 2000000 in
theorem sums1_in (n l Bs n0 b off len cap : Nat) (f : Nat → Int) (hn : 1 ≤ n) (hreach : len * 8 ≤ 140737488351232) (hb : b < n0) (hf : ∀ j, Ck.fit (f j) = true) (J Jx : List (Int × Bool) → World → Prop)
    (hY : ∀ pre x W, J pre W → pre.length < len → YieldAt Fence.wide (n - 1) Try.prog l #[.int .i64 x.1, .bool x.2] W fun e W' =>
      (e = .returned (.bool true) ∧ J (pre ++ [x]) W' ∧ Below n0 W W') ∨ (e = .returned (.bool false) ∧ Jx (pre ++ [x]) W'))
    (W : World) (hBs : W.cell? ⟨Bs, 0, none⟩ = some (.slice (some ⟨b, off, none⟩) len cap)) (hc : ∀ j, j < len → W.cell? ⟨b, off + j, none⟩ = some (.int .i64 (f j))) (h0 : J [] W) :
    CallsIn Fence.wide n Try.prog 30 #[.func (.yield l) #[] #[], .pointer (some ⟨Bs, 0, none⟩)] W fun e W' => (∃ v, e = .returned v) ∧
      ((∃ ys, ys = Ck.upto (Ck.pr f) len ∧ J ys W') ∨ (∃ pre, (∃ k, k ≤ len ∧ pre = Ck.upto (Ck.pr f) k) ∧ Jx pre W')) := by
  refine callsIn_of_wp Try.func30 rfl trivial ?_ rfl
  simp only [Try.ntmps30, List.size_toArray, List.length_cons, List.length_nil, Nat.reduceAdd, Nat.reduceSub, Array.replicate_succ, Array.replicate_zero, List.push_toArray, List.append_toArray, List.nil_append, List.cons_append]
  gi_wp2
  gi_loopw [9, 3, 4] (fun i s q wr => ∃ (k : Nat) (c : Bool), k ≤ len ∧ i = .int .i64 k ∧ s = .int .i64 (Ck.S f k) ∧ q = .bool c ∧ J (Ck.upto (Ck.pr f) k) wr ∧ Below n0 W wr)
    (fun i _ _ _ => len - (intOf i).toNat)
  case atStart => exact ⟨0, true, Nat.zero_le _, rfl, rfl, rfl, h0, Below.refl _ _⟩
  case round =>
    obtain ⟨k, c, hk, rfl, rfl, rfl, hJs, hnx⟩ := hrel
    have hcx : k < len → wr.cell? ⟨b, off + k, none⟩ = some (.int .i64 (f k)) := fun h => (hnx.cell (p := ⟨b, off + k, none⟩) hb).trans (hc k h)
    by_cases hlt : k < len
    · obtain ⟨fn, tmps, assign, body, hy, hR⟩ := hY _ (Ck.pr f k) wr hJs (by rw [Ck.upto_length]; exact hlt)
      dsimp only [Ck.pr] at hy
      have hcx' := hcx hlt
      have e1 : Ck.rs (Ck.S f k + f k) = Ck.S f (k + 1) ∧ Ck.fit (Ck.S f k + f k) = (Ck.pr f k).2 := ⟨rfl, rfl⟩
      have hy' : Hid _ := Lib.hid hy
      have A1 := add_at (Ck.S f k) (f k) (Ck.S f (k + 1)) (Ck.fit (Ck.S f k + f k)) ⟨rfl, rfl⟩ (Ck.S_fit f k) (hf k) wr
      generalize hr : Ck.S f (k + 1) = r at *
      generalize hq : Ck.fit (Ck.S f k + f k) = q at *
      generalize hs : Ck.S f k = s at *
      generalize hv : f k = v at *
      have HR := Lib.hid hR
      have HS := Lib.hid hr
      have A2 := Lib.hid A1
      clear hR e1 A1 hcx hr hq hs hv hy'
      gi_wp2_with (refine ⟨trivial, ?_⟩; gi_at_call 9; refine (callsIn_wide.2 A2.out).mono ?_; rintro e w' ⟨rfl, rfl⟩)
      refine HR.out.mono ?_
      rintro e W3 (⟨rfl, hJ3, hk3⟩ | ⟨rfl, hJx3⟩)
      · gi_wp2
        go_roundw
        case rel => exact ⟨k + 1, q, by omega, by simp, by rw [HS.out], rfl, by rw [Ck.upto_succ]; exact hJ3, hnx.trans hk3⟩
        case measure => simp [intOf]; omega
      · gi_wp2
        refine bodyPost_ret (results_none rfl _ _ _) rfl ?_
        exact ⟨⟨_, rfl⟩, .inr ⟨_, ⟨k + 1, by omega, (Ck.upto_succ _ _).symm⟩, hJx3⟩⟩
    · obtain rfl : k = len := by omega
      gi_wp2
      go_end0
      exact ⟨⟨_, rfl⟩, .inl ⟨_, rfl, hJs⟩⟩
/-- .. at a slice without numbers: no round -/
theorem sums1_nil (n l Bs : Nat) (a : Option Addr) (cap : Nat) (J : List (Int × Bool) → World → Prop) (W : World) (hBs : W.cell? ⟨Bs, 0, none⟩ = some (.slice a 0 cap)) (h0 : J [] W) :
    CallsIn Fence.wide n Try.prog 30 #[.func (.yield l) #[] #[], .pointer (some ⟨Bs, 0, none⟩)] W fun e W' => (∃ v, e = .returned v) ∧ J [] W' := by
  refine callsIn_of_wp Try.func30 rfl trivial ?_ rfl
  simp only [Try.ntmps30, List.size_toArray, List.length_cons, List.length_nil, Nat.reduceAdd, Nat.reduceSub, Array.replicate_succ, Array.replicate_zero, List.push_toArray, List.append_toArray, List.nil_append, List.cons_append]
  gi_wp2
  gi_loopw [9] (fun i wr => i = .int .i64 0 ∧ J [] wr) (fun _ _ => 0)
  case atStart => exact ⟨rfl, h0⟩
  case round =>
    obtain ⟨rfl, hJs⟩ := hrel
    gi_wp2
    go_end0
    exact ⟨⟨_, rfl⟩, hJs⟩
/-- the numbers fit -/
def Nums (zs : List Int) : Prop := ∀ n ∈ zs, Ck.fit n = true
theorem Nums.nth {zs : List Int} (h : Nums zs) (k : Nat) : Ck.fit (nth zs k) = true := by
  unfold Go.Proofs.Ytejdeaacpjgjiaa.nth
  cases e : zs[k]? with
  | none => rfl
  | some x => exact h x (List.mem_of_getElem? e)
theorem sums_stops (n : Nat) (hn : 1 ≤ n) (Bs n0 : Nat) (sv : Value) (zs : List Int) (hreach : zs.length * 8 ≤ 140737488351232) (hf : Nums zs) (w0 w : World) (hBs : Bs < w.heap.size) (hn0 : w0.heap.size ≤ n0) (hw : Below w0.heap.size w0 w)
    (hc : w.cell? ⟨Bs, 0, none⟩ = some sv) (hI : Ints w0 sv zs) :
    SeqStopsK Fence.wide n Try.prog 30 #[.pointer (some ⟨Bs, 0, none⟩)] (fun x : Int × Bool => #[Value.int .i64 x.1, Value.bool x.2]) (Below n0) (fun ys => ys = Ck.upto (Ck.pr (nth zs)) zs.length)
      (fun pre => ∃ k, k ≤ zs.length ∧ pre = Ck.upto (Ck.pr (nth zs)) k) zs.length w := fun l J Jx W hW _ _ hY h0 => by
  have hc' := (hW.cell (p := ⟨Bs, 0, none⟩) hBs).trans hc
  have hW' : Below w0.heap.size w0 W := hw.trans (hW.mono hw.size)
  rcases hI.bl hW' with ⟨a, cap, rfl, rfl⟩ | ⟨b, off, cap, rfl, hp, _, hcs⟩
  · exact (sums1_nil n l Bs a cap J W hc' h0).mono fun e W' ⟨he, hj⟩ => ⟨he, .inl ⟨_, rfl, hj⟩⟩
  · have hb : b < n0 := by
      rcases hI with ⟨a, c, e, rfl⟩ | ⟨b', off', cap', e, _, h3, _⟩
      · simp at hp
      · injection e with e1 e2 e3
        injection e1 with e1
        injection e1 with e1
        omega
    exact sums1_in n l Bs n0 b off zs.length cap (nth zs) hn hreach hb hf.nth J Jx hY W hc' hcs h0
theorem sums_in (n : Nat) (a : Option Addr) (len cap : Nat) (w : World) :
    CallsIn Fence.wide n Try.prog 29 #[.slice a len cap] w fun e w' => e = .returned (.func (.func 30) #[] #[.pointer (some ⟨w.heap.size, 0, none⟩)]) ∧ w' = w.alloc (.cells #[.slice a len cap] 29) := by
  refine callsIn_of_wp Try.func29 rfl trivial ?_ rfl
  simp only [Try.ntmps29, List.size_toArray, List.length_cons, List.length_nil, Nat.reduceAdd, Nat.reduceSub, Array.replicate_succ, Array.replicate_zero, List.push_toArray, List.append_toArray, List.nil_append, List.cons_append]
  gi_wp2
  go_ret
  exact ⟨rfl, rfl⟩
set_option maxRecDepth 100000 in
set_option maxHeartbeats 2000000 in
theorem sum_in (n : Nat) (hn : 3 ≤ n) (a : Option Addr) (len cap : Nat) (zs : List Int) (hreach : zs.length * 8 ≤ 140737488351232) (hf : Nums zs) (w : World) (hI : Ints w (.slice a len cap) zs) :
    CallsIn Fence.wide n Try.prog 22 #[.slice a len cap] w fun e W' => e = outIf (Ck.okS (nth zs) zs.length) (Ck.S (nth zs) zs.length) ∧ Below w.heap.size w W' := by
  have h1 : 1 ≤ n := by omega
  refine callsIn_of_wp_marks Try.func22 rfl trivial ?_ rfl
  simp only [Try.ntmps22, List.size_toArray, List.length_cons, List.length_nil, Nat.reduceAdd, Nat.reduceSub, Array.replicate_succ, Array.replicate_zero, List.push_toArray, List.append_toArray, List.nil_append, List.cons_append]
  gi_wp2_with (refine ⟨trivial, ?_⟩; gi_at_call 29; refine (sums_in (n - 1) _ _ _ _).mono ?_; rintro e w' ⟨rfl, rfl⟩)
  have bR := Boxed.new w 2 (.int .i64 0)
  have bF := Boxed.new (w.alloc (.cells #[.int .i64 0] 2)) 4 (.bool false)
  have bN := Boxed.new ((w.alloc (.cells #[.int .i64 0] 2)).alloc (.cells #[.bool false] 4)) 29 (.slice a len cap)
  simp only [World.size_alloc] at bF bN
  have hB0 : Below w.heap.size w (((w.alloc (.cells #[.int .i64 0] 2)).alloc (.cells #[.bool false] 4)).alloc (.cells #[.slice a len cap] 29)) := (((Below.refl _ w).alloc (Nat.le_refl _) _).alloc (by simp) _).alloc (by simp; omega) _
  refine wpIn_rangeFunc_ownF rfl h1 (gf := 30) (lb := #[.pointer (some ⟨w.heap.size + 1 + 1, 0, none⟩)]) rfl trivial (enters_of Try.func30 (by kernel_rfl) rfl)
    (sums_stops (n - 1) (by omega) (w.heap.size + 1 + 1) w.heap.size _ zs hreach hf w _ (by simp) (Nat.le_refl _) hB0 bN.cell hI) belowK_t (belowK_b (by simp; omega)) (Below.refl _ _) (fun _ => rfl)
    (fun pre W => (Ck.fits pre ∧ W.cell? ⟨w.heap.size, 0, none⟩ = some (.int .i64 (Ck.lastS pre)) ∧ W.frozen? ⟨w.heap.size, 0, none⟩ = false ∧ W.cell? ⟨w.heap.size + 1, 0, none⟩ = some (.bool false) ∧ W.frozen? ⟨w.heap.size + 1, 0, none⟩ = false) ∧ Below w.heap.size w W)
    (fun c pre W => (c = .ret ∧ Ck.unfit pre ∧ W.cell? ⟨w.heap.size, 0, none⟩ = some (.int .i64 0) ∧ W.cell? ⟨w.heap.size + 1, 0, none⟩ = some (.bool false)) ∧ Below w.heap.size w W)
    (OwnFrom.and (Own.from (fun s A B row hs hg hr => ⟨hs.1, cell_kept hs.2.1 hg hr, (frozen_kept hs.2.1 hg hr).trans hs.2.2.1, cell_kept hs.2.2.2.1 hg hr, (frozen_kept hs.2.2.2.1 hg hr).trans hs.2.2.2.2⟩) _) (ownFrom_below (Nat.le_refl _) (by simp; omega)))
    (fun c => OwnFrom.and (Own.from (fun s A B row hs hg hr => ⟨hs.1, hs.2.1, cell_kept hs.2.2.1 hg hr, cell_kept hs.2.2.2 hg hr⟩) _) (ownFrom_below (Nat.le_refl _) (by simp; omega)))
    ⟨⟨by intro p hp; simp at hp, ((bR.alloc _).alloc _).cell, ((bR.alloc _).alloc _).frozen, (bF.alloc _).cell, (bF.alloc _).frozen⟩, hB0⟩
    (fun x => { tmps := #[.slice a len cap, undef, .pointer (some ⟨w.heap.size, 0, none⟩), .pointer (some ⟨w.heap.size + 1, 0, none⟩), .int .i64 x.1, .bool x.2, .slice a len cap, .func (.func 30) #[] #[.pointer (some ⟨w.heap.size + 1 + 1, 0, none⟩)], .int .i64 x.1, .bool x.2, undef, undef, undef, undef], defers := [] }) ?assign ?body ?done ?stop
  case assign =>
    intro l x W K hK
    gi_wp2
    exact hK
  case body =>
    rintro l pre ⟨x1, x2⟩ W ⟨⟨hp, hc0, hf0, hc1, hf1⟩, hB⟩ _
    cases x2 with
    | false =>
      gi_wp2
      refine ⟨(KeepsOthers.setCell _ _ _).trans (KeepsOthers.setCell _ _ _), ⟨rfl, ⟨pre, _, rfl, rfl⟩, ?_, ?_⟩, (hB.setCell (p := ⟨w.heap.size, 0, none⟩) (Nat.le_refl _) _).setCell (p := ⟨w.heap.size + 1, 0, none⟩) (by simp) _⟩
      · exact cell_set (World.cell?_setCell_same' _ _ _ (by rw [hc0]; rfl)) (by simp)
      · exact World.cell?_setCell_same' _ _ _ (by rw [cell_set hc1 (by simp)]; rfl)
    | true =>
      gi_wp2
      refine ⟨KeepsOthers.setCell _ _ _, (Below.refl w.heap.size W).setCell (p := ⟨w.heap.size, 0, none⟩) (Nat.le_refl _) _, ⟨Ck.fits_snoc _ _ hp rfl, ?_, by rw [World.frozen?_setCell]; exact hf0, cell_set hc1 (by simp), by rw [World.frozen?_setCell]; exact hf1⟩, hB.setCell (p := ⟨w.heap.size, 0, none⟩) (Nat.le_refl _) _⟩
      rw [Ck.lastS_snoc]
      exact World.cell?_setCell_same' _ _ _ (by rw [hc0]; rfl)
  case done =>
    rintro D ys W hD rfl ⟨⟨hp, hc0, hf0, hc1, hf1⟩, hB⟩ hK
    have hok := Ck.fits_upto _ _ hp
    rw [Ck.lastS_upto] at hc0
    have HOK := Lib.hid hok
    clear hok hp
    gi_wp2
    have x0 : ((W.setCell ⟨w.heap.size, 0, none⟩ (.int .i64 (Ck.S (nth zs) zs.length))).setCell ⟨w.heap.size + 1, 0, none⟩ (.bool true)).cell? ⟨w.heap.size, 0, none⟩ = some (.int .i64 (Ck.S (nth zs) zs.length)) := cell_set (World.cell?_setCell_same' _ _ _ (by rw [hc0]; rfl)) (by simp)
    have x1 : ((W.setCell ⟨w.heap.size, 0, none⟩ (.int .i64 (Ck.S (nth zs) zs.length))).setCell ⟨w.heap.size + 1, 0, none⟩ (.bool true)).cell? ⟨w.heap.size + 1, 0, none⟩ = some (.bool true) := World.cell?_setCell_same' _ _ _ (by rw [cell_set hc1 (by simp)]; rfl)
    have hK' := ((KeepsOthers.setCell W ⟨w.heap.size, 0, none⟩ (.int .i64 (Ck.S (nth zs) zs.length))).trans (KeepsOthers.setCell _ ⟨w.heap.size + 1, 0, none⟩ (.bool true))).same D _ hK rfl
    have hB' := (hB.setCell (p := ⟨w.heap.size, 0, none⟩) (Nat.le_refl _) (.int .i64 (Ck.S (nth zs) zs.length))).setCell (p := ⟨w.heap.size + 1, 0, none⟩) (by simp) (.bool true)
    generalize (W.setCell ⟨w.heap.size, 0, none⟩ (.int .i64 (Ck.S (nth zs) zs.length))).setCell ⟨w.heap.size + 1, 0, none⟩ (.bool true) = W2 at *
    refine ⟨by simp, .inl ⟨_, _, rfl, run_takeDeferred hK', ?_⟩⟩
    have hc5 := cell_kept x0 (grownBy_putObj' _ D (.deferred none)) (fun r e => by cases e; exact ⟨_, hK', rfl⟩)
    have hc6 := cell_kept x1 (grownBy_putObj' _ D (.deferred none)) (fun r e => by cases e; exact ⟨_, hK', rfl⟩)
    refine ⟨.tuple #[.int .i64 (Ck.S (nth zs) zs.length), .bool true], ?_, (outIf_yes HOK.out).symm, hB'.trans (belowK_b (w := w) (Nat.le_refl _) W2 D _ _ (by simp at hD; omega) hK' rfl rfl)⟩
    simp [results, Try.f22, go_sem, hc5, hc6]
  case stop =>
    rintro D c pre W hD ⟨k, hk, rfl⟩ ⟨⟨rfl, hu, hc0, hc1⟩, hB⟩ hK
    have hok := Ck.unfit_upto _ _ _ hk hu
    have HOK := Lib.hid hok
    clear hok hu
    gi_wp2
    refine ⟨by simp, .inl ⟨_, _, rfl, run_takeDeferred hK, ?_⟩⟩
    have hc5 := cell_kept hc0 (grownBy_putObj' _ D (.deferred none)) (fun r e => by cases e; exact ⟨_, hK, rfl⟩)
    have hc6 := cell_kept hc1 (grownBy_putObj' _ D (.deferred none)) (fun r e => by cases e; exact ⟨_, hK, rfl⟩)
    refine ⟨.tuple #[.int .i64 0, .bool false], ?_, (outIf_no HOK.out).symm, hB.trans (belowK_b (w := w) (Nat.le_refl _) W D _ _ (by simp at hD; omega) hK rfl rfl)⟩
    simp [results, Try.f22, go_sem, hc5, hc6]
theorem sum_any (sv : Value) (zs : List Int) (hreach : zs.length * 8 ≤ 140737488351232) (hf : Nums zs) (w : World) (hI : Ints w sv zs) :
    Calls Try.prog 22 #[sv] w fun e W' => e = outIf (Ck.okS (nth zs) zs.length) (Ck.S (nth zs) zs.length) ∧ Below w.heap.size w W' := by
  have hs : ∃ a len cap, sv = .slice a len cap := by
    rcases hI with ⟨a, cap, h, _⟩ | ⟨b, off, cap, h, _⟩
    · exact ⟨_, _, _, h⟩
    · exact ⟨_, _, _, h⟩
  obtain ⟨a, len, cap, rfl⟩ := hs
  exact callsIn_wide.1 (sum_in 3 (by omega) a len cap zs hreach hf w hI)
end Go.Proofs.Ytejdeaacpjgjiaa
