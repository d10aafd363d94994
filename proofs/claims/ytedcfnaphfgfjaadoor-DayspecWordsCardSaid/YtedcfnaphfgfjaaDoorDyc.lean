/- The state of the walks of dayspec; the contracts of word.Week, WeekText, and of dayspec.operator.text, operated, number. -/
import Derived.Test.YtedcfnaphfgfjaaDoorDyb
import Derived.Test.YtedcfnaphfgfjaaDoorWdf
namespace Go.Proofs.YtedcfnaphfgfjaaDoor
open Go.RowKit Go.Shelf
def opsV : List Value := [.int .u8 0, .int .u8 0, .int .u8 0, .int .u8 0, .int .u8 0, .int .u8 0, .int .u8 62, .int .u8 61, .int .u8 60, .int .u8 61]
/-- what lies in the tables -/
structure TabY (w : World) : Prop where
  weeks : Cs w 1 (strV weeksL)
  ops : Cs w 0 opsV
  fold : FoldW w
  max : ∃ m, w.cell? ⟨5, 0, none⟩ = some (.int .i64 m)
theorem TabY.bl {w w1 : World} (h : TabY w) (k : Below w.heap.size w w1) : TabY w1 := ⟨h.weeks.bl k, h.ops.bl k, h.fold.bl k, h.max.imp fun _ e => cell_bl k e⟩
/-- the state of a walk -/
def Ys (w0 w : World) : Prop := Below w0.heap.size w0 w ∧ TabY w
theorem Ys.mk0 {w : World} (h : TabY w) : Ys w w := ⟨Below.refl _ w, h⟩
theorem Ys.bl {w0 w w1 : World} (h : Ys w0 w) (k : Below w.heap.size w w1) : Ys w0 w1 := ⟨Below.trans h.1 (k.mono h.1.size), h.2.bl k⟩
theorem Ys.hbl {w0 w w1 : World} (h : Hid (Ys w0 w)) (k : Below w.heap.size w w1) : Hid (Ys w0 w1) := Lib.hid (h.out.bl k)
theorem Ys.hal {w0 w : World} (h : Hid (Ys w0 w)) (A : Obj) : Hid (Ys w0 (w.alloc A)) := Lib.hid (h.out.bl (Below.alloc (Below.refl _ w) (Nat.le_refl _) A))
theorem Ys.hdr {w0 w : World} (h : Hid (Ys w0 w)) : Hid (Ys w0 w.drew) := Lib.hid (h.out.bl (Below.drew (Below.refl _ w)))
theorem Ys.hdw {w0 w w1 : World} (h : Hid (Ys w0 w)) (k : Dw w w1) : Hid (Ys w0 w1) := Lib.hid (h.out.bl (k.below' _))
theorem wl_weeks : wl weeksL = Dy.weeks := by decide +kernel
/-- word.Week -/
theorem yWeek_s {W0 w : World} (s : ByteArray) (r1 r2 : Int) (hr : Hid (Dy.week s.data.toList = (r1, r2))) (HC : Hid (Ys W0 w)) : Calls Tryd.prog 18 #[.string s] w fun e w' => e = .returned (.tuple #[.int .i64 r1, .int .i64 r2]) ∧ Below w.heap.size w w' ∧ Hid (Ys W0 w') := by
  have HT := Lib.hid HC.out.2.weeks
  have hr2 : Hid (Wd.fnd (wl weeksL) (Wd.low s.data.toList) = (r1, r2)) := Lib.hid (by rw [wl_weeks]; exact hr.out)
  go_enter Tryd.func18, Tryd.ntmps18
  go_wp2_with (first | (refine wpList_load13 weeksL len_weeksL rfl _ rfl _ rfl HT.out ?_) | (go_at_call 42; refine (meant_any s weeksL len_weeksL small_weeksL r1 r2 hr2 _).mono ?_; rintro e w1 ⟨rfl, hb⟩))
  go_ret2
  exact ⟨rfl, hb, Ys.hbl HC hb⟩
/-- word.WeekText -/
theorem yWeekText_s {W0 w : World} (n : Int) (S : ByteArray) (hS : Hid (txt weeksL n = S)) (HC : Hid (Ys W0 w)) : Calls Tryd.prog 24 #[.int .i64 n] w fun e w' => e = .returned (.string S) ∧ Below w.heap.size w w' ∧ Hid (Ys W0 w') := by
  have HT := Lib.hid HC.out.2.weeks
  go_enter Tryd.func24, Tryd.ntmps24
  go_wp2_with (first | (refine wpList_load13 weeksL len_weeksL rfl _ rfl _ rfl HT.out ?_) | (go_at_call 45; refine (text_any weeksL len_weeksL okw_weeksL n S hS _).mono ?_; rintro e w1 ⟨rfl, hb⟩))
  go_ret
  exact ⟨rfl, hb, Ys.hbl HC hb⟩
theorem two_y (a b : Nat) (g : Nat) (wx : World) (h0 : wx.cell? ⟨g, 0, none⟩ = some (.int .u8 (a : Int))) (h1 : wx.cell? ⟨g, 1, none⟩ = some (.int .u8 (b : Int))) : (convert 38 9 (.slice (some ⟨g, 0, none⟩) 2 2)).run Tryd.prog wx = .ok (.string ⟨#[UInt8.ofNat a, UInt8.ofNat b]⟩) wx := by
  have := run_convert_bytes_arg (P := Tryd.prog) wx 38 5 Tryd.underlying38 Tryd.underlying5 g 0 2 2 [(a : Int), (b : Int)] rfl (fun i hi => by
    have : i = 0 ∨ i = 1 := by omega
    rcases this with rfl | rfl
    · exact h0
    · exact h1) 9 Tryd.underlying9
  rw [this]
  rfl
theorem otext_any (a b : Nat) (S : ByteArray) (hS : (⟨#[UInt8.ofNat a, UInt8.ofNat b]⟩ : ByteArray) = S) (w : World) : Calls Tryd.prog 26 #[.agg #[.int .u8 (a : Int), .int .u8 (b : Int)]] w fun e w' => e = .returned (.string S) ∧ Below w.heap.size w w' := by
  have hcv := fun g wx => two_y a b g wx
  rw [hS] at hcv
  have hc := hcv (w.heap.size + 1)
  clear hcv hS
  go_enter Tryd.func26, Tryd.ntmps26
  go_wp2
  go_ret
  exact ⟨rfl, ((Below.refl _ w).alloc (Nat.le_refl _) _).alloc (by simp) _⟩
set_option maxRecDepth 100000 in
set_option maxHeartbeats 4000000 in
theorem opd_none (s : ByteArray) (hs : s.size < 4294967281) (h : Dy.sgn s.data.toList = none ∨ ∃ k : Nat, Dy.sgn s.data.toList = some k ∧ k + 1 = s.size) (w : World) : Calls Tryd.prog 39 #[.string s] w fun e w' => e = .returned (.tuple #[.int .i64 0, .bool false]) ∧ Below w.heap.size w w' := by
  have hA := iany_any s hs
  unfold Dy.sgnI at hA
  rcases h with h | ⟨k, h, hk⟩
  · rw [h] at hA
    simp only at hA
    have HA := Lib.hid hA
    clear hA h
    go_enter Tryd.func39, Tryd.ntmps39
    go_wp2_with (go_at_call 57; refine (HA.out _).mono ?_; rintro e w1 ⟨rfl, hb⟩)
    go_ret2
    exact ⟨rfl, hb⟩
  · rw [h] at hA
    simp only at hA
    have HA := Lib.hid hA
    clear hA h
    have q1 : ¬ (k : Int) < 0 := by omega
    have q2 : ((k : Int) + 1 == (s.size : Int)) = true := beq_iff_eq.2 (by omega)
    go_enter Tryd.func39, Tryd.ntmps39
    go_wp2_with (go_at_call 57; refine (HA.out _).mono ?_; rintro e w1 ⟨rfl, hb⟩)
    go_ret2
    exact ⟨rfl, hb⟩
/-- which kind an operator's bytes are of -/
def opK (a c : Nat) : Int × Bool := if c = 61 then (if a = 62 then (3, true) else (4, true)) else (0, false)
theorem undOp : Tryd.prog.underlying 57 = some (.array 5 56) := by kernel_rfl
theorem infOp : (Tryd.prog.info? 57).map (·.size) = some 10 := by kernel_rfl
theorem run_loadOp (w : World) (b : Nat) (hc : Cs w b opsV) : (loadVar 57 ⟨b, 0, none⟩).run Tryd.prog w = .ok (.agg opsV.toArray) w := by
  have hl : (loadCells ⟨b, 0, none⟩ opsV.length).run Tryd.prog w = .ok opsV.toArray w :=
    run_loadCells_list (P := Tryd.prog) w ⟨b, 0, none⟩ opsV (fun j v hv => by
      have hadd : (⟨b, 0, none⟩ : Addr).add j = ⟨b, j, none⟩ := by unfold Addr.add; split <;> simp_all
      rw [hadd]
      exact hc j v hv)
  rw [show opsV.length = 10 from rfl] at hl
  have hi := infOp
  cases hq : Tryd.prog.info? 57 with
  | none => rw [hq] at hi; cases hi
  | some i =>
    have hs : i.size = 10 := by simpa [hq] using hi
    have hagg : (isAgg 57).run Tryd.prog w = .ok true w := by
      unfold isAgg
      rw [Sem.run_bind, run_underlying undOp w]
      rfl
    simp [loadVar, Sem.run_bind, hagg, sizeOf, typeInfo, hq, hs, hl]
theorem wpList_loadOp {ops : Array Oper} {rest : List Oper} {o : Oper} {a : Act} {w : World} {Q : Exit → Act → World → Prop} (hgd : o.guard = none) (x : Operand) (ho : o.op = .load 57 x)
    (b : Nat) (hx : a.eval x = .pointer (some ⟨b, 0, none⟩)) (hc : Cs w b opsV) (h : wpList Tryd.prog ops Q rest (a.put o.dst (.agg opsV.toArray)) w) : wpList Tryd.prog ops Q (o :: rest) a w :=
  wpList_plain hgd fun _ hK => by
    unfold Oper.wp execOp
    simp only [ho, hx, Instr.loadAt, Instr.sureAddr, Sem.run_bind, Sem.run_pure, Result.andThen_ok, run_loadOp w b hc]
    exact hK _ _ h
theorem op_ix (w : World) : (Instr.index 57 (.agg opsV.toArray) (.int .i64 0)).run Tryd.prog w = .ok (.agg #[.int .u8 0, .int .u8 0]) w ∧ (Instr.index 57 (.agg opsV.toArray) (.int .i64 1)).run Tryd.prog w = .ok (.agg #[.int .u8 0, .int .u8 0]) w ∧ (Instr.index 57 (.agg opsV.toArray) (.int .i64 2)).run Tryd.prog w = .ok (.agg #[.int .u8 0, .int .u8 0]) w ∧ (Instr.index 57 (.agg opsV.toArray) (.int .i64 3)).run Tryd.prog w = .ok (.agg #[.int .u8 62, .int .u8 61]) w ∧ (Instr.index 57 (.agg opsV.toArray) (.int .i64 4)).run Tryd.prog w = .ok (.agg #[.int .u8 60, .int .u8 61]) w := by
  refine ⟨?_, ?_, ?_, ?_, ?_⟩ <;> kernel_rfl
set_option maxRecDepth 100000 in
set_option maxHeartbeats 4000000 in
theorem opd_some (s : ByteArray) (hs : s.size < 4294967281) (k : Nat) (h : Dy.sgn s.data.toList = some k) (hk : k + 1 < s.size) (r1 : Int) (r2 : Bool) (hr : opK (s[k]'(by omega)).toNat (s[k + 1]'hk).toNat = (r1, r2)) {W0 w : World} (HC : Hid (Ys W0 w)) : Calls Tryd.prog 39 #[.string s] w fun e w' => e = .returned (.tuple #[.int .i64 r1, .bool r2]) ∧ Below w.heap.size w w' := by
  obtain ⟨c, hc, hc2, _⟩ := Dy.sgn_lt _ _ h
  have hkl : k < s.size := by omega
  have hsk : s[k]'hkl = c := by
    have := Lib.data_getElem? s k hkl
    rw [this] at hc
    exact Option.some.inj hc
  obtain ⟨d, hsd⟩ : ∃ d : UInt8, s[k + 1]'hk = d := ⟨_, rfl⟩
  have hA := iany_any s hs
  unfold Dy.sgnI at hA
  rw [h] at hA
  simp only at hA
  have HA := Lib.hid hA
  rw [hsk, hsd] at hr
  clear hA h hc
  have q1 : ¬ (k : Int) < 0 := by omega
  have q2 : ((k : Int) + 1 == (s.size : Int)) = false := beq_eq_false_iff_ne.2 (by omega)
  have q3 : (k : Int) < (s.size : Int) := by omega
  have q4 : (k : Int) + 1 < (s.size : Int) := by omega
  have hw : IntKind.i64.wrap ((k : Int) + 1) = (k : Int) + 1 := wrap_small _ (by omega) (by omega)
  have q6 : (0 : Int) ≤ (k : Int) + 1 := by omega
  have hO := HC.out.2.ops
  have hi := op_ix
  go_enter Tryd.func39, Tryd.ntmps39
  go_wp2_with (go_at_call 57; refine (HA.out _).mono ?_; rintro e w1 ⟨rfl, hb⟩)
  have hO1 := hO.bl hb
  go_region
  clear hw hsk hsd
  have hO2 := hO1.bl (Below.drew (Below.alloc (Below.refl _ w1) (Nat.le_refl _) (.cells #[.int .u8 (c.toNat : Int), .int .u8 (d.toNat : Int)] 56)))
  have p0 : (w1.alloc (.cells #[.int .u8 (c.toNat : Int), .int .u8 (d.toNat : Int)] 56)).drew.cell? ⟨w1.heap.size, 0, none⟩ = some (.int .u8 (c.toNat : Int)) := new_cell w1 _ _ 0 _ rfl
  have p1 : (w1.alloc (.cells #[.int .u8 (c.toNat : Int), .int .u8 (d.toNat : Int)] 56)).drew.cell? ⟨w1.heap.size, 1, none⟩ = some (.int .u8 (d.toNat : Int)) := new_cell w1 _ _ 1 _ rfl
  have hz2 : w1.heap.size < (w1.alloc (.cells #[.int .u8 (c.toNat : Int), .int .u8 (d.toNat : Int)] 56)).drew.heap.size := cell_lt p0
  have hB2 : Below w.heap.size w (w1.alloc (.cells #[.int .u8 (c.toNat : Int), .int .u8 (d.toNat : Int)] 56)).drew := (Below.alloc hb hb.size _).drew
  have HB2 := Lib.hid hB2
  have HO2 := Lib.hid hO2
  clear hB2 hO2 hO1 hO HA
  generalize (w1.alloc (.cells #[.int .u8 (c.toNat : Int), .int .u8 (d.toNat : Int)] 56)).drew = w2 at *
  generalize w1.heap.size = b1 at *
  have e0 : ((c.toNat : Int) == 0) = false := beq_eq_false_iff_ne.2 (by omega)
  go_wp2_with (refine wpList_loadOp rfl _ rfl _ rfl HO2.out ?_)
  have hbl : ∀ O1 O2 O3 O4 O5 : Obj, Below w.heap.size w (((((w2.alloc O1).alloc O2).alloc O3).alloc O4).alloc O5) ∧ Below w.heap.size w ((((w2.alloc O1).alloc O2).alloc O3).alloc O4) := by
    intro O1 O2 O3 O4 O5
    have h0 := HB2.out
    have hs0 := h0.size
    have h1 := ((((h0.alloc hs0 O1).alloc (by simp; omega) O2).alloc (by simp; omega) O3).alloc (by simp; omega) O4)
    exact ⟨h1.alloc (by simp; omega) O5, h1⟩
  have HBL := Lib.hid hbl
  have r30 : ∀ O1 O2 O3 : Obj, (((w2.alloc O1).alloc O2).alloc O3).cell? ⟨b1, 0, none⟩ = some (.int .u8 (c.toNat : Int)) := fun _ _ _ => cell_al (cell_al (cell_al p0))
  have r31 : ∀ O1 O2 O3 : Obj, (((w2.alloc O1).alloc O2).alloc O3).cell? ⟨b1, 1, none⟩ = some (.int .u8 (d.toNat : Int)) := fun _ _ _ => cell_al (cell_al (cell_al p1))
  have r40 : ∀ O1 O2 O3 O4 : Obj, ((((w2.alloc O1).alloc O2).alloc O3).alloc O4).cell? ⟨b1, 0, none⟩ = some (.int .u8 (c.toNat : Int)) := fun _ _ _ _ => cell_al (cell_al (cell_al (cell_al p0)))
  have r41 : ∀ O1 O2 O3 O4 : Obj, ((((w2.alloc O1).alloc O2).alloc O3).alloc O4).cell? ⟨b1, 1, none⟩ = some (.int .u8 (d.toNat : Int)) := fun _ _ _ _ => cell_al (cell_al (cell_al (cell_al p1)))
  have r50 : ∀ O1 O2 O3 O4 O5 : Obj, (((((w2.alloc O1).alloc O2).alloc O3).alloc O4).alloc O5).cell? ⟨b1, 0, none⟩ = some (.int .u8 (c.toNat : Int)) := fun _ _ _ _ _ => cell_al (cell_al (cell_al (cell_al (cell_al p0))))
  have r51 : ∀ O1 O2 O3 O4 O5 : Obj, (((((w2.alloc O1).alloc O2).alloc O3).alloc O4).alloc O5).cell? ⟨b1, 1, none⟩ = some (.int .u8 (d.toNat : Int)) := fun _ _ _ _ _ => cell_al (cell_al (cell_al (cell_al (cell_al p1))))
  clear hbl
  by_cases hd : d.toNat = 61
  · have hdd : (d.toNat : Int) = 61 := by omega
    rcases hc2 with hc2 | hc2
    · have hcc : (c.toNat : Int) = 60 := by omega
      have hr2 : (4, true) = (r1, r2) := by rw [← hr, opK, if_pos hd, if_neg (by omega)]
      obtain ⟨rfl, rfl⟩ := Prod.mk.inj hr2
      clear hr2 hr hd hc2 e0
      refine wp_loop_rounds 6 ?_
      rw [rounds_succ]
      go_wp2
      rw [rounds_succ]
      go_wp2
      rw [rounds_succ]
      go_wp2
      rw [rounds_succ]
      go_wp2
      rw [rounds_succ]
      go_wp2
      go_ret2
      exact ⟨rfl, (HBL.out _ _ _ _ _).1⟩
    · have hcc : (c.toNat : Int) = 62 := by omega
      have hr2 : (3, true) = (r1, r2) := by rw [← hr, opK, if_pos hd, if_pos hc2]
      obtain ⟨rfl, rfl⟩ := Prod.mk.inj hr2
      clear hr2 hr hd hc2 e0
      refine wp_loop_rounds 6 ?_
      rw [rounds_succ]
      go_wp2
      rw [rounds_succ]
      go_wp2
      rw [rounds_succ]
      go_wp2
      rw [rounds_succ]
      go_wp2
      go_ret2
      exact ⟨rfl, (HBL.out _ _ _ _ (.cells #[] 0)).2⟩
  · have hdd : ((d.toNat : Int) == 61) = false := beq_eq_false_iff_ne.2 (by omega)
    have hr2 : (0, false) = (r1, r2) := by rw [← hr, opK, if_neg hd]
    obtain ⟨rfl, rfl⟩ := Prod.mk.inj hr2
    clear hr2 hr hd
    have e1 : ((c.toNat : Int) == 62 && (d.toNat : Int) == 61) = false := by rw [hdd, Bool.and_false]
    have e2 : ((c.toNat : Int) == 60 && (d.toNat : Int) == 61) = false := by rw [hdd, Bool.and_false]
    refine wp_loop_rounds 6 ?_
    rw [rounds_succ]
    go_wp2
    rw [rounds_succ]
    go_wp2
    rw [rounds_succ]
    go_wp2
    rw [rounds_succ]
    go_wp2
    rw [rounds_succ]
    go_wp2
    rw [rounds_succ]
    go_wp2
    go_ret2
    exact ⟨rfl, (HBL.out _ _ _ _ _).1⟩
end Go.Proofs.YtedcfnaphfgfjaaDoor
