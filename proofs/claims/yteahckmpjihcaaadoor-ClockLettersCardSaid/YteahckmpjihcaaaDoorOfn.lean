/- Package offset: the contract of Parse. -/
import Derived.Test.YteahckmpjihcaaaDoorOfq
import Derived.Test.YteahckmpjihcaaaDoorOpr
namespace Go.Proofs.YteahckmpjihcaaaDoor
open Go.RowKit
/-- what is left behind a minus sign, and whether there is one -/
theorem cut_any (s : ByteArray) (w : World) : ∃ (u : ByteArray) (b : Bool), u.size ≤ s.size ∧ (b = true → s.data.toList = 45 :: u.data.toList) ∧ (b = false → u = s ∧ s.data.toList[0]? ≠ some 45) ∧ Calls Tryd.prog 28 #[.string s, .string ⟨#[45]⟩] w fun e w' => e = .returned (.tuple #[.string u, .bool b]) ∧ w' = w := by
  have hc := Tryd.strings_CutPrefix s ⟨#[45]⟩ w
  obtain ⟨⟨l⟩⟩ := s
  match l with
  | [] => exact ⟨⟨#[]⟩, false, Nat.le_refl _, (fun h => by cases h), (fun _ => ⟨rfl, by simp⟩), hc⟩
  | c :: r =>
    by_cases h : c = 45
    · subst h
      exact ⟨⟨r.toArray⟩, true, by simp [bs_size], (fun _ => rfl), (fun h => by cases h), hc⟩
    · have e1 : Lib.hasPrefix (c :: r) [45] = false := by
        simp [Lib.hasPrefix, List.isPrefixOf]; exact fun e => h e.symm
      refine ⟨⟨(c :: r).toArray⟩, false, Nat.le_refl _, (fun h => by cases h), (fun _ => ⟨rfl, by simpa using h⟩), ?_⟩
      simp only [Lib.trimPrefix, e1, Bool.false_eq_true, if_false] at hc
      exact hc
/-- behind a minus sign; without one -/
def pM (o : Option Int) : Int × Int := match o with | some x => if x = 0 then (0, 5) else if x > 604799 then (0, 3) else (-x, 0) | none => (0, 5)
def pP (o : Option Int) : Int × Int := match o with | some x => if x > 604799 then (0, 3) else (x, 0) | none => (0, 5)
theorem parse_of_minus {s u : ByteArray} (h : s.data.toList = 45 :: u.data.toList) {o : Option Int} {r : Int × Int} (hf : Of.form u.data.toList = o) (g : pM o = r) : Of.parse s.data.toList = r := by
  rw [← g, ← hf, h]; rfl
theorem parse_of_plain {s : ByteArray} (h : s.data.toList[0]? ≠ some 45) {o : Option Int} {r : Int × Int} (hf : Of.form s.data.toList = o) (g : pP o = r) : Of.parse s.data.toList = r := by
  rw [← g, ← hf, Of.parse_noMinus h]; rfl
theorem ret_ii {k l : IntKind} {a c : Int} {p : Int × Int} (h : p = (a, c)) : Ending.returned (.tuple #[.int k a, .int l c]) = .returned (.tuple #[.int k p.1, .int l p.2]) := by rw [h]
theorem ret_ii' {k l : IntKind} {a b c : Int} {p : Int × Int} (h : p = (b, c)) (e : a = b) : Ending.returned (.tuple #[.int k a, .int l c]) = .returned (.tuple #[.int k p.1, .int l p.2]) := by rw [h, e]
theorem eql3 (x y : Array Value) (h m c : Int) (hx : x = #[.int .i64 h, .int .i64 m, .int .i64 c]) (hy : y = #[.int .i64 0, .int .i64 0, .int .i64 0]) (w : World) : (binOp .eql 54 (.agg x) (.agg y)).run Tryd.prog w = .ok (.bool (h == 0 && (m == 0 && c == 0))) w := by
  subst hx hy
  have he : Tryd.prog.underlying 2 = some (.int .i64) := Tryd.underlying2
  have ht : Tryd.prog.underlying 54 = some (.array 3 2) := Tryd.underlying54
  have hsz : ∀ w, (sizeOf 2).run Tryd.prog w = .ok 1 w := fun w => by kernel_rfl
  have pp : ∀ (xs : Array Value) (i : Nat) (k : Int) (w : World), xs[i]? = some (.int .i64 k) → (part 2 xs i).run Tryd.prog w = .ok (.int .i64 k) w := by
    intro xs i k w h
    simp [part, isAgg, run_underlying he, h]
  have pe : ∀ (d : Nat) (a b : Int) (w : World), (Op.equalIn (d + 1) 2 (.int .i64 a) (.int .i64 b)).run Tryd.prog w = .ok (a == b) w := fun d a b w => run_equalIn_int w d _ .i64 .i64 _ _ he
  rw [run_eql_struct, show (10000 : Nat) = 9998 + 2 from rfl, Op.equalIn]
  simp only [Sem.run_bind, run_underlying ht, Result.andThen_ok, hsz, Std.Legacy.Range.forIn_eq_forIn_range', Std.Legacy.Range.size]
  rw [show List.range' 0 ((3 - 0 + 1 - 1) / 1) 1 = [0, 1, 2] from rfl]
  simp only [List.forIn_cons, Sem.run_bind, Nat.mul_one]
  rw [pp _ 0 h w rfl]
  simp only [Result.andThen_ok]
  rw [pp _ 0 0 w rfl]
  simp only [Result.andThen_ok, pe]
  cases (h == 0)
  · simp
  · simp only [Bool.not_true, Bool.false_eq_true, if_false, Sem.run_pure, Result.andThen_ok, Bool.true_and, Sem.run_bind]
    rw [pp _ 1 m w rfl]
    simp only [Result.andThen_ok]
    rw [pp _ 1 0 w rfl]
    simp only [Result.andThen_ok, pe]
    cases (m == 0)
    · simp
    · simp only [Bool.not_true, Bool.false_eq_true, if_false, Sem.run_pure, Result.andThen_ok, Bool.true_and, Sem.run_bind]
      rw [pp _ 2 c w rfl]
      simp only [Result.andThen_ok]
      rw [pp _ 2 0 w rfl]
      simp only [Result.andThen_ok, pe]
      cases (c == 0) <;> simp
set_option maxHeartbeats 2000000 in
theorem parse_any (s : ByteArray) (w : World) (hs : s.size ≤ maxLen) (hT : CtsW w) : Calls Tryd.prog 22 #[.string s] w fun e w' => e = .returned (.tuple #[.int .i64 (Of.parse s.data.toList).1, .int .i64 (Of.parse s.data.toList).2]) ∧ Below w.heap.size w w' := by
  have HT := Lib.hid hT
  clear hT
  obtain ⟨u, b, hu, hb1, hb0, hcut⟩ := cut_any s w
  have HU := Lib.hid hcut
  have H1 := Lib.hid hb1
  have H0 := Lib.hid hb0
  have hus : u.size ≤ maxLen := by omega
  clear hcut hb1 hb0
  go_enter Tryd.func22, Tryd.ntmps22
  go_wp2_with fail
  refine HU.out.mono ?_
  rintro e w1 ⟨rfl, rfl⟩
  go_wp2_with fail
  refine (read_any u _ hus).mono ?_
  rintro e w2 ⟨h, m, c, ok, rfl, hyes, hno, hb⟩
  have HB := Lib.hid hb
  have HT2 := Lib.hid (HT.out.bl hb)
  have HN := Lib.hid hno
  have HY := Lib.hid hyes
  clear hb hno hyes
  cases ok
  · have hf := HN.out rfl
    cases b
    · obtain ⟨rfl, hp⟩ := H0.out rfl
      have HF := Lib.hid (parse_of_plain (r := (0, 5)) hp hf rfl)
      clear hf hp
      go_wp2
      go_ret2
      exact ⟨ret_ii HF.out, (HB.out.alloc (by simpa using HB.out.size) _)⟩
    · have HF := Lib.hid (parse_of_minus (r := (0, 5)) (H1.out rfl) hf rfl)
      clear hf
      go_wp2
      go_ret2
      exact ⟨ret_ii HF.out, (HB.out.alloc (by simpa using HB.out.size) _)⟩
  · obtain ⟨hf, ⟨h1, h2⟩, ⟨m1, m2⟩, ⟨c1, c2⟩⟩ := HY.out rfl
    have t0 := HT2.out 0 (by omega)
    have t1 := HT2.out 1 (by omega)
    have t2 := HT2.out 2 (by omega)
    have hz := cell_lt t0
    have hb : Below w2.heap.size w2 (w2.alloc (.cells #[.int .i64 h, .int .i64 m, .int .i64 c] 54)) := Below.alloc (Below.refl _ _) (Nat.le_refl _) _
    have i0 : ∀ w, (Instr.index 54 (.agg #[.int .i64 h, .int .i64 m, .int .i64 c]) (.int .i64 0)).run Tryd.prog w = .ok (.int .i64 h) w := fun _ => by kernel_rfl
    have i1 : ∀ w, (Instr.index 54 (.agg #[.int .i64 h, .int .i64 m, .int .i64 c]) (.int .i64 1)).run Tryd.prog w = .ok (.int .i64 m) w := fun _ => by kernel_rfl
    have i2 : ∀ w, (Instr.index 54 (.agg #[.int .i64 h, .int .i64 m, .int .i64 c]) (.int .i64 2)).run Tryd.prog w = .ok (.int .i64 c) w := fun _ => by kernel_rfl
    have HT3 := HT2
    clear HT3 hb
    cases b
    · obtain ⟨rfl, hp⟩ := H0.out rfl
      by_cases hx : 604799 < 3600 * h + 60 * m + c
      · have HF := Lib.hid (parse_of_plain (r := (0, 3)) hp hf (by unfold pP; simp; omega))
        clear hf hp
        go_wp2
        refine wp_loop_rounds 4 ?_
        rw [rounds_succ]
        go_wp2
        rw [rounds_succ]
        go_wp2
        rw [rounds_succ]
        go_wp2
        rw [rounds_succ]
        go_wp2
        go_ret2
        exact ⟨ret_ii HF.out, (HB.out.alloc (by simpa using HB.out.size) _)⟩
      · have HF := Lib.hid (parse_of_plain (r := (3600 * h + 60 * m + c, 0)) hp hf (by unfold pP; simp; omega))
        clear hf hp
        go_wp2
        refine wp_loop_rounds 4 ?_
        rw [rounds_succ]
        go_wp2
        rw [rounds_succ]
        go_wp2
        rw [rounds_succ]
        go_wp2
        rw [rounds_succ]
        go_wp2
        go_ret2
        exact ⟨ret_ii' HF.out (by omega), (HB.out.alloc (by simpa using HB.out.size) _)⟩
    · have hq : ∀ w, (binOp .eql 54 (.agg #[.int .i64 h, .int .i64 m, .int .i64 c]) (.agg #[.int .i64 0, .int .i64 0, .int .i64 0])).run Tryd.prog w = .ok (.bool (h == 0 && (m == 0 && c == 0))) w := fun w => eql3 _ _ h m c rfl rfl w
      by_cases hz : h = 0 ∧ m = 0 ∧ c = 0
      · have hnz : (h == 0 && (m == 0 && c == 0)) = true := by simpa using hz
        rw [hnz] at hq
        have HF := Lib.hid (parse_of_minus (r := (0, 5)) (H1.out rfl) hf (by obtain ⟨rfl, rfl, rfl⟩ := hz; rfl))
        clear hf hz hnz
        go_wp2
        go_ret2
        exact ⟨ret_ii HF.out, (HB.out.alloc (by simpa using HB.out.size) _)⟩
      · have hnz : (h == 0 && (m == 0 && c == 0)) = false := by simpa using hz
        have hne : 3600 * h + 60 * m + c ≠ 0 := by omega
        rw [hnz] at hq
        clear hz hnz
        by_cases hx : 604799 < 3600 * h + 60 * m + c
        · have HF := Lib.hid (parse_of_minus (r := (0, 3)) (H1.out rfl) hf (by unfold pM; simp [hne]; omega))
          clear hf hne
          go_wp2
          refine wp_loop_rounds 4 ?_
          rw [rounds_succ]
          go_wp2
          rw [rounds_succ]
          go_wp2
          rw [rounds_succ]
          go_wp2
          rw [rounds_succ]
          go_wp2
          go_ret2
          exact ⟨ret_ii HF.out, (HB.out.alloc (by simpa using HB.out.size) _)⟩
        · have HF := Lib.hid (parse_of_minus (r := (-(3600 * h + 60 * m + c), 0)) (H1.out rfl) hf (by unfold pM; simp [hne]; omega))
          clear hf hne
          go_wp2
          refine wp_loop_rounds 4 ?_
          rw [rounds_succ]
          go_wp2
          rw [rounds_succ]
          go_wp2
          rw [rounds_succ]
          go_wp2
          rw [rounds_succ]
          go_wp2
          go_ret2
          exact ⟨ret_ii' HF.out (by omega), (HB.out.alloc (by simpa using HB.out.size) _)⟩
end Go.Proofs.YteahckmpjihcaaaDoor
