/- The contract of dayspec.Parse. -/
import Derived.Test.YtedcfnaphfgfjaaDoorDye
namespace Go.Proofs.YtedcfnaphfgfjaaDoor
open Go.RowKit Go.Shelf
theorem row_bl {w w1 : World} {b : Nat} {X : Obj} (hb : Below w.heap.size w w1) (h : w.heap[b]? = some X) : w1.heap[b]? = some X := by
  have hlt : b < w.heap.size := by
    rcases Nat.lt_or_ge b w.heap.size with e | e
    · exact e
    · rw [Array.getElem?_eq_none e] at h; cases h
  rw [hb.block b hlt]; exact h
theorem Ys.of {W0 w wx : World} (h : Hid (Ys W0 w)) (k : Hid (Bs w wx)) : Hid (Ys W0 wx) := Lib.hid (h.out.bl k.out)
theorem Bs.hset {w0 w : World} (h : Hid (Bs w0 w)) (p : Addr) (u : Value) (hp : w0.heap.size ≤ p.block) : Hid (Bs w0 (w.setCell p u)) := Lib.hid (h.out.set p u hp)
theorem dyInfo : (Tryd.prog.info? 23).map (·.size) = some 3 := by kernel_rfl
theorem dy_load {w : World} {g : Nat} {cs : Array Value} (h : w.heap[g]? = some (.cells cs 23 (0, 0))) (hs : cs.size = 3) : (loadVar 23 ⟨g, 0, none⟩).run Tryd.prog w = .ok (.agg cs) w :=
  run_loadVar_row w g _ _ cs _ _ h Tryd.underlying23 rfl (by rw [dyInfo, hs])
/- PARSE: written by tools/parse09.py -/
/-- a day form's row -/
def Dx (w : World) (b : Nat) (x y z : Int) : Prop := w.heap[b]? = some (.cells #[.int .i64 x, .int .i64 y, .int .i64 z] 23 (0, 0))
theorem Dx.bl {w w1 : World} {b : Nat} {x y z : Int} (h : Hid (Dx w b x y z)) (hb : Below w.heap.size w w1) : Hid (Dx w1 b x y z) := Lib.hid (row_bl hb h.out)
theorem Dx.al {w : World} {b : Nat} {x y z : Int} (h : Hid (Dx w b x y z)) (A : Obj) : Hid (Dx (w.alloc A) b x y z) := Lib.hid (row_al h.out)
theorem Dx.new (w : World) (x y z : Int) : Hid (Dx (w.alloc (.cells #[.int .i64 x, .int .i64 y, .int .i64 z] 23)) w.heap.size x y z) := Lib.hid (heap_alloc_last w _)
theorem Dx.z {w : World} {b : Nat} {x y z : Int} (h : Hid (Dx w b x y z)) (i : Nat) : w.frozen? ⟨b, i, none⟩ = false := frozen_of_row w b i _ _ h.out
theorem Dx.c0 {w : World} {b : Nat} {x y z : Int} (h : Hid (Dx w b x y z)) : w.cell? ⟨b, 0, none⟩ = some (.int .i64 x) := row_cell h.out rfl
theorem Dx.c1 {w : World} {b : Nat} {x y z : Int} (h : Hid (Dx w b x y z)) : w.cell? ⟨b, 1, none⟩ = some (.int .i64 y) := row_cell h.out rfl
theorem Dx.c2 {w : World} {b : Nat} {x y z : Int} (h : Hid (Dx w b x y z)) : w.cell? ⟨b, 2, none⟩ = some (.int .i64 z) := row_cell h.out rfl
theorem Dx.s1 {w : World} {b : Nat} {x y z : Int} (h : Hid (Dx w b x y z)) (v : Int) : Hid (Dx (w.setCell ⟨b, 1, none⟩ (.int .i64 v)) b x v z) := Lib.hid (heap_setCell_same w b 1 _ _ (.int .i64 v) h.out)
theorem Dx.s2 {w : World} {b : Nat} {x y z : Int} (h : Hid (Dx w b x y z)) (v : Int) : Hid (Dx (w.setCell ⟨b, 2, none⟩ (.int .i64 v)) b x y v) := Lib.hid (heap_setCell_same w b 2 _ _ (.int .i64 v) h.out)
theorem Dx.other {w : World} {b : Nat} {x y z : Int} (h : Hid (Dx w b x y z)) (p : Addr) (u : Value) (hne : b ≠ p.block) : Hid (Dx (w.setCell p u) b x y z) := Lib.hid (by
  show (w.setCell p u).heap[b]? = _
  rw [Below.heap_setCell w p u b hne]; exact h.out)
theorem Dx.lt {w : World} {b : Nat} {x y z : Int} (h : Hid (Dx w b x y z)) : b < w.heap.size := (Array.getElem?_eq_some_iff.1 h.out).1
theorem dy_res {fn : Func} (hfn : fn.results = #[.cell 2 23, .tmp 3]) {w : World} {g : Nat} {tmps : Array Value} {f x0 y0 z0 : Int} (h : Hid (Dx w g x0 y0 z0)) (hp : tmps.getD 2 undef = .pointer (some ⟨g, 0, none⟩)) (hf : tmps.getD 3 undef = .int .i64 f) (x y z : Int) :
    (results fn tmps).run Tryd.prog (((w.setCell ⟨g, 0, none⟩ (.int .i64 x)).setCell ⟨g, 1, none⟩ (.int .i64 y)).setCell ⟨g, 2, none⟩ (.int .i64 z)) = .ok (.tuple #[.agg #[.int .i64 x, .int .i64 y, .int .i64 z], .int .i64 f]) (((w.setCell ⟨g, 0, none⟩ (.int .i64 x)).setCell ⟨g, 1, none⟩ (.int .i64 y)).setCell ⟨g, 2, none⟩ (.int .i64 z)) := by
  have h2 := heap_setCell_same _ g 2 _ _ (.int .i64 z) (heap_setCell_same _ g 1 _ _ (.int .i64 y) (heap_setCell_same w g 0 _ _ (.int .i64 x) h.out))
  have h3 := dy_load (cs := #[.int .i64 x, .int .i64 y, .int .i64 z]) h2 rfl
  rw [results_cell_tmp hfn, hp, hf]
  simp only [asAddr, Sem.run_pure, Result.andThen_ok, h3]
theorem Bs.set3 {w0 w : World} (h : Hid (Bs w0 w)) (g : Nat) (hg : w0.heap.size ≤ g) (x y z : Value) : Below w0.heap.size w0 (((w.setCell ⟨g, 0, none⟩ x).setCell ⟨g, 1, none⟩ y).setCell ⟨g, 2, none⟩ z) := ((h.out.setCell (p := ⟨g, 0, none⟩) hg _).setCell (p := ⟨g, 1, none⟩) hg _).setCell (p := ⟨g, 2, none⟩) hg _
theorem wk_pair (K : Nat) (l : List UInt8) : ∃ a b, Dy.wk K l = (a, b) := ⟨_, _, rfl⟩
theorem nm_pair (K : Nat) (l : List UInt8) : ∃ a b, Dy.nm K l = (a, b) := ⟨_, _, rfl⟩
set_option maxRecDepth 100000 in
set_option maxHeartbeats 8000000 in
theorem yparse_core (s : ByteArray) (hs : s.size < 4294967281) (K : Nat) (A B : ByteArray) (h : Hid (splB s = (K, A, B))) (p1 p2 q1 q2 : Int) (hp : Hid (Dy.wk K A.data.toList = (p1, p2))) (hq : Hid (Dy.nm K B.data.toList = (q1, q2))) (hBs : B.size < 4294967281)
    (a b c e : Int) (hr : Dy.fin K (p1, p2) (q1, q2) = ((a, b, c), e)) {W0 w : World} (HC : Hid (Ys W0 w)) :
    Calls Tryd.prog 8 #[.string s] w fun x w' => x = .returned (.tuple #[.agg #[.int .i64 a, .int .i64 b, .int .i64 c], .int .i64 e]) ∧ Below w.heap.size w w' := by
  have HB := Bs.hal (Lib.hid (Bs.mk0 w)) (.cells #[.int .i64 0, .int .i64 0, .int .i64 0] 23)
  have HR := Dx.new w 0 0 0
  have HZ := Lib.hid hBs
  clear hBs
  by_cases hK1 : K = 1
  · have k1 : ((K : Int) != 1) = false := by simp; omega
    have k2 : ((K : Int) != 2) = true := by simp; omega
    have hK2 : K ≠ 2 := by omega
    by_cases e2 : q2 = 0
    ·
      have hq2 : Hid (Dy.num B.data.toList = (q1, q2)) := Lib.hid (by have := hq.out; unfold Dy.nm at this; rwa [if_neg hK2] at this)
      have hr2 := hr
      unfold Dy.fin at hr2
      dsimp only at hr2
      have hp0 := hp.out
      unfold Dy.wk at hp0
      rw [if_pos hK1] at hp0
      obtain ⟨rfl, rfl⟩ := Prod.mk.inj hp0
      rw [if_pos rfl] at hr2
      clear hp0
      have f2 : (q2 != 0) = false := by simp [e2]
      rw [if_pos e2] at hr2
      simp only [Prod.mk.injEq] at hr2
      obtain ⟨⟨rfl, rfl, rfl⟩, rfl⟩ := hr2
      clear hr hp hq hK1
      try clear hK2
      go_enter Tryd.func8, Tryd.ntmps8
      go_wp2_with fail
      refine (ysplit_s s hs K A B h (Ys.of HC HB)).mono ?_; rintro x w1 ⟨rfl, hb⟩
      replace HB := Bs.hbl HB hb
      replace HR := Dx.bl HR hb
      clear hb
      have hg1 := Dx.lt HR
      have hg2 := HB.out.size
      go_wp2_with fail
      have HD := Dx.new w1 (K : Int) 0 0
      replace HB := Bs.hal HB (.cells #[.int .i64 (K : Int), .int .i64 0, .int .i64 0] 23)
      replace HR := Dx.al HR (.cells #[.int .i64 (K : Int), .int .i64 0, .int .i64 0] 23)
      generalize w1.alloc (.cells #[.int .i64 (K : Int), .int .i64 0, .int .i64 0] 23) = w2 at *
      generalize w1.heap.size = g at *
      have hgw : w.heap.size ≤ g := by omega
      have hne : g ≠ w.heap.size := by omega
      clear hg2 hg1
      refine (ynum_any B HZ.out q1 q2 hq2 _).mono ?_; rintro x w4 ⟨rfl, rfl⟩
      have zd2 := Dx.z HD 2
      have zc2 := Dx.c2 HD
      replace HB := Bs.hset HB ⟨g, 2, none⟩ (.int .i64 q1) hgw
      replace HR := Dx.other HR ⟨g, 2, none⟩ (.int .i64 q1) hne.symm
      replace HD := Dx.s2 HD q1
      have z0 := Dx.z HR 0
      have z1 := Dx.z HR 1
      have z2 := Dx.z HR 2
      have zc0 := Dx.c0 HR
      have zc1 := Dx.c1 HR
      have zc2 := Dx.c2 HR
      have d0 := Dx.c0 HD
      have d1 := Dx.c1 HD
      have d2 := Dx.c2 HD
      go_wp2
      exact bodyPost_ret (dy_res Tryd.results8 HR rfl rfl _ _ _) rfl ⟨rfl, Bs.set3 HB _ (Nat.le_refl _) _ _ _⟩
    ·
      have hq2 : Hid (Dy.num B.data.toList = (q1, q2)) := Lib.hid (by have := hq.out; unfold Dy.nm at this; rwa [if_neg hK2] at this)
      have hr2 := hr
      unfold Dy.fin at hr2
      dsimp only at hr2
      have hp0 := hp.out
      unfold Dy.wk at hp0
      rw [if_pos hK1] at hp0
      obtain ⟨rfl, rfl⟩ := Prod.mk.inj hp0
      rw [if_pos rfl] at hr2
      clear hp0
      have f2 : (q2 != 0) = true := by simp [e2]
      rw [if_neg e2] at hr2
      simp only [Prod.mk.injEq] at hr2
      obtain ⟨⟨rfl, rfl, rfl⟩, rfl⟩ := hr2
      clear hr hp hq hK1
      try clear hK2
      go_enter Tryd.func8, Tryd.ntmps8
      go_wp2_with fail
      refine (ysplit_s s hs K A B h (Ys.of HC HB)).mono ?_; rintro x w1 ⟨rfl, hb⟩
      replace HB := Bs.hbl HB hb
      replace HR := Dx.bl HR hb
      clear hb
      have hg1 := Dx.lt HR
      have hg2 := HB.out.size
      go_wp2_with fail
      have HD := Dx.new w1 (K : Int) 0 0
      replace HB := Bs.hal HB (.cells #[.int .i64 (K : Int), .int .i64 0, .int .i64 0] 23)
      replace HR := Dx.al HR (.cells #[.int .i64 (K : Int), .int .i64 0, .int .i64 0] 23)
      generalize w1.alloc (.cells #[.int .i64 (K : Int), .int .i64 0, .int .i64 0] 23) = w2 at *
      generalize w1.heap.size = g at *
      have hgw : w.heap.size ≤ g := by omega
      have hne : g ≠ w.heap.size := by omega
      clear hg2 hg1
      refine (ynum_any B HZ.out q1 q2 hq2 _).mono ?_; rintro x w4 ⟨rfl, rfl⟩
      have zd2 := Dx.z HD 2
      have zc2 := Dx.c2 HD
      replace HB := Bs.hset HB ⟨g, 2, none⟩ (.int .i64 q1) hgw
      replace HR := Dx.other HR ⟨g, 2, none⟩ (.int .i64 q1) hne.symm
      replace HD := Dx.s2 HD q1
      have z0 := Dx.z HR 0
      have z1 := Dx.z HR 1
      have z2 := Dx.z HR 2
      have zc0 := Dx.c0 HR
      have zc1 := Dx.c1 HR
      have zc2 := Dx.c2 HR
      go_wp2
      exact bodyPost_ret (dy_res Tryd.results8 HR rfl rfl 0 0 0) rfl ⟨rfl, Bs.set3 HB _ (Nat.le_refl _) _ _ _⟩
  · have k1 : ((K : Int) != 1) = true := by simp; omega
    by_cases hK2 : K = 2
    · have k2 : ((K : Int) != 2) = false := by simp; omega
      by_cases e1 : p2 = 0
      ·
        have hp2 : Hid (Dy.week A.data.toList = (p1, p2)) := Lib.hid (by have := hp.out; unfold Dy.wk at this; rwa [if_neg hK1] at this)
        have hr2 := hr
        unfold Dy.fin at hr2
        dsimp only at hr2
        have f1 : (p2 != 0) = false := by simp [e1]
        rw [if_pos e1] at hr2
        have hq0 := hq.out
        unfold Dy.nm at hq0
        rw [if_pos hK2] at hq0
        obtain ⟨rfl, rfl⟩ := Prod.mk.inj hq0
        rw [if_pos rfl] at hr2
        clear hq0
        simp only [Prod.mk.injEq] at hr2
        obtain ⟨⟨rfl, rfl, rfl⟩, rfl⟩ := hr2
        clear hr hp hq hK1
        try clear hK2
        go_enter Tryd.func8, Tryd.ntmps8
        go_wp2_with fail
        refine (ysplit_s s hs K A B h (Ys.of HC HB)).mono ?_; rintro x w1 ⟨rfl, hb⟩
        replace HB := Bs.hbl HB hb
        replace HR := Dx.bl HR hb
        clear hb
        have hg1 := Dx.lt HR
        have hg2 := HB.out.size
        go_wp2_with fail
        have HD := Dx.new w1 (K : Int) 0 0
        replace HB := Bs.hal HB (.cells #[.int .i64 (K : Int), .int .i64 0, .int .i64 0] 23)
        replace HR := Dx.al HR (.cells #[.int .i64 (K : Int), .int .i64 0, .int .i64 0] 23)
        generalize w1.alloc (.cells #[.int .i64 (K : Int), .int .i64 0, .int .i64 0] 23) = w2 at *
        generalize w1.heap.size = g at *
        have hgw : w.heap.size ≤ g := by omega
        have hne : g ≠ w.heap.size := by omega
        clear hg2 hg1
        refine (yWeek_s A p1 p2 hp2 (Ys.of HC HB)).mono ?_; rintro x w3 ⟨rfl, hb, _⟩
        replace HB := Bs.hbl HB hb
        replace HR := Dx.bl HR hb
        replace HD := Dx.bl HD hb
        clear hb
        have zd := Dx.z HD 1
        have zc := Dx.c1 HD
        replace HB := Bs.hset HB ⟨g, 1, none⟩ (.int .i64 p1) hgw
        replace HR := Dx.other HR ⟨g, 1, none⟩ (.int .i64 p1) hne.symm
        replace HD := Dx.s1 HD p1
        have z0 := Dx.z HR 0
        have z1 := Dx.z HR 1
        have z2 := Dx.z HR 2
        have zc0 := Dx.c0 HR
        have zc1 := Dx.c1 HR
        have zc2 := Dx.c2 HR
        have d0 := Dx.c0 HD
        have d1 := Dx.c1 HD
        have d2 := Dx.c2 HD
        go_wp2
        exact bodyPost_ret (dy_res Tryd.results8 HR rfl rfl _ _ _) rfl ⟨rfl, Bs.set3 HB _ (Nat.le_refl _) _ _ _⟩
      ·
        have hp2 : Hid (Dy.week A.data.toList = (p1, p2)) := Lib.hid (by have := hp.out; unfold Dy.wk at this; rwa [if_neg hK1] at this)
        have hr2 := hr
        unfold Dy.fin at hr2
        dsimp only at hr2
        have f1 : (p2 != 0) = true := by simp [e1]
        rw [if_neg e1] at hr2
        simp only [Prod.mk.injEq] at hr2
        obtain ⟨⟨rfl, rfl, rfl⟩, rfl⟩ := hr2
        clear hr hp hq hK1
        try clear hK2
        go_enter Tryd.func8, Tryd.ntmps8
        go_wp2_with fail
        refine (ysplit_s s hs K A B h (Ys.of HC HB)).mono ?_; rintro x w1 ⟨rfl, hb⟩
        replace HB := Bs.hbl HB hb
        replace HR := Dx.bl HR hb
        clear hb
        have hg1 := Dx.lt HR
        have hg2 := HB.out.size
        go_wp2_with fail
        have HD := Dx.new w1 (K : Int) 0 0
        replace HB := Bs.hal HB (.cells #[.int .i64 (K : Int), .int .i64 0, .int .i64 0] 23)
        replace HR := Dx.al HR (.cells #[.int .i64 (K : Int), .int .i64 0, .int .i64 0] 23)
        generalize w1.alloc (.cells #[.int .i64 (K : Int), .int .i64 0, .int .i64 0] 23) = w2 at *
        generalize w1.heap.size = g at *
        have hgw : w.heap.size ≤ g := by omega
        have hne : g ≠ w.heap.size := by omega
        clear hg2 hg1
        refine (yWeek_s A p1 p2 hp2 (Ys.of HC HB)).mono ?_; rintro x w3 ⟨rfl, hb, _⟩
        replace HB := Bs.hbl HB hb
        replace HR := Dx.bl HR hb
        replace HD := Dx.bl HD hb
        clear hb
        have zd := Dx.z HD 1
        have zc := Dx.c1 HD
        replace HB := Bs.hset HB ⟨g, 1, none⟩ (.int .i64 p1) hgw
        replace HR := Dx.other HR ⟨g, 1, none⟩ (.int .i64 p1) hne.symm
        replace HD := Dx.s1 HD p1
        have z0 := Dx.z HR 0
        have z1 := Dx.z HR 1
        have z2 := Dx.z HR 2
        have zc0 := Dx.c0 HR
        have zc1 := Dx.c1 HR
        have zc2 := Dx.c2 HR
        go_wp2
        exact bodyPost_ret (dy_res Tryd.results8 HR rfl rfl 0 0 0) rfl ⟨rfl, Bs.set3 HB _ (Nat.le_refl _) _ _ _⟩
    · have k2 : ((K : Int) != 2) = true := by simp; omega
      by_cases e1 : p2 = 0
      · by_cases e2 : q2 = 0
        ·
          have hp2 : Hid (Dy.week A.data.toList = (p1, p2)) := Lib.hid (by have := hp.out; unfold Dy.wk at this; rwa [if_neg hK1] at this)
          have hq2 : Hid (Dy.num B.data.toList = (q1, q2)) := Lib.hid (by have := hq.out; unfold Dy.nm at this; rwa [if_neg hK2] at this)
          have hr2 := hr
          unfold Dy.fin at hr2
          dsimp only at hr2
          have f1 : (p2 != 0) = false := by simp [e1]
          rw [if_pos e1] at hr2
          have f2 : (q2 != 0) = false := by simp [e2]
          rw [if_pos e2] at hr2
          simp only [Prod.mk.injEq] at hr2
          obtain ⟨⟨rfl, rfl, rfl⟩, rfl⟩ := hr2
          clear hr hp hq hK1
          try clear hK2
          go_enter Tryd.func8, Tryd.ntmps8
          go_wp2_with fail
          refine (ysplit_s s hs K A B h (Ys.of HC HB)).mono ?_; rintro x w1 ⟨rfl, hb⟩
          replace HB := Bs.hbl HB hb
          replace HR := Dx.bl HR hb
          clear hb
          have hg1 := Dx.lt HR
          have hg2 := HB.out.size
          go_wp2_with fail
          have HD := Dx.new w1 (K : Int) 0 0
          replace HB := Bs.hal HB (.cells #[.int .i64 (K : Int), .int .i64 0, .int .i64 0] 23)
          replace HR := Dx.al HR (.cells #[.int .i64 (K : Int), .int .i64 0, .int .i64 0] 23)
          generalize w1.alloc (.cells #[.int .i64 (K : Int), .int .i64 0, .int .i64 0] 23) = w2 at *
          generalize w1.heap.size = g at *
          have hgw : w.heap.size ≤ g := by omega
          have hne : g ≠ w.heap.size := by omega
          clear hg2 hg1
          refine (yWeek_s A p1 p2 hp2 (Ys.of HC HB)).mono ?_; rintro x w3 ⟨rfl, hb, _⟩
          replace HB := Bs.hbl HB hb
          replace HR := Dx.bl HR hb
          replace HD := Dx.bl HD hb
          clear hb
          have zd := Dx.z HD 1
          have zc := Dx.c1 HD
          replace HB := Bs.hset HB ⟨g, 1, none⟩ (.int .i64 p1) hgw
          replace HR := Dx.other HR ⟨g, 1, none⟩ (.int .i64 p1) hne.symm
          replace HD := Dx.s1 HD p1
          go_wp2_with fail
          refine (ynum_any B HZ.out q1 q2 hq2 _).mono ?_; rintro x w4 ⟨rfl, rfl⟩
          have zd2 := Dx.z HD 2
          have zc2 := Dx.c2 HD
          replace HB := Bs.hset HB ⟨g, 2, none⟩ (.int .i64 q1) hgw
          replace HR := Dx.other HR ⟨g, 2, none⟩ (.int .i64 q1) hne.symm
          replace HD := Dx.s2 HD q1
          have z0 := Dx.z HR 0
          have z1 := Dx.z HR 1
          have z2 := Dx.z HR 2
          have zc0 := Dx.c0 HR
          have zc1 := Dx.c1 HR
          have zc2 := Dx.c2 HR
          have d0 := Dx.c0 HD
          have d1 := Dx.c1 HD
          have d2 := Dx.c2 HD
          go_wp2
          exact bodyPost_ret (dy_res Tryd.results8 HR rfl rfl _ _ _) rfl ⟨rfl, Bs.set3 HB _ (Nat.le_refl _) _ _ _⟩
        ·
          have hp2 : Hid (Dy.week A.data.toList = (p1, p2)) := Lib.hid (by have := hp.out; unfold Dy.wk at this; rwa [if_neg hK1] at this)
          have hq2 : Hid (Dy.num B.data.toList = (q1, q2)) := Lib.hid (by have := hq.out; unfold Dy.nm at this; rwa [if_neg hK2] at this)
          have hr2 := hr
          unfold Dy.fin at hr2
          dsimp only at hr2
          have f1 : (p2 != 0) = false := by simp [e1]
          rw [if_pos e1] at hr2
          have f2 : (q2 != 0) = true := by simp [e2]
          rw [if_neg e2] at hr2
          simp only [Prod.mk.injEq] at hr2
          obtain ⟨⟨rfl, rfl, rfl⟩, rfl⟩ := hr2
          clear hr hp hq hK1
          try clear hK2
          go_enter Tryd.func8, Tryd.ntmps8
          go_wp2_with fail
          refine (ysplit_s s hs K A B h (Ys.of HC HB)).mono ?_; rintro x w1 ⟨rfl, hb⟩
          replace HB := Bs.hbl HB hb
          replace HR := Dx.bl HR hb
          clear hb
          have hg1 := Dx.lt HR
          have hg2 := HB.out.size
          go_wp2_with fail
          have HD := Dx.new w1 (K : Int) 0 0
          replace HB := Bs.hal HB (.cells #[.int .i64 (K : Int), .int .i64 0, .int .i64 0] 23)
          replace HR := Dx.al HR (.cells #[.int .i64 (K : Int), .int .i64 0, .int .i64 0] 23)
          generalize w1.alloc (.cells #[.int .i64 (K : Int), .int .i64 0, .int .i64 0] 23) = w2 at *
          generalize w1.heap.size = g at *
          have hgw : w.heap.size ≤ g := by omega
          have hne : g ≠ w.heap.size := by omega
          clear hg2 hg1
          refine (yWeek_s A p1 p2 hp2 (Ys.of HC HB)).mono ?_; rintro x w3 ⟨rfl, hb, _⟩
          replace HB := Bs.hbl HB hb
          replace HR := Dx.bl HR hb
          replace HD := Dx.bl HD hb
          clear hb
          have zd := Dx.z HD 1
          have zc := Dx.c1 HD
          replace HB := Bs.hset HB ⟨g, 1, none⟩ (.int .i64 p1) hgw
          replace HR := Dx.other HR ⟨g, 1, none⟩ (.int .i64 p1) hne.symm
          replace HD := Dx.s1 HD p1
          go_wp2_with fail
          refine (ynum_any B HZ.out q1 q2 hq2 _).mono ?_; rintro x w4 ⟨rfl, rfl⟩
          have zd2 := Dx.z HD 2
          have zc2 := Dx.c2 HD
          replace HB := Bs.hset HB ⟨g, 2, none⟩ (.int .i64 q1) hgw
          replace HR := Dx.other HR ⟨g, 2, none⟩ (.int .i64 q1) hne.symm
          replace HD := Dx.s2 HD q1
          have z0 := Dx.z HR 0
          have z1 := Dx.z HR 1
          have z2 := Dx.z HR 2
          have zc0 := Dx.c0 HR
          have zc1 := Dx.c1 HR
          have zc2 := Dx.c2 HR
          go_wp2
          exact bodyPost_ret (dy_res Tryd.results8 HR rfl rfl 0 0 0) rfl ⟨rfl, Bs.set3 HB _ (Nat.le_refl _) _ _ _⟩
      ·
        have hp2 : Hid (Dy.week A.data.toList = (p1, p2)) := Lib.hid (by have := hp.out; unfold Dy.wk at this; rwa [if_neg hK1] at this)
        have hq2 : Hid (Dy.num B.data.toList = (q1, q2)) := Lib.hid (by have := hq.out; unfold Dy.nm at this; rwa [if_neg hK2] at this)
        have hr2 := hr
        unfold Dy.fin at hr2
        dsimp only at hr2
        have f1 : (p2 != 0) = true := by simp [e1]
        rw [if_neg e1] at hr2
        simp only [Prod.mk.injEq] at hr2
        obtain ⟨⟨rfl, rfl, rfl⟩, rfl⟩ := hr2
        clear hr hp hq hK1
        try clear hK2
        go_enter Tryd.func8, Tryd.ntmps8
        go_wp2_with fail
        refine (ysplit_s s hs K A B h (Ys.of HC HB)).mono ?_; rintro x w1 ⟨rfl, hb⟩
        replace HB := Bs.hbl HB hb
        replace HR := Dx.bl HR hb
        clear hb
        have hg1 := Dx.lt HR
        have hg2 := HB.out.size
        go_wp2_with fail
        have HD := Dx.new w1 (K : Int) 0 0
        replace HB := Bs.hal HB (.cells #[.int .i64 (K : Int), .int .i64 0, .int .i64 0] 23)
        replace HR := Dx.al HR (.cells #[.int .i64 (K : Int), .int .i64 0, .int .i64 0] 23)
        generalize w1.alloc (.cells #[.int .i64 (K : Int), .int .i64 0, .int .i64 0] 23) = w2 at *
        generalize w1.heap.size = g at *
        have hgw : w.heap.size ≤ g := by omega
        have hne : g ≠ w.heap.size := by omega
        clear hg2 hg1
        refine (yWeek_s A p1 p2 hp2 (Ys.of HC HB)).mono ?_; rintro x w3 ⟨rfl, hb, _⟩
        replace HB := Bs.hbl HB hb
        replace HR := Dx.bl HR hb
        replace HD := Dx.bl HD hb
        clear hb
        have zd := Dx.z HD 1
        have zc := Dx.c1 HD
        replace HB := Bs.hset HB ⟨g, 1, none⟩ (.int .i64 p1) hgw
        replace HR := Dx.other HR ⟨g, 1, none⟩ (.int .i64 p1) hne.symm
        replace HD := Dx.s1 HD p1
        have z0 := Dx.z HR 0
        have z1 := Dx.z HR 1
        have z2 := Dx.z HR 2
        have zc0 := Dx.c0 HR
        have zc1 := Dx.c1 HR
        have zc2 := Dx.c2 HR
        go_wp2
        exact bodyPost_ret (dy_res Tryd.results8 HR rfl rfl 0 0 0) rfl ⟨rfl, Bs.set3 HB _ (Nat.le_refl _) _ _ _⟩
theorem splB_le (s : ByteArray) : (splB s).2.2.size ≤ s.size := by
  unfold splB
  cases Dy.opr s.data.toList with
  | some x => obtain ⟨k, kd⟩ := x; simp only; rw [ByteArray.size_extract]; omega
  | none =>
    simp only
    split
    · show 0 ≤ _; omega
    · exact Nat.le_refl _
/-- dayspec.Parse -/
theorem yParse_s {W0 w : World} (s : ByteArray) (hs : s.size < 4294967281) (a b c e : Int) (hr : Hid (Dy.parse s.data.toList = ((a, b, c), e))) (HC : Hid (Ys W0 w)) :
    Calls Tryd.prog 8 #[.string s] w fun x w' => x = .returned (.tuple #[.agg #[.int .i64 a, .int .i64 b, .int .i64 c], .int .i64 e]) ∧ Below w.heap.size w w' ∧ Hid (Ys W0 w') := by
  obtain ⟨K, A, B, hK⟩ : ∃ K A B, splB s = (K, A, B) := ⟨_, _, _, rfl⟩
  have hl := splB_le s
  rw [hK] at hl
  have h := hr.out
  unfold Dy.parse at h
  rw [splB_eq, hK] at h
  dsimp only at h
  obtain ⟨p1, p2, hp⟩ := wk_pair K A.data.toList
  obtain ⟨q1, q2, hq⟩ := nm_pair K B.data.toList
  rw [hp, hq] at h
  refine (yparse_core s hs K A B (Lib.hid hK) p1 p2 q1 q2 (Lib.hid hp) (Lib.hid hq) (Nat.lt_of_le_of_lt hl hs) a b c e h HC).mono ?_
  rintro x w' ⟨rfl, hb⟩
  exact ⟨rfl, hb, Ys.hbl HC hb⟩
end Go.Proofs.YtedcfnaphfgfjaaDoor
