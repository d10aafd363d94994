/- The document's answers about day forms as strings: Parse. -/
import Derived.Test.YtedcfnaphfgfjaaDoorDys
namespace Go.Proofs.YtedcfnaphfgfjaaDoor
open Go.RowKit Go.Shelf
theorem one_err (l : List Nat) : (Wd.one l).2 = 0 ∨ (Wd.one l).2 = 8 := by
  match l with
  | [] => exact .inr rfl
  | [_] => exact .inl rfl
  | _ :: _ :: _ => exact .inr rfl
theorem week_err (l : List UInt8) (p1 p2 : Int) (h : Dy.week l = (p1, p2)) : p2 = 0 ∨ p2 = 8 := by
  have : p2 = (Dy.week l).2 := by rw [h]
  rw [this]
  unfold Dy.week Wd.fnd
  split
  · exact .inr rfl
  · exact one_err _
theorem rWeek_y (s : ByteArray) (hs : s.size ≤ 100000) (r1 r2 : Int) (hr : Hid (Dy.week s.data.toList = (r1, r2))) (w : World) : Calls Tryd.prog 21 #[.string s] w fun e w' => e = .returned (.tuple #[.int .i64 r1, .int .i64 r2]) ∧ Below w.heap.size w w' :=
  rWeek_any s hs r1 r2 (Lib.hid (by rw [wl_weeks]; exact hr.out)) w
theorem sgR_some (l : List UInt8) (k kd : Nat) (h : Dy.opr l = some (k, kd)) : sgR l = ((k : Int), true) := by
  obtain ⟨h1, c, d, hc, hd, hd2, _⟩ := opr_some _ _ _ h
  unfold sgR
  rw [h1]
  simp only [hd]
  rw [hd2]; rfl
theorem sgR_none (l : List UInt8) (h : Dy.opr l = none) : (sgR l).2 = false := by
  unfold sgR
  rcases opr_none _ h with h1 | ⟨k, h1, h2⟩
  · rw [h1]
  · rw [h1]
    simp only
    rcases h2 with h2 | ⟨d, h2, h3⟩
    · rw [h2]
    · rw [h2]
      simp only
      cases e : Nat.beq d.toNat 61 with
      | false => rfl
      | true => exact absurd (Nat.eq_of_beq_eq_true e) h3
set_option maxRecDepth 100000 in
set_option maxHeartbeats 8000000 in
theorem rparse_op (s : ByteArray) (hs : s.size ≤ 100000) (k kd : Nat) (h : Dy.opr s.data.toList = some (k, kd)) (p1 p2 q1 q2 : Int) (hp2 : Hid (Dy.week (s.extract 0 k).data.toList = (p1, p2))) (hq2 : Hid (Dy.num (s.extract (k + 2) s.size).data.toList = (q1, q2)))
    (a b c e : Int) (hr : Dy.fin kd (p1, p2) (q1, q2) = ((a, b, c), e)) (w : World) :
    Calls Tryd.prog 9 #[.string s] w fun x w' => x = .returned (.tuple #[.agg #[.int .i64 a, .int .i64 b, .int .i64 c], .int .i64 e]) ∧ Below w.heap.size w w' := by
  have hsg := sgR_some _ _ _ h
  have HG := Lib.hid hsg
  obtain ⟨_, x, d, hc, hd, hd2, hk⟩ := opr_some _ _ _ h
  have hlt := (List.getElem?_eq_some_iff.1 hd).1
  have hl : s.data.toList.length = s.size := by rw [Array.length_toList]; rfl
  have hkl : k < s.size := by omega
  have hx : s[k]'hkl = x := by
    have := Lib.data_getElem? s k hkl
    rw [hc] at this
    exact (Option.some.inj this).symm
  have hz1 : (s.extract 0 k).size ≤ 100000 := by rw [ByteArray.size_extract]; omega
  have hz2 : (s.extract (k + 2) s.size).size < 4294967281 := by rw [ByteArray.size_extract]; omega
  have g1 : (0 : Int) ≤ (k : Int) := by omega
  have g2 : (k : Int) ≤ (s.size : Int) := by omega
  have g3 : (k : Int) < (s.size : Int) := by omega
  have g4 : (k : Int) + 2 ≤ (s.size : Int) := by omega
  have g5 : (0 : Int) ≤ (k : Int) + 2 := by omega
  have we := week_err _ _ _ hp2.out
  have HB := Bs.hal (Lib.hid (Bs.mk0 w)) (.cells #[.int .i64 0, .int .i64 0, .int .i64 0] 23)
  have HR := Dx.new w 0 0 0
  have HZ := Lib.hid (And.intro hz1 hz2)
  have hr2 := hr
  unfold Dy.fin at hr2
  dsimp only at hr2
  clear hr hsg hc hd hd2 hlt hl hz1 hz2 h
  by_cases e1 : p2 = 0
  · have f1 : (p2 != 0) = false := by simp [e1]
    rw [if_pos e1] at hr2
    by_cases e2 : q2 = 0
    · have f2 : (q2 != 0) = false := by simp [e2]
      rw [if_pos e2] at hr2
      simp only [Prod.mk.injEq] at hr2
      obtain ⟨⟨rfl, rfl, rfl⟩, rfl⟩ := hr2
      clear e1 e2 we
      rcases hk with ⟨hk, rfl⟩ | ⟨hk, rfl⟩
      · have hxx : (x.toNat : Int) = 62 := by omega
        clear hk
        go_enter Tryd.func9, Tryd.ntmps9
        go_wp2_with fail
        refine (rsign_any s (by omega) _ _ HG _).mono ?_; rintro y w1 ⟨rfl, hb⟩
        replace HB := Bs.hdw HB hb
        replace HR := Dx.bl HR (hb.below)
        clear hb
        go_wp2_with fail
        refine (rWeek_y (s.extract 0 k) HZ.out.1 p1 p2 hp2 _).mono ?_; rintro y w2 ⟨rfl, hb⟩
        replace HB := Bs.hbl HB hb
        replace HR := Dx.bl HR hb
        clear hb
        go_wp2_with fail
        refine (rnum_any (s.extract (k + 2) s.size) HZ.out.2 q1 q2 hq2 _).mono ?_; rintro y w3 ⟨rfl, rfl⟩
        have z0 := Dx.z HR 0
        have z1 := Dx.z HR 1
        have z2 := Dx.z HR 2
        have zc0 := Dx.c0 HR
        have zc1 := Dx.c1 HR
        have zc2 := Dx.c2 HR
        go_wp2
        exact bodyPost_ret (dy_res Tryd.results9 HR rfl rfl _ _ _) rfl ⟨rfl, Bs.set3 HB _ (Nat.le_refl _) _ _ _⟩
      · have hxx : (x.toNat : Int) = 60 := by omega
        clear hk
        go_enter Tryd.func9, Tryd.ntmps9
        go_wp2_with fail
        refine (rsign_any s (by omega) _ _ HG _).mono ?_; rintro y w1 ⟨rfl, hb⟩
        replace HB := Bs.hdw HB hb
        replace HR := Dx.bl HR (hb.below)
        clear hb
        go_wp2_with fail
        refine (rWeek_y (s.extract 0 k) HZ.out.1 p1 p2 hp2 _).mono ?_; rintro y w2 ⟨rfl, hb⟩
        replace HB := Bs.hbl HB hb
        replace HR := Dx.bl HR hb
        clear hb
        go_wp2_with fail
        refine (rnum_any (s.extract (k + 2) s.size) HZ.out.2 q1 q2 hq2 _).mono ?_; rintro y w3 ⟨rfl, rfl⟩
        have z0 := Dx.z HR 0
        have z1 := Dx.z HR 1
        have z2 := Dx.z HR 2
        have zc0 := Dx.c0 HR
        have zc1 := Dx.c1 HR
        have zc2 := Dx.c2 HR
        go_wp2
        exact bodyPost_ret (dy_res Tryd.results9 HR rfl rfl _ _ _) rfl ⟨rfl, Bs.set3 HB _ (Nat.le_refl _) _ _ _⟩
    · have f2 : (q2 != 0) = true := by simp [e2]
      rw [if_neg e2] at hr2
      simp only [Prod.mk.injEq] at hr2
      obtain ⟨⟨rfl, rfl, rfl⟩, rfl⟩ := hr2
      clear e1 e2 we hk
      go_enter Tryd.func9, Tryd.ntmps9
      go_wp2_with fail
      refine (rsign_any s (by omega) _ _ HG _).mono ?_; rintro y w1 ⟨rfl, hb⟩
      replace HB := Bs.hdw HB hb
      replace HR := Dx.bl HR (hb.below)
      clear hb
      go_wp2_with fail
      refine (rWeek_y (s.extract 0 k) HZ.out.1 p1 p2 hp2 _).mono ?_; rintro y w2 ⟨rfl, hb⟩
      replace HB := Bs.hbl HB hb
      replace HR := Dx.bl HR hb
      clear hb
      go_wp2_with fail
      refine (rnum_any (s.extract (k + 2) s.size) HZ.out.2 q1 q2 hq2 _).mono ?_; rintro y w3 ⟨rfl, rfl⟩
      have z0 := Dx.z HR 0
      have z1 := Dx.z HR 1
      have z2 := Dx.z HR 2
      have zc0 := Dx.c0 HR
      have zc1 := Dx.c1 HR
      have zc2 := Dx.c2 HR
      go_wp2
      exact bodyPost_ret (dy_res Tryd.results9 HR rfl rfl _ _ _) rfl ⟨rfl, Bs.set3 HB _ (Nat.le_refl _) _ _ _⟩
  · obtain rfl : p2 = 8 := by omega
    have f1 : ((8 : Int) != 0) = true := by decide
    rw [if_neg e1] at hr2
    simp only [Prod.mk.injEq] at hr2
    obtain ⟨⟨rfl, rfl, rfl⟩, rfl⟩ := hr2
    clear e1 we hk
    go_enter Tryd.func9, Tryd.ntmps9
    go_wp2_with fail
    refine (rsign_any s (by omega) _ _ HG _).mono ?_; rintro y w1 ⟨rfl, hb⟩
    replace HB := Bs.hdw HB hb
    replace HR := Dx.bl HR (hb.below)
    clear hb
    go_wp2_with fail
    refine (rWeek_y (s.extract 0 k) HZ.out.1 p1 8 hp2 _).mono ?_; rintro y w2 ⟨rfl, hb⟩
    replace HB := Bs.hbl HB hb
    replace HR := Dx.bl HR hb
    clear hb
    have z0 := Dx.z HR 0
    have z1 := Dx.z HR 1
    have z2 := Dx.z HR 2
    have zc0 := Dx.c0 HR
    have zc1 := Dx.c1 HR
    have zc2 := Dx.c2 HR
    go_wp2
    exact bodyPost_ret (dy_res Tryd.results9 HR rfl rfl _ _ _) rfl ⟨rfl, Bs.set3 HB _ (Nat.le_refl _) _ _ _⟩
set_option maxRecDepth 100000 in
set_option maxHeartbeats 8000000 in
theorem rparse_last (s : ByteArray) (hs : s.size ≤ 100000) (h : Dy.opr s.data.toList = none) (hL : Dy.isL s.data.toList = true) (p1 p2 : Int) (hp2 : Hid (Dy.week (s.extract 4 s.size).data.toList = (p1, p2)))
    (a b c e : Int) (hr : Dy.fin 2 (p1, p2) (0, 0) = ((a, b, c), e)) (w : World) :
    Calls Tryd.prog 9 #[.string s] w fun x w' => x = .returned (.tuple #[.agg #[.int .i64 a, .int .i64 b, .int .i64 c], .int .i64 e]) ∧ Below w.heap.size w w' := by
  have h4 : 4 ≤ s.size := by
    rcases Nat.lt_or_ge s.size 4 with h5 | h5
    · rw [isL_short s h5] at hL; cases hL
    · exact h5
  have hsg : sgR s.data.toList = ((sgR s.data.toList).1, false) := by rw [← sgR_none _ h]
  generalize (sgR s.data.toList).1 = x0 at *
  have HG := Lib.hid hsg
  have hla := rlast_any s
  rw [hL] at hla
  have HA := Lib.hid hla
  have hz1 : (s.extract 4 s.size).size ≤ 100000 := by rw [ByteArray.size_extract]; omega
  have g1 : (4 : Int) ≤ (s.size : Int) := by omega
  have we := week_err _ _ _ hp2.out
  have HB := Bs.hal (Lib.hid (Bs.mk0 w)) (.cells #[.int .i64 0, .int .i64 0, .int .i64 0] 23)
  have HR := Dx.new w 0 0 0
  have HZ := Lib.hid hz1
  have hr2 := hr
  unfold Dy.fin at hr2
  dsimp only at hr2
  clear hr hsg hz1 h hL hla h4
  by_cases e1 : p2 = 0
  · have f1 : (p2 != 0) = false := by simp [e1]
    rw [if_pos e1, if_pos rfl] at hr2
    simp only [Prod.mk.injEq] at hr2
    obtain ⟨⟨rfl, rfl, rfl⟩, rfl⟩ := hr2
    clear e1 we
    go_enter Tryd.func9, Tryd.ntmps9
    go_wp2_with fail
    refine (rsign_any s (by omega) _ _ HG _).mono ?_; rintro y w1 ⟨rfl, hb⟩
    replace HB := Bs.hdw HB hb
    replace HR := Dx.bl HR (hb.below)
    clear hb
    go_wp2_with fail
    refine (HA.out _).mono ?_; rintro y w5 ⟨rfl, hb⟩
    replace HB := Bs.hdw HB hb
    replace HR := Dx.bl HR (hb.below)
    clear hb
    go_wp2_with fail
    refine (rWeek_y (s.extract 4 s.size) HZ.out p1 p2 hp2 _).mono ?_; rintro y w2 ⟨rfl, hb⟩
    replace HB := Bs.hbl HB hb
    replace HR := Dx.bl HR hb
    clear hb
    have z0 := Dx.z HR 0
    have z1 := Dx.z HR 1
    have z2 := Dx.z HR 2
    have zc0 := Dx.c0 HR
    have zc1 := Dx.c1 HR
    have zc2 := Dx.c2 HR
    go_wp2
    exact bodyPost_ret (dy_res Tryd.results9 HR rfl rfl _ _ _) rfl ⟨rfl, Bs.set3 HB _ (Nat.le_refl _) _ _ _⟩
  · obtain rfl : p2 = 8 := by omega
    have f1 : ((8 : Int) != 0) = true := by decide
    rw [if_neg e1] at hr2
    simp only [Prod.mk.injEq] at hr2
    obtain ⟨⟨rfl, rfl, rfl⟩, rfl⟩ := hr2
    clear e1 we
    go_enter Tryd.func9, Tryd.ntmps9
    go_wp2_with fail
    refine (rsign_any s (by omega) _ _ HG _).mono ?_; rintro y w1 ⟨rfl, hb⟩
    replace HB := Bs.hdw HB hb
    replace HR := Dx.bl HR (hb.below)
    clear hb
    go_wp2_with fail
    refine (HA.out _).mono ?_; rintro y w5 ⟨rfl, hb⟩
    replace HB := Bs.hdw HB hb
    replace HR := Dx.bl HR (hb.below)
    clear hb
    go_wp2_with fail
    refine (rWeek_y (s.extract 4 s.size) HZ.out p1 8 hp2 _).mono ?_; rintro y w2 ⟨rfl, hb⟩
    replace HB := Bs.hbl HB hb
    replace HR := Dx.bl HR hb
    clear hb
    have z0 := Dx.z HR 0
    have z1 := Dx.z HR 1
    have z2 := Dx.z HR 2
    have zc0 := Dx.c0 HR
    have zc1 := Dx.c1 HR
    have zc2 := Dx.c2 HR
    go_wp2
    exact bodyPost_ret (dy_res Tryd.results9 HR rfl rfl _ _ _) rfl ⟨rfl, Bs.set3 HB _ (Nat.le_refl _) _ _ _⟩
set_option maxRecDepth 100000 in
set_option maxHeartbeats 8000000 in
theorem rparse_no (s : ByteArray) (hs : s.size ≤ 100000) (h : Dy.opr s.data.toList = none) (hL : Dy.isL s.data.toList = false) (q1 q2 : Int) (hq2 : Hid (Dy.num s.data.toList = (q1, q2)))
    (a b c e : Int) (hr : Dy.fin 1 (0, 0) (q1, q2) = ((a, b, c), e)) (w : World) :
    Calls Tryd.prog 9 #[.string s] w fun x w' => x = .returned (.tuple #[.agg #[.int .i64 a, .int .i64 b, .int .i64 c], .int .i64 e]) ∧ Below w.heap.size w w' := by
  have hsg : sgR s.data.toList = ((sgR s.data.toList).1, false) := by rw [← sgR_none _ h]
  generalize (sgR s.data.toList).1 = x0 at *
  have HG := Lib.hid hsg
  have hla := rlast_any s
  rw [hL] at hla
  have HA := Lib.hid hla
  have HB := Bs.hal (Lib.hid (Bs.mk0 w)) (.cells #[.int .i64 0, .int .i64 0, .int .i64 0] 23)
  have HR := Dx.new w 0 0 0
  have hr2 := hr
  unfold Dy.fin at hr2
  dsimp only at hr2
  clear hr hsg h hL hla
  rw [if_pos rfl] at hr2
  by_cases e2 : q2 = 0
  · have f2 : (q2 != 0) = false := by simp [e2]
    rw [if_pos e2] at hr2
    simp only [Prod.mk.injEq] at hr2
    obtain ⟨⟨rfl, rfl, rfl⟩, rfl⟩ := hr2
    clear e2
    go_enter Tryd.func9, Tryd.ntmps9
    go_wp2_with fail
    refine (rsign_any s (by omega) _ _ HG _).mono ?_; rintro y w1 ⟨rfl, hb⟩
    replace HB := Bs.hdw HB hb
    replace HR := Dx.bl HR (hb.below)
    clear hb
    go_wp2_with fail
    refine (HA.out _).mono ?_; rintro y w5 ⟨rfl, hb⟩
    replace HB := Bs.hdw HB hb
    replace HR := Dx.bl HR (hb.below)
    clear hb
    go_wp2_with fail
    refine (rnum_any s (by omega) q1 q2 hq2 _).mono ?_; rintro y w3 ⟨rfl, rfl⟩
    have z0 := Dx.z HR 0
    have z1 := Dx.z HR 1
    have z2 := Dx.z HR 2
    have zc0 := Dx.c0 HR
    have zc1 := Dx.c1 HR
    have zc2 := Dx.c2 HR
    go_wp2
    exact bodyPost_ret (dy_res Tryd.results9 HR rfl rfl _ _ _) rfl ⟨rfl, Bs.set3 HB _ (Nat.le_refl _) _ _ _⟩
  · have f2 : (q2 != 0) = true := by simp [e2]
    rw [if_neg e2] at hr2
    simp only [Prod.mk.injEq] at hr2
    obtain ⟨⟨rfl, rfl, rfl⟩, rfl⟩ := hr2
    clear e2
    go_enter Tryd.func9, Tryd.ntmps9
    go_wp2_with fail
    refine (rsign_any s (by omega) _ _ HG _).mono ?_; rintro y w1 ⟨rfl, hb⟩
    replace HB := Bs.hdw HB hb
    replace HR := Dx.bl HR (hb.below)
    clear hb
    go_wp2_with fail
    refine (HA.out _).mono ?_; rintro y w5 ⟨rfl, hb⟩
    replace HB := Bs.hdw HB hb
    replace HR := Dx.bl HR (hb.below)
    clear hb
    go_wp2_with fail
    refine (rnum_any s (by omega) q1 q2 hq2 _).mono ?_; rintro y w3 ⟨rfl, rfl⟩
    have z0 := Dx.z HR 0
    have z1 := Dx.z HR 1
    have z2 := Dx.z HR 2
    have zc0 := Dx.c0 HR
    have zc1 := Dx.c1 HR
    have zc2 := Dx.c2 HR
    go_wp2
    exact bodyPost_ret (dy_res Tryd.results9 HR rfl rfl _ _ _) rfl ⟨rfl, Bs.set3 HB _ (Nat.le_refl _) _ _ _⟩
theorem rParse_any (s : ByteArray) (hs : s.size ≤ 100000) (a b c e : Int) (hr : Hid (Dy.parse s.data.toList = ((a, b, c), e))) (w : World) :
    Calls Tryd.prog 9 #[.string s] w fun x w' => x = .returned (.tuple #[.agg #[.int .i64 a, .int .i64 b, .int .i64 c], .int .i64 e]) ∧ Below w.heap.size w w' := by
  have h := hr.out
  unfold Dy.parse at h
  rw [splB_eq] at h
  dsimp only at h
  obtain ⟨p1, p2, hp⟩ := wk_pair (splB s).1 (splB s).2.1.data.toList
  obtain ⟨q1, q2, hq⟩ := nm_pair (splB s).1 (splB s).2.2.data.toList
  rw [hp, hq] at h
  unfold splB at h hp hq
  cases ho : Dy.opr s.data.toList with
  | some x =>
    obtain ⟨k, kd⟩ := x
    rw [ho] at h hp hq
    dsimp only at h hp hq
    obtain ⟨_, _, _, _, _, _, hk⟩ := opr_some _ _ _ ho
    unfold Dy.wk at hp
    unfold Dy.nm at hq
    rw [if_neg (by omega)] at hp hq
    exact rparse_op s hs k kd ho p1 p2 q1 q2 (Lib.hid hp) (Lib.hid hq) a b c e h w
  | none =>
    rw [ho] at h hp hq
    cases hL : Dy.isL s.data.toList with
    | true =>
      rw [hL] at h hp hq
      simp only [if_true] at h hp hq
      have hq' : (0, 0) = (q1, q2) := hq
      obtain ⟨rfl, rfl⟩ := Prod.mk.inj hq'
      exact rparse_last s hs ho hL p1 p2 (Lib.hid hp) a b c e h w
    | false =>
      rw [hL] at h hp hq
      simp only [Bool.false_eq_true, if_false] at h hp hq
      have hp' : (0, 0) = (p1, p2) := hp
      obtain ⟨rfl, rfl⟩ := Prod.mk.inj hp'
      exact rparse_no s hs ho hL q1 q2 (Lib.hid hq) a b c e h w
end Go.Proofs.YtedcfnaphfgfjaaDoor
