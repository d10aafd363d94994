/- The walk of DayspecBack: it returns true. -/
import Derived.Test.YtedcfnaphfgfjaaDoorDym
import Derived.Test.YtedcfnaphfgfjaaDoorDyz
import Derived.Test.YtedcfnaphfgfjaaDoorDyw
import Derived.Test.YtedcfnaphfgfjaaDoorDyv
import Derived.Deep.RegionHeld3
import Derived.Laws.CopyOwn
import Derived.Deep.DeepCutAuto
import Derived.OpenShut
import Derived.Deep.CutBlock
namespace Go.Proofs.YtedcfnaphfgfjaaDoor
open Go.RowKit Go.Shelf
def Cs2 (w : World) (b : Nat) (l : List Value) (b2 : Nat) (l2 : List Value) : Prop := Cs w b l ∧ Cs w b2 l2
theorem Cs2.hbl {w w1 : World} {b b2 : Nat} {l l2 : List Value} (h : Hid (Cs2 w b l b2 l2)) (k : Below w.heap.size w w1) : Hid (Cs2 w1 b l b2 l2) := Lib.hid ⟨h.out.1.bl k, h.out.2.bl k⟩
theorem Cs2.hal {w : World} {b b2 : Nat} {l l2 : List Value} (h : Hid (Cs2 w b l b2 l2)) (A : Obj) : Hid (Cs2 (w.alloc A) b l b2 l2) := Lib.hid ⟨h.out.1.al A, h.out.2.al A⟩
theorem Cs2.hdr {w : World} {b b2 : Nat} {l l2 : List Value} (h : Hid (Cs2 w b l b2 l2)) : Hid (Cs2 w.drew b l b2 l2) := h
theorem Cs2.hrow {w : World} {b b2 g : Nat} {l l2 : List Value} (h : Hid (Cs2 w b l b2 l2)) (cs : Array Value) (hg : b < g ∧ b2 < g) : Hid (Cs2 (w.setRow g cs) b l b2 l2) :=
  Lib.hid ⟨fun i v e => (cell_setRow_other w g cs _ (Nat.ne_of_lt hg.1)).trans (h.out.1 i v e), fun i v e => (cell_setRow_other w g cs _ (Nat.ne_of_lt hg.2)).trans (h.out.2 i v e)⟩
theorem Cs2.lt {w : World} {b b2 : Nat} {l l2 : List Value} {x x2 : Value} (h : Hid (Cs2 w b (x :: l) b2 (x2 :: l2))) : b < w.heap.size ∧ b2 < w.heap.size := ⟨cell_lt (h.out.1.at 0 rfl), cell_lt (h.out.2.at 0 rfl)⟩
theorem Dx.newer {w : World} {b : Nat} {x y z : Int} (h : Hid (Dx w b x y z)) : w.heap.size ≠ b := Nat.ne_of_gt (Dx.lt h)
theorem Dx.older {w : World} {b : Nat} {x y z : Int} (h : Hid (Dx w b x y z)) : b ≠ w.heap.size := Nat.ne_of_lt (Dx.lt h)
theorem Dx.hrow {w : World} {b : Nat} {x y z : Int} (h : Hid (Dx w b x y z)) (a c e : Int) : Hid (Dx (w.setRow b #[.int .i64 a, .int .i64 c, .int .i64 e]) b a c e) := Lib.hid (setRow_heap w b _ _ _ _ h.out)
theorem Dx.hrowO {w : World} {b g : Nat} {x y z : Int} (h : Hid (Dx w b x y z)) (cs : Array Value) (hg : b ≠ g) : Hid (Dx (w.setRow g cs) b x y z) := Lib.hid ((setRow_other w g b cs hg).trans h.out)
theorem Bs.hrow {w0 w : World} {g : Nat} (h : Hid (Bs w0 w)) (hg : w0.heap.size ≤ g) (cs : Array Value) : Hid (Bs w0 (w.setRow g cs)) := Lib.hid (below_setRow h.out hg cs)
/-- the string of a form by numbers, read again -/
theorem made_str (K W D k wk d : Int) (h1 : Dfm.mK K = k) (h2 : Dfm.mW K W = wk) (h3 : Dfm.mD K D = d) : ∃ S, prnt k wk d = (S, 0) ∧ Dy.parse S.data.toList = ((k, wk, d), 0) ∧ S.size ≤ 1000 ∧ Dfm.okD k wk d = true ∧ ∃ K' W' D' : Nat, K' < 4 ∧ W' < 7 ∧ D' < 31 ∧ S.data.toList = mstr K' W' D' ∧ Dfm.mK K' = k ∧ Dfm.mW K' W' = wk ∧ Dfm.mD K' D' = d := by
  have hk : Dfm.mK ((K % 4).toNat : Nat) = k := by rw [← h1]; unfold Dfm.mK; omega
  have hw : Dfm.mW ((K % 4).toNat : Nat) ((W % 7).toNat : Nat) = wk := by
    rw [← h2]; unfold Dfm.mW
    have e1 : (((K % 4).toNat : Nat) : Int) % 4 = K % 4 := by omega
    have e2 : (((W % 7).toNat : Nat) : Int) % 7 = W % 7 := by omega
    rw [e1, e2]
  have hd : Dfm.mD ((K % 4).toNat : Nat) ((D % 31).toNat : Nat) = d := by
    rw [← h3]; unfold Dfm.mD
    have e1 : (((K % 4).toNat : Nat) : Int) % 4 = K % 4 := by omega
    have e2 : (((D % 31).toNat : Nat) : Int) % 31 = D % 31 := by omega
    rw [e1, e2]
  have ho : Dfm.okD k wk d = true := by rw [← h1, ← h2, ← h3]; exact Dfm.made_ok K W D
  have hb := made_back (K % 4).toNat (W % 7).toNat (D % 31).toNat (by omega) (by omega) (by omega)
  have hm : mstr (K % 4).toNat (W % 7).toNat (D % 31).toNat = (prnt k wk d).1.data.toList := by unfold mstr; rw [hk, hw, hd]
  rw [hm, hk, hw, hd] at hb
  have h0 : (prnt k wk d).2 = 0 := by unfold prnt; rw [if_pos ho]
  refine ⟨(prnt k wk d).1, by rw [← h0], hb, ?_, ho, (K % 4).toNat, (W % 7).toNat, (D % 31).toNat, by omega, by omega, by omega, hm.symm, hk, hw, hd⟩
  obtain ⟨b1, b2, b3, b4, b5, b6⟩ := Dfm.ok_bd _ _ _ ho
  have hT := txt_size wk.toNat (by omega)
  rw [Int.toNat_of_nonneg b3] at hT
  have hD := decB_size d
  unfold prnt
  rw [if_pos ho]
  show (if k = 1 then _ else _ : ByteArray).size ≤ 1000
  split
  · omega
  · split
    · rw [two_app]; show 4 + _ ≤ _; omega
    · split
      · rw [two_app, two_app]; show _ + 2 + _ ≤ _; omega
      · rw [two_app, two_app]; show _ + 2 + _ ≤ _; omega
set_option linter.unusedSimpArgs false in
set_option maxRecDepth 100000 in
set_option maxHeartbeats 8000000 in
theorem back_core (K W D K2 W2 D2 k wk d k2 wk2 d2 : Int) (hK : 0 ≤ K ∧ K ≤ 255) (hW : 0 ≤ W ∧ W ≤ 255) (hD : 0 ≤ D ∧ D ≤ 255) (hK2 : 0 ≤ K2 ∧ K2 ≤ 255) (hW2 : 0 ≤ W2 ∧ W2 ≤ 255) (hD2 : 0 ≤ D2 ∧ D2 ≤ 255) (h1 : Dfm.mK K = k) (h2 : Dfm.mW K W = wk) (h3 : Dfm.mD K D = d) (h4 : Dfm.mK K2 = k2) (h5 : Dfm.mW K2 W2 = wk2) (h6 : Dfm.mD K2 D2 = d2) (W0 : World) (hT : TabY0 W0 ∧ MaxY W0) :
    Calls Tryd.prog 4 #[.agg #[.int .u8 K, .int .u8 W, .int .u8 D], .agg #[.int .u8 K2, .int .u8 W2, .int .u8 D2]] W0 fun e w' => e = .returned (.bool true) ∧ Below W0.heap.size W0 w' := by
  have HC0 := Lib.hid (Ys.mk0 (TabY.of hT))
  have HC := Lib.hid (Bs.mk0 W0)
  obtain ⟨S, s1, s2, s3, s4, _⟩ := made_str K W D k wk d h1 h2 h3
  obtain ⟨T, t1, t2, t3, t4, _⟩ := made_str K2 W2 D2 k2 wk2 d2 h4 h5 h6
  have HS := Lib.hid s1
  have HT := Lib.hid t1
  have PS := Lib.hid s2
  have PT := Lib.hid t2
  have ZS := Lib.hid s3
  have OS := Lib.hid s4
  have H := Lib.hid (And.intro h1 (And.intro h2 h3))
  have H2 := Lib.hid (And.intro h4 (And.intro h5 h6))
  have BD := Lib.hid (And.intro hK (And.intro hW hD))
  have BD2 := Lib.hid (And.intro hK2 (And.intro hW2 hD2))
  clear hT h1 h2 h3 h4 h5 h6 hK hW hD hK2 hW2 hD2 s1 s2 s3 s4 t1 t2 t3 t4
  go_enter Tryd.func4, Tryd.ntmps4
  go_upto_region 1 with fail
  have hs : Hid (Cs2 ((W0.alloc (.cells #[.int .u8 K, .int .u8 W, .int .u8 D] 31)).alloc (.cells #[.int .u8 K2, .int .u8 W2, .int .u8 D2] 31)) W0.heap.size [.int .u8 K, .int .u8 W, .int .u8 D] (W0.heap.size + 1) [.int .u8 K2, .int .u8 W2, .int .u8 D2]) := Lib.hid ⟨(Cs.new W0 _ _).al _, by
    have := Cs.new (W0.alloc (.cells #[.int .u8 K, .int .u8 W, .int .u8 D] 31)) [.int .u8 K2, .int .u8 W2, .int .u8 D2] 31
    simpa using this⟩
  replace HC := Bs.hal (Bs.hal HC (.cells #[.int .u8 K, .int .u8 W, .int .u8 D] 31)) (.cells #[.int .u8 K2, .int .u8 W2, .int .u8 D2] 31)
  generalize (W0.alloc (.cells #[.int .u8 K, .int .u8 W, .int .u8 D] 31)).alloc (.cells #[.int .u8 K2, .int .u8 W2, .int .u8 D2] 31) = w1 at *
  generalize hbs2 : W0.heap.size + 1 = bs2 at *
  generalize hbs : W0.heap.size = bs at *
  go_cut [5, 6] (fun s8 s9 wx => ∃ g8 g9 : Nat, s8 = .pointer (some ⟨g8, 0, none⟩) ∧ s9 = .pointer (some ⟨g9, 0, none⟩) ∧ W0.heap.size ≤ g8 ∧ W0.heap.size ≤ g9 ∧ g8 ≠ g9 ∧ Hid (Bs W0 wx) ∧ Hid (Dx wx g8 k wk d) ∧ Hid (Dx wx g9 k2 wk2 d2))
  case first =>
    refine wp_region_held_drew (S := fun w' => Cs2 w' bs [.int .u8 K, .int .u8 W, .int .u8 D] bs2 [.int .u8 K2, .int .u8 W2, .int .u8 D2]) (by kernel_rfl) (Cs2.hdr hs).out (fun hHeld => ?_)
    replace HC := Bs.hdr HC
    replace hs := Cs2.hdr hs
    generalize w1.drew = w2 at *
    refine wpAnyH_take (i := 0) (v := ?_) rfl (by kernel_rfl) (by kernel_rfl) (by kernel_rfl) (fun _ _ _ h => h) (Or.inl ⟨by rfl, ?_⟩) (by assumption) ?_
    rotate_left
    · (intro w hSw; (try dsimp only at hSw); have q0 := Cs.at hSw.1 0 rfl; have q1 := Cs.at hSw.1 1 rfl; have q2 := Cs.at hSw.1 2 rfl; have r0 := Cs.at hSw.2 0 rfl; have r1 := Cs.at hSw.2 1 rfl; have r2 := Cs.at hSw.2 2 rfl; clear hSw; go_simp; try (with_reducible rfl))
    try simp only [Act.put, List.getElem_toArray, List.getElem_cons_succ, List.getElem_cons_zero, List.setIfInBounds_toArray, List.set_cons_zero, List.set_cons_succ]
    refine wpAnyH_take (i := 1) (v := ?_) rfl (by kernel_rfl) (by kernel_rfl) (by kernel_rfl) (fun _ _ _ h => h) (Or.inl ⟨by rfl, ?_⟩) (by assumption) ?_
    rotate_left
    · (intro w hSw; (try dsimp only at hSw); have q0 := Cs.at hSw.1 0 rfl; have q1 := Cs.at hSw.1 1 rfl; have q2 := Cs.at hSw.1 2 rfl; have r0 := Cs.at hSw.2 0 rfl; have r1 := Cs.at hSw.2 1 rfl; have r2 := Cs.at hSw.2 2 rfl; clear hSw; go_simp; try (with_reducible rfl))
    try simp only [Act.put, List.getElem_toArray, List.getElem_cons_succ, List.getElem_cons_zero, List.setIfInBounds_toArray, List.set_cons_zero, List.set_cons_succ]
    refine wpAnyH_take (i := 2) (v := ?_) rfl (by kernel_rfl) (by kernel_rfl) (by kernel_rfl) (fun _ _ _ h => h) (Or.inl ⟨by rfl, ?_⟩) (by assumption) ?_
    rotate_left
    · (intro w hSw; (try dsimp only at hSw); have q0 := Cs.at hSw.1 0 rfl; have q1 := Cs.at hSw.1 1 rfl; have q2 := Cs.at hSw.1 2 rfl; have r0 := Cs.at hSw.2 0 rfl; have r1 := Cs.at hSw.2 1 rfl; have r2 := Cs.at hSw.2 2 rfl; clear hSw; go_simp; try (with_reducible rfl))
    try simp only [Act.put, List.getElem_toArray, List.getElem_cons_succ, List.getElem_cons_zero, List.setIfInBounds_toArray, List.set_cons_zero, List.set_cons_succ]
    refine wpAnyH_take (i := 3) (v := ?_) rfl (by kernel_rfl) (by kernel_rfl) (by kernel_rfl) (fun _ _ _ h => h) (Or.inl ⟨by rfl, ?_⟩) (by assumption) ?_
    rotate_left
    · (intro w hSw; (try dsimp only at hSw); have q0 := Cs.at hSw.1 0 rfl; have q1 := Cs.at hSw.1 1 rfl; have q2 := Cs.at hSw.1 2 rfl; have r0 := Cs.at hSw.2 0 rfl; have r1 := Cs.at hSw.2 1 rfl; have r2 := Cs.at hSw.2 2 rfl; clear hSw; go_simp; try (with_reducible rfl))
    try simp only [Act.put, List.getElem_toArray, List.getElem_cons_succ, List.getElem_cons_zero, List.setIfInBounds_toArray, List.set_cons_zero, List.set_cons_succ]
    refine wpAnyH_take (i := 4) (v := ?_) rfl (by kernel_rfl) (by kernel_rfl) (by kernel_rfl) (fun _ _ _ h => h) (Or.inl ⟨by rfl, ?_⟩) (by assumption) ?_
    rotate_left
    · (intro w hSw; (try dsimp only at hSw); have q0 := Cs.at hSw.1 0 rfl; have q1 := Cs.at hSw.1 1 rfl; have q2 := Cs.at hSw.1 2 rfl; have r0 := Cs.at hSw.2 0 rfl; have r1 := Cs.at hSw.2 1 rfl; have r2 := Cs.at hSw.2 2 rfl; clear hSw; go_simp; try (with_reducible rfl))
    try simp only [Act.put, List.getElem_toArray, List.getElem_cons_succ, List.getElem_cons_zero, List.setIfInBounds_toArray, List.set_cons_zero, List.set_cons_succ]
    refine wpAnyH_take (i := 5) (v := ?_) rfl (by kernel_rfl) (by kernel_rfl) (by kernel_rfl) (fun _ _ _ h => h) (Or.inl ⟨by rfl, ?_⟩) (by assumption) ?_
    rotate_left
    · (intro w hSw; (try dsimp only at hSw); have q0 := Cs.at hSw.1 0 rfl; have q1 := Cs.at hSw.1 1 rfl; have q2 := Cs.at hSw.1 2 rfl; have r0 := Cs.at hSw.2 0 rfl; have r1 := Cs.at hSw.2 1 rfl; have r2 := Cs.at hSw.2 2 rfl; clear hSw; go_simp; try (with_reducible rfl))
    try simp only [Act.put, List.getElem_toArray, List.getElem_cons_succ, List.getElem_cons_zero, List.setIfInBounds_toArray, List.set_cons_zero, List.set_cons_succ]
    refine wpAnyH_take (i := 7) (v := ?_) rfl (by kernel_rfl) (by kernel_rfl) (by kernel_rfl) (fun _ _ _ h => h) (Or.inl ⟨by rfl, ?_⟩) (by assumption) ?_
    rotate_left
    · (intro w hSw; (try dsimp only at hSw); have q0 := Cs.at hSw.1 0 rfl; have q1 := Cs.at hSw.1 1 rfl; have q2 := Cs.at hSw.1 2 rfl; have r0 := Cs.at hSw.2 0 rfl; have r1 := Cs.at hSw.2 1 rfl; have r2 := Cs.at hSw.2 2 rfl; clear hSw; go_simp; try (with_reducible rfl))
    try simp only [Act.put, List.getElem_toArray, List.getElem_cons_succ, List.getElem_cons_zero, List.setIfInBounds_toArray, List.set_cons_zero, List.set_cons_succ]
    refine wpAnyH_take (i := 8) (v := ?_) rfl (by kernel_rfl) (by kernel_rfl) (by kernel_rfl) (fun _ _ _ h => h) (Or.inl ⟨by rfl, ?_⟩) (by assumption) ?_
    rotate_left
    · (intro w hSw; (try dsimp only at hSw); have q0 := Cs.at hSw.1 0 rfl; have q1 := Cs.at hSw.1 1 rfl; have q2 := Cs.at hSw.1 2 rfl; have r0 := Cs.at hSw.2 0 rfl; have r1 := Cs.at hSw.2 1 rfl; have r2 := Cs.at hSw.2 2 rfl; clear hSw; go_simp; try (with_reducible rfl))
    try simp only [Act.put, List.getElem_toArray, List.getElem_cons_succ, List.getElem_cons_zero, List.setIfInBounds_toArray, List.set_cons_zero, List.set_cons_succ]
    refine wpAnyH_take (i := 9) (v := ?_) rfl (by kernel_rfl) (by kernel_rfl) (by kernel_rfl) (fun _ _ _ h => h) (Or.inl ⟨by rfl, ?_⟩) (by assumption) ?_
    rotate_left
    · (intro w hSw; (try dsimp only at hSw); have q0 := Cs.at hSw.1 0 rfl; have q1 := Cs.at hSw.1 1 rfl; have q2 := Cs.at hSw.1 2 rfl; have r0 := Cs.at hSw.2 0 rfl; have r1 := Cs.at hSw.2 1 rfl; have r2 := Cs.at hSw.2 2 rfl; clear hSw; go_simp; try (with_reducible rfl))
    try simp only [Act.put, List.getElem_toArray, List.getElem_cons_succ, List.getElem_cons_zero, List.setIfInBounds_toArray, List.set_cons_zero, List.set_cons_succ]
    refine wpAnyH_take (i := 10) (v := ?_) rfl (by kernel_rfl) (by kernel_rfl) (by kernel_rfl) (fun _ _ _ h => h) (Or.inl ⟨by rfl, ?_⟩) (by assumption) ?_
    rotate_left
    · (intro w hSw; (try dsimp only at hSw); have q0 := Cs.at hSw.1 0 rfl; have q1 := Cs.at hSw.1 1 rfl; have q2 := Cs.at hSw.1 2 rfl; have r0 := Cs.at hSw.2 0 rfl; have r1 := Cs.at hSw.2 1 rfl; have r2 := Cs.at hSw.2 2 rfl; clear hSw; go_simp; try (with_reducible rfl))
    try simp only [Act.put, List.getElem_toArray, List.getElem_cons_succ, List.getElem_cons_zero, List.setIfInBounds_toArray, List.set_cons_zero, List.set_cons_succ]
    refine wpAnyH_take (i := 11) (v := ?_) rfl (by kernel_rfl) (by kernel_rfl) (by kernel_rfl) (fun _ _ _ h => h) (Or.inl ⟨by rfl, ?_⟩) (by assumption) ?_
    rotate_left
    · (intro w hSw; (try dsimp only at hSw); have q0 := Cs.at hSw.1 0 rfl; have q1 := Cs.at hSw.1 1 rfl; have q2 := Cs.at hSw.1 2 rfl; have r0 := Cs.at hSw.2 0 rfl; have r1 := Cs.at hSw.2 1 rfl; have r2 := Cs.at hSw.2 2 rfl; clear hSw; go_simp; try (with_reducible rfl))
    try simp only [Act.put, List.getElem_toArray, List.getElem_cons_succ, List.getElem_cons_zero, List.setIfInBounds_toArray, List.set_cons_zero, List.set_cons_succ]
    refine wpAnyH_take (i := 12) (v := ?_) rfl (by kernel_rfl) (by kernel_rfl) (by kernel_rfl) (fun _ _ _ h => h) (Or.inl ⟨by rfl, ?_⟩) (by assumption) ?_
    rotate_left
    · (intro w hSw; (try dsimp only at hSw); have q0 := Cs.at hSw.1 0 rfl; have q1 := Cs.at hSw.1 1 rfl; have q2 := Cs.at hSw.1 2 rfl; have r0 := Cs.at hSw.2 0 rfl; have r1 := Cs.at hSw.2 1 rfl; have r2 := Cs.at hSw.2 2 rfl; clear hSw; go_simp; try (with_reducible rfl))
    try simp only [Act.put, List.getElem_toArray, List.getElem_cons_succ, List.getElem_cons_zero, List.setIfInBounds_toArray, List.set_cons_zero, List.set_cons_succ]
    clear hHeld
    refine wpAnyH_ready (rs := [6, 14, 15]) (by kernel_rfl) (by simp) ?_
    refine AllReadyH.cons rfl (fun K hK => ?_) ?_
    · go_simp
      refine (ymade_at _ _ _ _ _ _ BD.out.1 BD.out.2.1 BD.out.2.2 H.out.1 H.out.2.1 H.out.2.2 _).mono ?_; rintro e w11 ⟨rfl, hb⟩
      replace HC := Bs.hbl HC hb; replace hs := Cs2.hbl hs hb; clear hb
      refine hK.out _ _ hs.out (fun _ => ?_)
      clear hK K
      try simp only [Act.put, List.getElem_toArray, List.getElem_cons_succ, List.getElem_cons_zero, List.setIfInBounds_toArray, List.set_cons_zero, List.set_cons_succ]
      refine wpAnyH_ready (rs := [13, 14, 15]) (by kernel_rfl) (by simp) ?_
      refine AllReadyH.cons rfl (fun K hK => ?_) ?_
      · go_simp
        refine (ymade_at _ _ _ _ _ _ BD2.out.1 BD2.out.2.1 BD2.out.2.2 H2.out.1 H2.out.2.1 H2.out.2.2 _).mono ?_; rintro e w12 ⟨rfl, hb⟩
        replace HC := Bs.hbl HC hb; replace hs := Cs2.hbl hs hb; clear hb
        refine hK.out _ _ hs.out (fun _ => ?_)
        clear hK K
        try simp only [Act.put, List.getElem_toArray, List.getElem_cons_succ, List.getElem_cons_zero, List.setIfInBounds_toArray, List.set_cons_zero, List.set_cons_succ]
        refine wpAnyH_ready (rs := [14, 15]) (by kernel_rfl) (by simp) ?_
        refine AllReadyH.cons rfl (fun K hK => ?_) ?_
        · go_simp
          have le8 := HC.out.size
          have nb8 := Cs2.lt hs
          have h8 := Dx.new w12 0 0 0; replace HC := Bs.hal HC (.cells #[.int .i64 0, .int .i64 0, .int .i64 0] 23); replace hs := Cs2.hal hs (.cells #[.int .i64 0, .int .i64 0, .int .i64 0] 23)
          generalize w12.alloc (.cells #[.int .i64 0, .int .i64 0, .int .i64 0] 23) = w13 at *
          generalize w12.heap.size = g8 at *
          refine hK.out _ _ hs.out (fun _ => ?_)
          clear hK K
          try simp only [Act.put, List.getElem_toArray, List.getElem_cons_succ, List.getElem_cons_zero, List.setIfInBounds_toArray, List.set_cons_zero, List.set_cons_succ]
          refine wpAnyH_ready (rs := [15]) (by kernel_rfl) (by simp) ?_
          refine AllReadyH.cons rfl (fun K hK => ?_) ?_
          · go_simp
            have le9 := HC.out.size
            have nb9 := Cs2.lt hs
            have ne89 := Dx.older h8
            have h9 := Dx.new w13 0 0 0; replace HC := Bs.hal HC (.cells #[.int .i64 0, .int .i64 0, .int .i64 0] 23); replace hs := Cs2.hal hs (.cells #[.int .i64 0, .int .i64 0, .int .i64 0] 23); replace h8 := Dx.al h8 (.cells #[.int .i64 0, .int .i64 0, .int .i64 0] 23)
            generalize w13.alloc (.cells #[.int .i64 0, .int .i64 0, .int .i64 0] 23) = w14 at *
            generalize w13.heap.size = g9 at *
            refine hK.out _ _ hs.out (fun _ => ?_)
            clear hK K
            try simp only [Act.put, List.getElem_toArray, List.getElem_cons_succ, List.getElem_cons_zero, List.setIfInBounds_toArray, List.set_cons_zero, List.set_cons_succ]
            refine wpAnyH_ready (rs := [16]) (by kernel_rfl) (by simp) ?_
            refine AllReadyH.cons rfl (fun K hK => ?_) ?_
            · rw [if_pos (by rfl)]
              refine wp_store_row 23 _ _ rfl g8 #[.int .i64 k, .int .i64 wk, .int .i64 d] rfl rfl _ _ h8.out dyInfo (by kernel_rfl) (by kernel_rfl) ?_
              replace h8 := Dx.hrow h8 k wk d; replace h9 := Dx.hrowO h9 #[.int .i64 k, .int .i64 wk, .int .i64 d] (Ne.symm ne89); replace HC := Bs.hrow HC le8 #[.int .i64 k, .int .i64 wk, .int .i64 d]; replace hs := Cs2.hrow hs #[.int .i64 k, .int .i64 wk, .int .i64 d] nb8
              generalize w14.setRow g8 #[.int .i64 k, .int .i64 wk, .int .i64 d] = w15 at *
              refine hK.out _ _ hs.out (fun _ => ?_)
              clear hK K
              try simp only [Act.put, List.getElem_toArray, List.getElem_cons_succ, List.getElem_cons_zero, List.setIfInBounds_toArray, List.set_cons_zero, List.set_cons_succ]
              refine wpAnyH_ready (rs := [17]) (by kernel_rfl) (by simp) ?_
              refine AllReadyH.cons rfl (fun K hK => ?_) ?_
              · rw [if_pos (by rfl)]
                refine wp_store_row 23 _ _ rfl g9 #[.int .i64 k2, .int .i64 wk2, .int .i64 d2] rfl rfl _ _ h9.out dyInfo (by kernel_rfl) (by kernel_rfl) ?_
                replace h9 := Dx.hrow h9 k2 wk2 d2; replace h8 := Dx.hrowO h8 #[.int .i64 k2, .int .i64 wk2, .int .i64 d2] ne89; replace HC := Bs.hrow HC le9 #[.int .i64 k2, .int .i64 wk2, .int .i64 d2]; replace hs := Cs2.hrow hs #[.int .i64 k2, .int .i64 wk2, .int .i64 d2] nb9
                generalize w15.setRow g9 #[.int .i64 k2, .int .i64 wk2, .int .i64 d2] = w16 at *
                refine hK.out _ _ hs.out (fun _ => ?_)
                clear hK K
                try simp only [Act.put, List.getElem_toArray, List.getElem_cons_succ, List.getElem_cons_zero, List.setIfInBounds_toArray, List.set_cons_zero, List.set_cons_succ]
                refine wpAnyH_done (by kernel_rfl) ?_ _
                go_wp2_with fail
                go_meet
                exact ⟨g8, g9, rfl, rfl, le8, le9, ne89, HC, h8, h9⟩
              exact AllReadyH.nil
            exact AllReadyH.nil
          exact AllReadyH.nil
        refine AllReadyH.cons rfl (fun K hK => ?_) ?_
        · go_simp
          have le9 := HC.out.size
          have nb9 := Cs2.lt hs
          have h9 := Dx.new w12 0 0 0; replace HC := Bs.hal HC (.cells #[.int .i64 0, .int .i64 0, .int .i64 0] 23); replace hs := Cs2.hal hs (.cells #[.int .i64 0, .int .i64 0, .int .i64 0] 23)
          generalize w12.alloc (.cells #[.int .i64 0, .int .i64 0, .int .i64 0] 23) = w17 at *
          generalize w12.heap.size = g9 at *
          refine hK.out _ _ hs.out (fun _ => ?_)
          clear hK K
          try simp only [Act.put, List.getElem_toArray, List.getElem_cons_succ, List.getElem_cons_zero, List.setIfInBounds_toArray, List.set_cons_zero, List.set_cons_succ]
          refine wpAnyH_ready (rs := [14]) (by kernel_rfl) (by simp) ?_
          refine AllReadyH.cons rfl (fun K hK => ?_) ?_
          · go_simp
            have le8 := HC.out.size
            have nb8 := Cs2.lt hs
            have ne89 := Dx.newer h9
            have h8 := Dx.new w17 0 0 0; replace HC := Bs.hal HC (.cells #[.int .i64 0, .int .i64 0, .int .i64 0] 23); replace hs := Cs2.hal hs (.cells #[.int .i64 0, .int .i64 0, .int .i64 0] 23); replace h9 := Dx.al h9 (.cells #[.int .i64 0, .int .i64 0, .int .i64 0] 23)
            generalize w17.alloc (.cells #[.int .i64 0, .int .i64 0, .int .i64 0] 23) = w18 at *
            generalize w17.heap.size = g8 at *
            refine hK.out _ _ hs.out (fun _ => ?_)
            clear hK K
            try simp only [Act.put, List.getElem_toArray, List.getElem_cons_succ, List.getElem_cons_zero, List.setIfInBounds_toArray, List.set_cons_zero, List.set_cons_succ]
            refine wpAnyH_ready (rs := [16]) (by kernel_rfl) (by simp) ?_
            refine AllReadyH.cons rfl (fun K hK => ?_) ?_
            · rw [if_pos (by rfl)]
              refine wp_store_row 23 _ _ rfl g8 #[.int .i64 k, .int .i64 wk, .int .i64 d] rfl rfl _ _ h8.out dyInfo (by kernel_rfl) (by kernel_rfl) ?_
              replace h8 := Dx.hrow h8 k wk d; replace h9 := Dx.hrowO h9 #[.int .i64 k, .int .i64 wk, .int .i64 d] (Ne.symm ne89); replace HC := Bs.hrow HC le8 #[.int .i64 k, .int .i64 wk, .int .i64 d]; replace hs := Cs2.hrow hs #[.int .i64 k, .int .i64 wk, .int .i64 d] nb8
              generalize w18.setRow g8 #[.int .i64 k, .int .i64 wk, .int .i64 d] = w19 at *
              refine hK.out _ _ hs.out (fun _ => ?_)
              clear hK K
              try simp only [Act.put, List.getElem_toArray, List.getElem_cons_succ, List.getElem_cons_zero, List.setIfInBounds_toArray, List.set_cons_zero, List.set_cons_succ]
              refine wpAnyH_ready (rs := [17]) (by kernel_rfl) (by simp) ?_
              refine AllReadyH.cons rfl (fun K hK => ?_) ?_
              · rw [if_pos (by rfl)]
                refine wp_store_row 23 _ _ rfl g9 #[.int .i64 k2, .int .i64 wk2, .int .i64 d2] rfl rfl _ _ h9.out dyInfo (by kernel_rfl) (by kernel_rfl) ?_
                replace h9 := Dx.hrow h9 k2 wk2 d2; replace h8 := Dx.hrowO h8 #[.int .i64 k2, .int .i64 wk2, .int .i64 d2] ne89; replace HC := Bs.hrow HC le9 #[.int .i64 k2, .int .i64 wk2, .int .i64 d2]; replace hs := Cs2.hrow hs #[.int .i64 k2, .int .i64 wk2, .int .i64 d2] nb9
                generalize w19.setRow g9 #[.int .i64 k2, .int .i64 wk2, .int .i64 d2] = w20 at *
                refine hK.out _ _ hs.out (fun _ => ?_)
                clear hK K
                try simp only [Act.put, List.getElem_toArray, List.getElem_cons_succ, List.getElem_cons_zero, List.setIfInBounds_toArray, List.set_cons_zero, List.set_cons_succ]
                refine wpAnyH_done (by kernel_rfl) ?_ _
                go_wp2_with fail
                go_meet
                exact ⟨g8, g9, rfl, rfl, le8, le9, ne89, HC, h8, h9⟩
              exact AllReadyH.nil
            exact AllReadyH.nil
          exact AllReadyH.nil
        exact AllReadyH.nil
      refine AllReadyH.cons rfl (fun K hK => ?_) ?_
      · go_simp
        have le8 := HC.out.size
        have nb8 := Cs2.lt hs
        have h8 := Dx.new w11 0 0 0; replace HC := Bs.hal HC (.cells #[.int .i64 0, .int .i64 0, .int .i64 0] 23); replace hs := Cs2.hal hs (.cells #[.int .i64 0, .int .i64 0, .int .i64 0] 23)
        generalize w11.alloc (.cells #[.int .i64 0, .int .i64 0, .int .i64 0] 23) = w21 at *
        generalize w11.heap.size = g8 at *
        refine hK.out _ _ hs.out (fun _ => ?_)
        clear hK K
        try simp only [Act.put, List.getElem_toArray, List.getElem_cons_succ, List.getElem_cons_zero, List.setIfInBounds_toArray, List.set_cons_zero, List.set_cons_succ]
        refine wpAnyH_ready (rs := [13, 15]) (by kernel_rfl) (by simp) ?_
        refine AllReadyH.cons rfl (fun K hK => ?_) ?_
        · go_simp
          refine (ymade_at _ _ _ _ _ _ BD2.out.1 BD2.out.2.1 BD2.out.2.2 H2.out.1 H2.out.2.1 H2.out.2.2 _).mono ?_; rintro e w22 ⟨rfl, hb⟩
          replace HC := Bs.hbl HC hb; replace hs := Cs2.hbl hs hb; replace h8 := Dx.bl h8 hb; clear hb
          refine hK.out _ _ hs.out (fun _ => ?_)
          clear hK K
          try simp only [Act.put, List.getElem_toArray, List.getElem_cons_succ, List.getElem_cons_zero, List.setIfInBounds_toArray, List.set_cons_zero, List.set_cons_succ]
          refine wpAnyH_ready (rs := [15]) (by kernel_rfl) (by simp) ?_
          refine AllReadyH.cons rfl (fun K hK => ?_) ?_
          · go_simp
            have le9 := HC.out.size
            have nb9 := Cs2.lt hs
            have ne89 := Dx.older h8
            have h9 := Dx.new w22 0 0 0; replace HC := Bs.hal HC (.cells #[.int .i64 0, .int .i64 0, .int .i64 0] 23); replace hs := Cs2.hal hs (.cells #[.int .i64 0, .int .i64 0, .int .i64 0] 23); replace h8 := Dx.al h8 (.cells #[.int .i64 0, .int .i64 0, .int .i64 0] 23)
            generalize w22.alloc (.cells #[.int .i64 0, .int .i64 0, .int .i64 0] 23) = w23 at *
            generalize w22.heap.size = g9 at *
            refine hK.out _ _ hs.out (fun _ => ?_)
            clear hK K
            try simp only [Act.put, List.getElem_toArray, List.getElem_cons_succ, List.getElem_cons_zero, List.setIfInBounds_toArray, List.set_cons_zero, List.set_cons_succ]
            refine wpAnyH_ready (rs := [16]) (by kernel_rfl) (by simp) ?_
            refine AllReadyH.cons rfl (fun K hK => ?_) ?_
            · rw [if_pos (by rfl)]
              refine wp_store_row 23 _ _ rfl g8 #[.int .i64 k, .int .i64 wk, .int .i64 d] rfl rfl _ _ h8.out dyInfo (by kernel_rfl) (by kernel_rfl) ?_
              replace h8 := Dx.hrow h8 k wk d; replace h9 := Dx.hrowO h9 #[.int .i64 k, .int .i64 wk, .int .i64 d] (Ne.symm ne89); replace HC := Bs.hrow HC le8 #[.int .i64 k, .int .i64 wk, .int .i64 d]; replace hs := Cs2.hrow hs #[.int .i64 k, .int .i64 wk, .int .i64 d] nb8
              generalize w23.setRow g8 #[.int .i64 k, .int .i64 wk, .int .i64 d] = w24 at *
              refine hK.out _ _ hs.out (fun _ => ?_)
              clear hK K
              try simp only [Act.put, List.getElem_toArray, List.getElem_cons_succ, List.getElem_cons_zero, List.setIfInBounds_toArray, List.set_cons_zero, List.set_cons_succ]
              refine wpAnyH_ready (rs := [17]) (by kernel_rfl) (by simp) ?_
              refine AllReadyH.cons rfl (fun K hK => ?_) ?_
              · rw [if_pos (by rfl)]
                refine wp_store_row 23 _ _ rfl g9 #[.int .i64 k2, .int .i64 wk2, .int .i64 d2] rfl rfl _ _ h9.out dyInfo (by kernel_rfl) (by kernel_rfl) ?_
                replace h9 := Dx.hrow h9 k2 wk2 d2; replace h8 := Dx.hrowO h8 #[.int .i64 k2, .int .i64 wk2, .int .i64 d2] ne89; replace HC := Bs.hrow HC le9 #[.int .i64 k2, .int .i64 wk2, .int .i64 d2]; replace hs := Cs2.hrow hs #[.int .i64 k2, .int .i64 wk2, .int .i64 d2] nb9
                generalize w24.setRow g9 #[.int .i64 k2, .int .i64 wk2, .int .i64 d2] = w25 at *
                refine hK.out _ _ hs.out (fun _ => ?_)
                clear hK K
                try simp only [Act.put, List.getElem_toArray, List.getElem_cons_succ, List.getElem_cons_zero, List.setIfInBounds_toArray, List.set_cons_zero, List.set_cons_succ]
                refine wpAnyH_done (by kernel_rfl) ?_ _
                go_wp2_with fail
                go_meet
                exact ⟨g8, g9, rfl, rfl, le8, le9, ne89, HC, h8, h9⟩
              exact AllReadyH.nil
            exact AllReadyH.nil
          exact AllReadyH.nil
        refine AllReadyH.cons rfl (fun K hK => ?_) ?_
        · go_simp
          have le9 := HC.out.size
          have nb9 := Cs2.lt hs
          have ne89 := Dx.older h8
          have h9 := Dx.new w21 0 0 0; replace HC := Bs.hal HC (.cells #[.int .i64 0, .int .i64 0, .int .i64 0] 23); replace hs := Cs2.hal hs (.cells #[.int .i64 0, .int .i64 0, .int .i64 0] 23); replace h8 := Dx.al h8 (.cells #[.int .i64 0, .int .i64 0, .int .i64 0] 23)
          generalize w21.alloc (.cells #[.int .i64 0, .int .i64 0, .int .i64 0] 23) = w26 at *
          generalize w21.heap.size = g9 at *
          refine hK.out _ _ hs.out (fun _ => ?_)
          clear hK K
          try simp only [Act.put, List.getElem_toArray, List.getElem_cons_succ, List.getElem_cons_zero, List.setIfInBounds_toArray, List.set_cons_zero, List.set_cons_succ]
          refine wpAnyH_ready (rs := [13]) (by kernel_rfl) (by simp) ?_
          refine AllReadyH.cons rfl (fun K hK => ?_) ?_
          · go_simp
            refine (ymade_at _ _ _ _ _ _ BD2.out.1 BD2.out.2.1 BD2.out.2.2 H2.out.1 H2.out.2.1 H2.out.2.2 _).mono ?_; rintro e w27 ⟨rfl, hb⟩
            replace HC := Bs.hbl HC hb; replace hs := Cs2.hbl hs hb; replace h8 := Dx.bl h8 hb; replace h9 := Dx.bl h9 hb; clear hb
            refine hK.out _ _ hs.out (fun _ => ?_)
            clear hK K
            try simp only [Act.put, List.getElem_toArray, List.getElem_cons_succ, List.getElem_cons_zero, List.setIfInBounds_toArray, List.set_cons_zero, List.set_cons_succ]
            refine wpAnyH_ready (rs := [16]) (by kernel_rfl) (by simp) ?_
            refine AllReadyH.cons rfl (fun K hK => ?_) ?_
            · rw [if_pos (by rfl)]
              refine wp_store_row 23 _ _ rfl g8 #[.int .i64 k, .int .i64 wk, .int .i64 d] rfl rfl _ _ h8.out dyInfo (by kernel_rfl) (by kernel_rfl) ?_
              replace h8 := Dx.hrow h8 k wk d; replace h9 := Dx.hrowO h9 #[.int .i64 k, .int .i64 wk, .int .i64 d] (Ne.symm ne89); replace HC := Bs.hrow HC le8 #[.int .i64 k, .int .i64 wk, .int .i64 d]; replace hs := Cs2.hrow hs #[.int .i64 k, .int .i64 wk, .int .i64 d] nb8
              generalize w27.setRow g8 #[.int .i64 k, .int .i64 wk, .int .i64 d] = w28 at *
              refine hK.out _ _ hs.out (fun _ => ?_)
              clear hK K
              try simp only [Act.put, List.getElem_toArray, List.getElem_cons_succ, List.getElem_cons_zero, List.setIfInBounds_toArray, List.set_cons_zero, List.set_cons_succ]
              refine wpAnyH_ready (rs := [17]) (by kernel_rfl) (by simp) ?_
              refine AllReadyH.cons rfl (fun K hK => ?_) ?_
              · rw [if_pos (by rfl)]
                refine wp_store_row 23 _ _ rfl g9 #[.int .i64 k2, .int .i64 wk2, .int .i64 d2] rfl rfl _ _ h9.out dyInfo (by kernel_rfl) (by kernel_rfl) ?_
                replace h9 := Dx.hrow h9 k2 wk2 d2; replace h8 := Dx.hrowO h8 #[.int .i64 k2, .int .i64 wk2, .int .i64 d2] ne89; replace HC := Bs.hrow HC le9 #[.int .i64 k2, .int .i64 wk2, .int .i64 d2]; replace hs := Cs2.hrow hs #[.int .i64 k2, .int .i64 wk2, .int .i64 d2] nb9
                generalize w28.setRow g9 #[.int .i64 k2, .int .i64 wk2, .int .i64 d2] = w29 at *
                refine hK.out _ _ hs.out (fun _ => ?_)
                clear hK K
                try simp only [Act.put, List.getElem_toArray, List.getElem_cons_succ, List.getElem_cons_zero, List.setIfInBounds_toArray, List.set_cons_zero, List.set_cons_succ]
                refine wpAnyH_done (by kernel_rfl) ?_ _
                go_wp2_with fail
                go_meet
                exact ⟨g8, g9, rfl, rfl, le8, le9, ne89, HC, h8, h9⟩
              exact AllReadyH.nil
            exact AllReadyH.nil
          exact AllReadyH.nil
        exact AllReadyH.nil
      refine AllReadyH.cons rfl (fun K hK => ?_) ?_
      · go_simp
        have le9 := HC.out.size
        have nb9 := Cs2.lt hs
        have h9 := Dx.new w11 0 0 0; replace HC := Bs.hal HC (.cells #[.int .i64 0, .int .i64 0, .int .i64 0] 23); replace hs := Cs2.hal hs (.cells #[.int .i64 0, .int .i64 0, .int .i64 0] 23)
        generalize w11.alloc (.cells #[.int .i64 0, .int .i64 0, .int .i64 0] 23) = w30 at *
        generalize w11.heap.size = g9 at *
        refine hK.out _ _ hs.out (fun _ => ?_)
        clear hK K
        try simp only [Act.put, List.getElem_toArray, List.getElem_cons_succ, List.getElem_cons_zero, List.setIfInBounds_toArray, List.set_cons_zero, List.set_cons_succ]
        refine wpAnyH_ready (rs := [13, 14]) (by kernel_rfl) (by simp) ?_
        refine AllReadyH.cons rfl (fun K hK => ?_) ?_
        · go_simp
          refine (ymade_at _ _ _ _ _ _ BD2.out.1 BD2.out.2.1 BD2.out.2.2 H2.out.1 H2.out.2.1 H2.out.2.2 _).mono ?_; rintro e w31 ⟨rfl, hb⟩
          replace HC := Bs.hbl HC hb; replace hs := Cs2.hbl hs hb; replace h9 := Dx.bl h9 hb; clear hb
          refine hK.out _ _ hs.out (fun _ => ?_)
          clear hK K
          try simp only [Act.put, List.getElem_toArray, List.getElem_cons_succ, List.getElem_cons_zero, List.setIfInBounds_toArray, List.set_cons_zero, List.set_cons_succ]
          refine wpAnyH_ready (rs := [14]) (by kernel_rfl) (by simp) ?_
          refine AllReadyH.cons rfl (fun K hK => ?_) ?_
          · go_simp
            have le8 := HC.out.size
            have nb8 := Cs2.lt hs
            have ne89 := Dx.newer h9
            have h8 := Dx.new w31 0 0 0; replace HC := Bs.hal HC (.cells #[.int .i64 0, .int .i64 0, .int .i64 0] 23); replace hs := Cs2.hal hs (.cells #[.int .i64 0, .int .i64 0, .int .i64 0] 23); replace h9 := Dx.al h9 (.cells #[.int .i64 0, .int .i64 0, .int .i64 0] 23)
            generalize w31.alloc (.cells #[.int .i64 0, .int .i64 0, .int .i64 0] 23) = w32 at *
            generalize w31.heap.size = g8 at *
            refine hK.out _ _ hs.out (fun _ => ?_)
            clear hK K
            try simp only [Act.put, List.getElem_toArray, List.getElem_cons_succ, List.getElem_cons_zero, List.setIfInBounds_toArray, List.set_cons_zero, List.set_cons_succ]
            refine wpAnyH_ready (rs := [16]) (by kernel_rfl) (by simp) ?_
            refine AllReadyH.cons rfl (fun K hK => ?_) ?_
            · rw [if_pos (by rfl)]
              refine wp_store_row 23 _ _ rfl g8 #[.int .i64 k, .int .i64 wk, .int .i64 d] rfl rfl _ _ h8.out dyInfo (by kernel_rfl) (by kernel_rfl) ?_
              replace h8 := Dx.hrow h8 k wk d; replace h9 := Dx.hrowO h9 #[.int .i64 k, .int .i64 wk, .int .i64 d] (Ne.symm ne89); replace HC := Bs.hrow HC le8 #[.int .i64 k, .int .i64 wk, .int .i64 d]; replace hs := Cs2.hrow hs #[.int .i64 k, .int .i64 wk, .int .i64 d] nb8
              generalize w32.setRow g8 #[.int .i64 k, .int .i64 wk, .int .i64 d] = w33 at *
              refine hK.out _ _ hs.out (fun _ => ?_)
              clear hK K
              try simp only [Act.put, List.getElem_toArray, List.getElem_cons_succ, List.getElem_cons_zero, List.setIfInBounds_toArray, List.set_cons_zero, List.set_cons_succ]
              refine wpAnyH_ready (rs := [17]) (by kernel_rfl) (by simp) ?_
              refine AllReadyH.cons rfl (fun K hK => ?_) ?_
              · rw [if_pos (by rfl)]
                refine wp_store_row 23 _ _ rfl g9 #[.int .i64 k2, .int .i64 wk2, .int .i64 d2] rfl rfl _ _ h9.out dyInfo (by kernel_rfl) (by kernel_rfl) ?_
                replace h9 := Dx.hrow h9 k2 wk2 d2; replace h8 := Dx.hrowO h8 #[.int .i64 k2, .int .i64 wk2, .int .i64 d2] ne89; replace HC := Bs.hrow HC le9 #[.int .i64 k2, .int .i64 wk2, .int .i64 d2]; replace hs := Cs2.hrow hs #[.int .i64 k2, .int .i64 wk2, .int .i64 d2] nb9
                generalize w33.setRow g9 #[.int .i64 k2, .int .i64 wk2, .int .i64 d2] = w34 at *
                refine hK.out _ _ hs.out (fun _ => ?_)
                clear hK K
                try simp only [Act.put, List.getElem_toArray, List.getElem_cons_succ, List.getElem_cons_zero, List.setIfInBounds_toArray, List.set_cons_zero, List.set_cons_succ]
                refine wpAnyH_done (by kernel_rfl) ?_ _
                go_wp2_with fail
                go_meet
                exact ⟨g8, g9, rfl, rfl, le8, le9, ne89, HC, h8, h9⟩
              exact AllReadyH.nil
            exact AllReadyH.nil
          exact AllReadyH.nil
        refine AllReadyH.cons rfl (fun K hK => ?_) ?_
        · go_simp
          have le8 := HC.out.size
          have nb8 := Cs2.lt hs
          have ne89 := Dx.newer h9
          have h8 := Dx.new w30 0 0 0; replace HC := Bs.hal HC (.cells #[.int .i64 0, .int .i64 0, .int .i64 0] 23); replace hs := Cs2.hal hs (.cells #[.int .i64 0, .int .i64 0, .int .i64 0] 23); replace h9 := Dx.al h9 (.cells #[.int .i64 0, .int .i64 0, .int .i64 0] 23)
          generalize w30.alloc (.cells #[.int .i64 0, .int .i64 0, .int .i64 0] 23) = w35 at *
          generalize w30.heap.size = g8 at *
          refine hK.out _ _ hs.out (fun _ => ?_)
          clear hK K
          try simp only [Act.put, List.getElem_toArray, List.getElem_cons_succ, List.getElem_cons_zero, List.setIfInBounds_toArray, List.set_cons_zero, List.set_cons_succ]
          refine wpAnyH_ready (rs := [13]) (by kernel_rfl) (by simp) ?_
          refine AllReadyH.cons rfl (fun K hK => ?_) ?_
          · go_simp
            refine (ymade_at _ _ _ _ _ _ BD2.out.1 BD2.out.2.1 BD2.out.2.2 H2.out.1 H2.out.2.1 H2.out.2.2 _).mono ?_; rintro e w36 ⟨rfl, hb⟩
            replace HC := Bs.hbl HC hb; replace hs := Cs2.hbl hs hb; replace h8 := Dx.bl h8 hb; replace h9 := Dx.bl h9 hb; clear hb
            refine hK.out _ _ hs.out (fun _ => ?_)
            clear hK K
            try simp only [Act.put, List.getElem_toArray, List.getElem_cons_succ, List.getElem_cons_zero, List.setIfInBounds_toArray, List.set_cons_zero, List.set_cons_succ]
            refine wpAnyH_ready (rs := [16]) (by kernel_rfl) (by simp) ?_
            refine AllReadyH.cons rfl (fun K hK => ?_) ?_
            · rw [if_pos (by rfl)]
              refine wp_store_row 23 _ _ rfl g8 #[.int .i64 k, .int .i64 wk, .int .i64 d] rfl rfl _ _ h8.out dyInfo (by kernel_rfl) (by kernel_rfl) ?_
              replace h8 := Dx.hrow h8 k wk d; replace h9 := Dx.hrowO h9 #[.int .i64 k, .int .i64 wk, .int .i64 d] (Ne.symm ne89); replace HC := Bs.hrow HC le8 #[.int .i64 k, .int .i64 wk, .int .i64 d]; replace hs := Cs2.hrow hs #[.int .i64 k, .int .i64 wk, .int .i64 d] nb8
              generalize w36.setRow g8 #[.int .i64 k, .int .i64 wk, .int .i64 d] = w37 at *
              refine hK.out _ _ hs.out (fun _ => ?_)
              clear hK K
              try simp only [Act.put, List.getElem_toArray, List.getElem_cons_succ, List.getElem_cons_zero, List.setIfInBounds_toArray, List.set_cons_zero, List.set_cons_succ]
              refine wpAnyH_ready (rs := [17]) (by kernel_rfl) (by simp) ?_
              refine AllReadyH.cons rfl (fun K hK => ?_) ?_
              · rw [if_pos (by rfl)]
                refine wp_store_row 23 _ _ rfl g9 #[.int .i64 k2, .int .i64 wk2, .int .i64 d2] rfl rfl _ _ h9.out dyInfo (by kernel_rfl) (by kernel_rfl) ?_
                replace h9 := Dx.hrow h9 k2 wk2 d2; replace h8 := Dx.hrowO h8 #[.int .i64 k2, .int .i64 wk2, .int .i64 d2] ne89; replace HC := Bs.hrow HC le9 #[.int .i64 k2, .int .i64 wk2, .int .i64 d2]; replace hs := Cs2.hrow hs #[.int .i64 k2, .int .i64 wk2, .int .i64 d2] nb9
                generalize w37.setRow g9 #[.int .i64 k2, .int .i64 wk2, .int .i64 d2] = w38 at *
                refine hK.out _ _ hs.out (fun _ => ?_)
                clear hK K
                try simp only [Act.put, List.getElem_toArray, List.getElem_cons_succ, List.getElem_cons_zero, List.setIfInBounds_toArray, List.set_cons_zero, List.set_cons_succ]
                refine wpAnyH_done (by kernel_rfl) ?_ _
                go_wp2_with fail
                go_meet
                exact ⟨g8, g9, rfl, rfl, le8, le9, ne89, HC, h8, h9⟩
              exact AllReadyH.nil
            exact AllReadyH.nil
          exact AllReadyH.nil
        exact AllReadyH.nil
      exact AllReadyH.nil
    refine AllReadyH.cons rfl (fun K hK => ?_) ?_
    · go_simp
      have le8 := HC.out.size
      have nb8 := Cs2.lt hs
      have h8 := Dx.new w2 0 0 0; replace HC := Bs.hal HC (.cells #[.int .i64 0, .int .i64 0, .int .i64 0] 23); replace hs := Cs2.hal hs (.cells #[.int .i64 0, .int .i64 0, .int .i64 0] 23)
      generalize w2.alloc (.cells #[.int .i64 0, .int .i64 0, .int .i64 0] 23) = w39 at *
      generalize w2.heap.size = g8 at *
      refine hK.out _ _ hs.out (fun _ => ?_)
      clear hK K
      try simp only [Act.put, List.getElem_toArray, List.getElem_cons_succ, List.getElem_cons_zero, List.setIfInBounds_toArray, List.set_cons_zero, List.set_cons_succ]
      refine wpAnyH_ready (rs := [6, 15]) (by kernel_rfl) (by simp) ?_
      refine AllReadyH.cons rfl (fun K hK => ?_) ?_
      · go_simp
        refine (ymade_at _ _ _ _ _ _ BD.out.1 BD.out.2.1 BD.out.2.2 H.out.1 H.out.2.1 H.out.2.2 _).mono ?_; rintro e w40 ⟨rfl, hb⟩
        replace HC := Bs.hbl HC hb; replace hs := Cs2.hbl hs hb; replace h8 := Dx.bl h8 hb; clear hb
        refine hK.out _ _ hs.out (fun _ => ?_)
        clear hK K
        try simp only [Act.put, List.getElem_toArray, List.getElem_cons_succ, List.getElem_cons_zero, List.setIfInBounds_toArray, List.set_cons_zero, List.set_cons_succ]
        refine wpAnyH_ready (rs := [13, 15]) (by kernel_rfl) (by simp) ?_
        refine AllReadyH.cons rfl (fun K hK => ?_) ?_
        · go_simp
          refine (ymade_at _ _ _ _ _ _ BD2.out.1 BD2.out.2.1 BD2.out.2.2 H2.out.1 H2.out.2.1 H2.out.2.2 _).mono ?_; rintro e w41 ⟨rfl, hb⟩
          replace HC := Bs.hbl HC hb; replace hs := Cs2.hbl hs hb; replace h8 := Dx.bl h8 hb; clear hb
          refine hK.out _ _ hs.out (fun _ => ?_)
          clear hK K
          try simp only [Act.put, List.getElem_toArray, List.getElem_cons_succ, List.getElem_cons_zero, List.setIfInBounds_toArray, List.set_cons_zero, List.set_cons_succ]
          refine wpAnyH_ready (rs := [15]) (by kernel_rfl) (by simp) ?_
          refine AllReadyH.cons rfl (fun K hK => ?_) ?_
          · go_simp
            have le9 := HC.out.size
            have nb9 := Cs2.lt hs
            have ne89 := Dx.older h8
            have h9 := Dx.new w41 0 0 0; replace HC := Bs.hal HC (.cells #[.int .i64 0, .int .i64 0, .int .i64 0] 23); replace hs := Cs2.hal hs (.cells #[.int .i64 0, .int .i64 0, .int .i64 0] 23); replace h8 := Dx.al h8 (.cells #[.int .i64 0, .int .i64 0, .int .i64 0] 23)
            generalize w41.alloc (.cells #[.int .i64 0, .int .i64 0, .int .i64 0] 23) = w42 at *
            generalize w41.heap.size = g9 at *
            refine hK.out _ _ hs.out (fun _ => ?_)
            clear hK K
            try simp only [Act.put, List.getElem_toArray, List.getElem_cons_succ, List.getElem_cons_zero, List.setIfInBounds_toArray, List.set_cons_zero, List.set_cons_succ]
            refine wpAnyH_ready (rs := [16]) (by kernel_rfl) (by simp) ?_
            refine AllReadyH.cons rfl (fun K hK => ?_) ?_
            · rw [if_pos (by rfl)]
              refine wp_store_row 23 _ _ rfl g8 #[.int .i64 k, .int .i64 wk, .int .i64 d] rfl rfl _ _ h8.out dyInfo (by kernel_rfl) (by kernel_rfl) ?_
              replace h8 := Dx.hrow h8 k wk d; replace h9 := Dx.hrowO h9 #[.int .i64 k, .int .i64 wk, .int .i64 d] (Ne.symm ne89); replace HC := Bs.hrow HC le8 #[.int .i64 k, .int .i64 wk, .int .i64 d]; replace hs := Cs2.hrow hs #[.int .i64 k, .int .i64 wk, .int .i64 d] nb8
              generalize w42.setRow g8 #[.int .i64 k, .int .i64 wk, .int .i64 d] = w43 at *
              refine hK.out _ _ hs.out (fun _ => ?_)
              clear hK K
              try simp only [Act.put, List.getElem_toArray, List.getElem_cons_succ, List.getElem_cons_zero, List.setIfInBounds_toArray, List.set_cons_zero, List.set_cons_succ]
              refine wpAnyH_ready (rs := [17]) (by kernel_rfl) (by simp) ?_
              refine AllReadyH.cons rfl (fun K hK => ?_) ?_
              · rw [if_pos (by rfl)]
                refine wp_store_row 23 _ _ rfl g9 #[.int .i64 k2, .int .i64 wk2, .int .i64 d2] rfl rfl _ _ h9.out dyInfo (by kernel_rfl) (by kernel_rfl) ?_
                replace h9 := Dx.hrow h9 k2 wk2 d2; replace h8 := Dx.hrowO h8 #[.int .i64 k2, .int .i64 wk2, .int .i64 d2] ne89; replace HC := Bs.hrow HC le9 #[.int .i64 k2, .int .i64 wk2, .int .i64 d2]; replace hs := Cs2.hrow hs #[.int .i64 k2, .int .i64 wk2, .int .i64 d2] nb9
                generalize w43.setRow g9 #[.int .i64 k2, .int .i64 wk2, .int .i64 d2] = w44 at *
                refine hK.out _ _ hs.out (fun _ => ?_)
                clear hK K
                try simp only [Act.put, List.getElem_toArray, List.getElem_cons_succ, List.getElem_cons_zero, List.setIfInBounds_toArray, List.set_cons_zero, List.set_cons_succ]
                refine wpAnyH_done (by kernel_rfl) ?_ _
                go_wp2_with fail
                go_meet
                exact ⟨g8, g9, rfl, rfl, le8, le9, ne89, HC, h8, h9⟩
              exact AllReadyH.nil
            exact AllReadyH.nil
          exact AllReadyH.nil
        refine AllReadyH.cons rfl (fun K hK => ?_) ?_
        · go_simp
          have le9 := HC.out.size
          have nb9 := Cs2.lt hs
          have ne89 := Dx.older h8
          have h9 := Dx.new w40 0 0 0; replace HC := Bs.hal HC (.cells #[.int .i64 0, .int .i64 0, .int .i64 0] 23); replace hs := Cs2.hal hs (.cells #[.int .i64 0, .int .i64 0, .int .i64 0] 23); replace h8 := Dx.al h8 (.cells #[.int .i64 0, .int .i64 0, .int .i64 0] 23)
          generalize w40.alloc (.cells #[.int .i64 0, .int .i64 0, .int .i64 0] 23) = w45 at *
          generalize w40.heap.size = g9 at *
          refine hK.out _ _ hs.out (fun _ => ?_)
          clear hK K
          try simp only [Act.put, List.getElem_toArray, List.getElem_cons_succ, List.getElem_cons_zero, List.setIfInBounds_toArray, List.set_cons_zero, List.set_cons_succ]
          refine wpAnyH_ready (rs := [13]) (by kernel_rfl) (by simp) ?_
          refine AllReadyH.cons rfl (fun K hK => ?_) ?_
          · go_simp
            refine (ymade_at _ _ _ _ _ _ BD2.out.1 BD2.out.2.1 BD2.out.2.2 H2.out.1 H2.out.2.1 H2.out.2.2 _).mono ?_; rintro e w46 ⟨rfl, hb⟩
            replace HC := Bs.hbl HC hb; replace hs := Cs2.hbl hs hb; replace h8 := Dx.bl h8 hb; replace h9 := Dx.bl h9 hb; clear hb
            refine hK.out _ _ hs.out (fun _ => ?_)
            clear hK K
            try simp only [Act.put, List.getElem_toArray, List.getElem_cons_succ, List.getElem_cons_zero, List.setIfInBounds_toArray, List.set_cons_zero, List.set_cons_succ]
            refine wpAnyH_ready (rs := [16]) (by kernel_rfl) (by simp) ?_
            refine AllReadyH.cons rfl (fun K hK => ?_) ?_
            · rw [if_pos (by rfl)]
              refine wp_store_row 23 _ _ rfl g8 #[.int .i64 k, .int .i64 wk, .int .i64 d] rfl rfl _ _ h8.out dyInfo (by kernel_rfl) (by kernel_rfl) ?_
              replace h8 := Dx.hrow h8 k wk d; replace h9 := Dx.hrowO h9 #[.int .i64 k, .int .i64 wk, .int .i64 d] (Ne.symm ne89); replace HC := Bs.hrow HC le8 #[.int .i64 k, .int .i64 wk, .int .i64 d]; replace hs := Cs2.hrow hs #[.int .i64 k, .int .i64 wk, .int .i64 d] nb8
              generalize w46.setRow g8 #[.int .i64 k, .int .i64 wk, .int .i64 d] = w47 at *
              refine hK.out _ _ hs.out (fun _ => ?_)
              clear hK K
              try simp only [Act.put, List.getElem_toArray, List.getElem_cons_succ, List.getElem_cons_zero, List.setIfInBounds_toArray, List.set_cons_zero, List.set_cons_succ]
              refine wpAnyH_ready (rs := [17]) (by kernel_rfl) (by simp) ?_
              refine AllReadyH.cons rfl (fun K hK => ?_) ?_
              · rw [if_pos (by rfl)]
                refine wp_store_row 23 _ _ rfl g9 #[.int .i64 k2, .int .i64 wk2, .int .i64 d2] rfl rfl _ _ h9.out dyInfo (by kernel_rfl) (by kernel_rfl) ?_
                replace h9 := Dx.hrow h9 k2 wk2 d2; replace h8 := Dx.hrowO h8 #[.int .i64 k2, .int .i64 wk2, .int .i64 d2] ne89; replace HC := Bs.hrow HC le9 #[.int .i64 k2, .int .i64 wk2, .int .i64 d2]; replace hs := Cs2.hrow hs #[.int .i64 k2, .int .i64 wk2, .int .i64 d2] nb9
                generalize w47.setRow g9 #[.int .i64 k2, .int .i64 wk2, .int .i64 d2] = w48 at *
                refine hK.out _ _ hs.out (fun _ => ?_)
                clear hK K
                try simp only [Act.put, List.getElem_toArray, List.getElem_cons_succ, List.getElem_cons_zero, List.setIfInBounds_toArray, List.set_cons_zero, List.set_cons_succ]
                refine wpAnyH_done (by kernel_rfl) ?_ _
                go_wp2_with fail
                go_meet
                exact ⟨g8, g9, rfl, rfl, le8, le9, ne89, HC, h8, h9⟩
              exact AllReadyH.nil
            exact AllReadyH.nil
          exact AllReadyH.nil
        exact AllReadyH.nil
      refine AllReadyH.cons rfl (fun K hK => ?_) ?_
      · go_simp
        have le9 := HC.out.size
        have nb9 := Cs2.lt hs
        have ne89 := Dx.older h8
        have h9 := Dx.new w39 0 0 0; replace HC := Bs.hal HC (.cells #[.int .i64 0, .int .i64 0, .int .i64 0] 23); replace hs := Cs2.hal hs (.cells #[.int .i64 0, .int .i64 0, .int .i64 0] 23); replace h8 := Dx.al h8 (.cells #[.int .i64 0, .int .i64 0, .int .i64 0] 23)
        generalize w39.alloc (.cells #[.int .i64 0, .int .i64 0, .int .i64 0] 23) = w49 at *
        generalize w39.heap.size = g9 at *
        refine hK.out _ _ hs.out (fun _ => ?_)
        clear hK K
        try simp only [Act.put, List.getElem_toArray, List.getElem_cons_succ, List.getElem_cons_zero, List.setIfInBounds_toArray, List.set_cons_zero, List.set_cons_succ]
        refine wpAnyH_ready (rs := [6]) (by kernel_rfl) (by simp) ?_
        refine AllReadyH.cons rfl (fun K hK => ?_) ?_
        · go_simp
          refine (ymade_at _ _ _ _ _ _ BD.out.1 BD.out.2.1 BD.out.2.2 H.out.1 H.out.2.1 H.out.2.2 _).mono ?_; rintro e w50 ⟨rfl, hb⟩
          replace HC := Bs.hbl HC hb; replace hs := Cs2.hbl hs hb; replace h8 := Dx.bl h8 hb; replace h9 := Dx.bl h9 hb; clear hb
          refine hK.out _ _ hs.out (fun _ => ?_)
          clear hK K
          try simp only [Act.put, List.getElem_toArray, List.getElem_cons_succ, List.getElem_cons_zero, List.setIfInBounds_toArray, List.set_cons_zero, List.set_cons_succ]
          refine wpAnyH_ready (rs := [13]) (by kernel_rfl) (by simp) ?_
          refine AllReadyH.cons rfl (fun K hK => ?_) ?_
          · go_simp
            refine (ymade_at _ _ _ _ _ _ BD2.out.1 BD2.out.2.1 BD2.out.2.2 H2.out.1 H2.out.2.1 H2.out.2.2 _).mono ?_; rintro e w51 ⟨rfl, hb⟩
            replace HC := Bs.hbl HC hb; replace hs := Cs2.hbl hs hb; replace h8 := Dx.bl h8 hb; replace h9 := Dx.bl h9 hb; clear hb
            refine hK.out _ _ hs.out (fun _ => ?_)
            clear hK K
            try simp only [Act.put, List.getElem_toArray, List.getElem_cons_succ, List.getElem_cons_zero, List.setIfInBounds_toArray, List.set_cons_zero, List.set_cons_succ]
            refine wpAnyH_ready (rs := [16]) (by kernel_rfl) (by simp) ?_
            refine AllReadyH.cons rfl (fun K hK => ?_) ?_
            · rw [if_pos (by rfl)]
              refine wp_store_row 23 _ _ rfl g8 #[.int .i64 k, .int .i64 wk, .int .i64 d] rfl rfl _ _ h8.out dyInfo (by kernel_rfl) (by kernel_rfl) ?_
              replace h8 := Dx.hrow h8 k wk d; replace h9 := Dx.hrowO h9 #[.int .i64 k, .int .i64 wk, .int .i64 d] (Ne.symm ne89); replace HC := Bs.hrow HC le8 #[.int .i64 k, .int .i64 wk, .int .i64 d]; replace hs := Cs2.hrow hs #[.int .i64 k, .int .i64 wk, .int .i64 d] nb8
              generalize w51.setRow g8 #[.int .i64 k, .int .i64 wk, .int .i64 d] = w52 at *
              refine hK.out _ _ hs.out (fun _ => ?_)
              clear hK K
              try simp only [Act.put, List.getElem_toArray, List.getElem_cons_succ, List.getElem_cons_zero, List.setIfInBounds_toArray, List.set_cons_zero, List.set_cons_succ]
              refine wpAnyH_ready (rs := [17]) (by kernel_rfl) (by simp) ?_
              refine AllReadyH.cons rfl (fun K hK => ?_) ?_
              · rw [if_pos (by rfl)]
                refine wp_store_row 23 _ _ rfl g9 #[.int .i64 k2, .int .i64 wk2, .int .i64 d2] rfl rfl _ _ h9.out dyInfo (by kernel_rfl) (by kernel_rfl) ?_
                replace h9 := Dx.hrow h9 k2 wk2 d2; replace h8 := Dx.hrowO h8 #[.int .i64 k2, .int .i64 wk2, .int .i64 d2] ne89; replace HC := Bs.hrow HC le9 #[.int .i64 k2, .int .i64 wk2, .int .i64 d2]; replace hs := Cs2.hrow hs #[.int .i64 k2, .int .i64 wk2, .int .i64 d2] nb9
                generalize w52.setRow g9 #[.int .i64 k2, .int .i64 wk2, .int .i64 d2] = w53 at *
                refine hK.out _ _ hs.out (fun _ => ?_)
                clear hK K
                try simp only [Act.put, List.getElem_toArray, List.getElem_cons_succ, List.getElem_cons_zero, List.setIfInBounds_toArray, List.set_cons_zero, List.set_cons_succ]
                refine wpAnyH_done (by kernel_rfl) ?_ _
                go_wp2_with fail
                go_meet
                exact ⟨g8, g9, rfl, rfl, le8, le9, ne89, HC, h8, h9⟩
              exact AllReadyH.nil
            exact AllReadyH.nil
          exact AllReadyH.nil
        exact AllReadyH.nil
      exact AllReadyH.nil
    refine AllReadyH.cons rfl (fun K hK => ?_) ?_
    · go_simp
      have le9 := HC.out.size
      have nb9 := Cs2.lt hs
      have h9 := Dx.new w2 0 0 0; replace HC := Bs.hal HC (.cells #[.int .i64 0, .int .i64 0, .int .i64 0] 23); replace hs := Cs2.hal hs (.cells #[.int .i64 0, .int .i64 0, .int .i64 0] 23)
      generalize w2.alloc (.cells #[.int .i64 0, .int .i64 0, .int .i64 0] 23) = w54 at *
      generalize w2.heap.size = g9 at *
      refine hK.out _ _ hs.out (fun _ => ?_)
      clear hK K
      try simp only [Act.put, List.getElem_toArray, List.getElem_cons_succ, List.getElem_cons_zero, List.setIfInBounds_toArray, List.set_cons_zero, List.set_cons_succ]
      refine wpAnyH_ready (rs := [6, 14]) (by kernel_rfl) (by simp) ?_
      refine AllReadyH.cons rfl (fun K hK => ?_) ?_
      · go_simp
        refine (ymade_at _ _ _ _ _ _ BD.out.1 BD.out.2.1 BD.out.2.2 H.out.1 H.out.2.1 H.out.2.2 _).mono ?_; rintro e w55 ⟨rfl, hb⟩
        replace HC := Bs.hbl HC hb; replace hs := Cs2.hbl hs hb; replace h9 := Dx.bl h9 hb; clear hb
        refine hK.out _ _ hs.out (fun _ => ?_)
        clear hK K
        try simp only [Act.put, List.getElem_toArray, List.getElem_cons_succ, List.getElem_cons_zero, List.setIfInBounds_toArray, List.set_cons_zero, List.set_cons_succ]
        refine wpAnyH_ready (rs := [13, 14]) (by kernel_rfl) (by simp) ?_
        refine AllReadyH.cons rfl (fun K hK => ?_) ?_
        · go_simp
          refine (ymade_at _ _ _ _ _ _ BD2.out.1 BD2.out.2.1 BD2.out.2.2 H2.out.1 H2.out.2.1 H2.out.2.2 _).mono ?_; rintro e w56 ⟨rfl, hb⟩
          replace HC := Bs.hbl HC hb; replace hs := Cs2.hbl hs hb; replace h9 := Dx.bl h9 hb; clear hb
          refine hK.out _ _ hs.out (fun _ => ?_)
          clear hK K
          try simp only [Act.put, List.getElem_toArray, List.getElem_cons_succ, List.getElem_cons_zero, List.setIfInBounds_toArray, List.set_cons_zero, List.set_cons_succ]
          refine wpAnyH_ready (rs := [14]) (by kernel_rfl) (by simp) ?_
          refine AllReadyH.cons rfl (fun K hK => ?_) ?_
          · go_simp
            have le8 := HC.out.size
            have nb8 := Cs2.lt hs
            have ne89 := Dx.newer h9
            have h8 := Dx.new w56 0 0 0; replace HC := Bs.hal HC (.cells #[.int .i64 0, .int .i64 0, .int .i64 0] 23); replace hs := Cs2.hal hs (.cells #[.int .i64 0, .int .i64 0, .int .i64 0] 23); replace h9 := Dx.al h9 (.cells #[.int .i64 0, .int .i64 0, .int .i64 0] 23)
            generalize w56.alloc (.cells #[.int .i64 0, .int .i64 0, .int .i64 0] 23) = w57 at *
            generalize w56.heap.size = g8 at *
            refine hK.out _ _ hs.out (fun _ => ?_)
            clear hK K
            try simp only [Act.put, List.getElem_toArray, List.getElem_cons_succ, List.getElem_cons_zero, List.setIfInBounds_toArray, List.set_cons_zero, List.set_cons_succ]
            refine wpAnyH_ready (rs := [16]) (by kernel_rfl) (by simp) ?_
            refine AllReadyH.cons rfl (fun K hK => ?_) ?_
            · rw [if_pos (by rfl)]
              refine wp_store_row 23 _ _ rfl g8 #[.int .i64 k, .int .i64 wk, .int .i64 d] rfl rfl _ _ h8.out dyInfo (by kernel_rfl) (by kernel_rfl) ?_
              replace h8 := Dx.hrow h8 k wk d; replace h9 := Dx.hrowO h9 #[.int .i64 k, .int .i64 wk, .int .i64 d] (Ne.symm ne89); replace HC := Bs.hrow HC le8 #[.int .i64 k, .int .i64 wk, .int .i64 d]; replace hs := Cs2.hrow hs #[.int .i64 k, .int .i64 wk, .int .i64 d] nb8
              generalize w57.setRow g8 #[.int .i64 k, .int .i64 wk, .int .i64 d] = w58 at *
              refine hK.out _ _ hs.out (fun _ => ?_)
              clear hK K
              try simp only [Act.put, List.getElem_toArray, List.getElem_cons_succ, List.getElem_cons_zero, List.setIfInBounds_toArray, List.set_cons_zero, List.set_cons_succ]
              refine wpAnyH_ready (rs := [17]) (by kernel_rfl) (by simp) ?_
              refine AllReadyH.cons rfl (fun K hK => ?_) ?_
              · rw [if_pos (by rfl)]
                refine wp_store_row 23 _ _ rfl g9 #[.int .i64 k2, .int .i64 wk2, .int .i64 d2] rfl rfl _ _ h9.out dyInfo (by kernel_rfl) (by kernel_rfl) ?_
                replace h9 := Dx.hrow h9 k2 wk2 d2; replace h8 := Dx.hrowO h8 #[.int .i64 k2, .int .i64 wk2, .int .i64 d2] ne89; replace HC := Bs.hrow HC le9 #[.int .i64 k2, .int .i64 wk2, .int .i64 d2]; replace hs := Cs2.hrow hs #[.int .i64 k2, .int .i64 wk2, .int .i64 d2] nb9
                generalize w58.setRow g9 #[.int .i64 k2, .int .i64 wk2, .int .i64 d2] = w59 at *
                refine hK.out _ _ hs.out (fun _ => ?_)
                clear hK K
                try simp only [Act.put, List.getElem_toArray, List.getElem_cons_succ, List.getElem_cons_zero, List.setIfInBounds_toArray, List.set_cons_zero, List.set_cons_succ]
                refine wpAnyH_done (by kernel_rfl) ?_ _
                go_wp2_with fail
                go_meet
                exact ⟨g8, g9, rfl, rfl, le8, le9, ne89, HC, h8, h9⟩
              exact AllReadyH.nil
            exact AllReadyH.nil
          exact AllReadyH.nil
        refine AllReadyH.cons rfl (fun K hK => ?_) ?_
        · go_simp
          have le8 := HC.out.size
          have nb8 := Cs2.lt hs
          have ne89 := Dx.newer h9
          have h8 := Dx.new w55 0 0 0; replace HC := Bs.hal HC (.cells #[.int .i64 0, .int .i64 0, .int .i64 0] 23); replace hs := Cs2.hal hs (.cells #[.int .i64 0, .int .i64 0, .int .i64 0] 23); replace h9 := Dx.al h9 (.cells #[.int .i64 0, .int .i64 0, .int .i64 0] 23)
          generalize w55.alloc (.cells #[.int .i64 0, .int .i64 0, .int .i64 0] 23) = w60 at *
          generalize w55.heap.size = g8 at *
          refine hK.out _ _ hs.out (fun _ => ?_)
          clear hK K
          try simp only [Act.put, List.getElem_toArray, List.getElem_cons_succ, List.getElem_cons_zero, List.setIfInBounds_toArray, List.set_cons_zero, List.set_cons_succ]
          refine wpAnyH_ready (rs := [13]) (by kernel_rfl) (by simp) ?_
          refine AllReadyH.cons rfl (fun K hK => ?_) ?_
          · go_simp
            refine (ymade_at _ _ _ _ _ _ BD2.out.1 BD2.out.2.1 BD2.out.2.2 H2.out.1 H2.out.2.1 H2.out.2.2 _).mono ?_; rintro e w61 ⟨rfl, hb⟩
            replace HC := Bs.hbl HC hb; replace hs := Cs2.hbl hs hb; replace h8 := Dx.bl h8 hb; replace h9 := Dx.bl h9 hb; clear hb
            refine hK.out _ _ hs.out (fun _ => ?_)
            clear hK K
            try simp only [Act.put, List.getElem_toArray, List.getElem_cons_succ, List.getElem_cons_zero, List.setIfInBounds_toArray, List.set_cons_zero, List.set_cons_succ]
            refine wpAnyH_ready (rs := [16]) (by kernel_rfl) (by simp) ?_
            refine AllReadyH.cons rfl (fun K hK => ?_) ?_
            · rw [if_pos (by rfl)]
              refine wp_store_row 23 _ _ rfl g8 #[.int .i64 k, .int .i64 wk, .int .i64 d] rfl rfl _ _ h8.out dyInfo (by kernel_rfl) (by kernel_rfl) ?_
              replace h8 := Dx.hrow h8 k wk d; replace h9 := Dx.hrowO h9 #[.int .i64 k, .int .i64 wk, .int .i64 d] (Ne.symm ne89); replace HC := Bs.hrow HC le8 #[.int .i64 k, .int .i64 wk, .int .i64 d]; replace hs := Cs2.hrow hs #[.int .i64 k, .int .i64 wk, .int .i64 d] nb8
              generalize w61.setRow g8 #[.int .i64 k, .int .i64 wk, .int .i64 d] = w62 at *
              refine hK.out _ _ hs.out (fun _ => ?_)
              clear hK K
              try simp only [Act.put, List.getElem_toArray, List.getElem_cons_succ, List.getElem_cons_zero, List.setIfInBounds_toArray, List.set_cons_zero, List.set_cons_succ]
              refine wpAnyH_ready (rs := [17]) (by kernel_rfl) (by simp) ?_
              refine AllReadyH.cons rfl (fun K hK => ?_) ?_
              · rw [if_pos (by rfl)]
                refine wp_store_row 23 _ _ rfl g9 #[.int .i64 k2, .int .i64 wk2, .int .i64 d2] rfl rfl _ _ h9.out dyInfo (by kernel_rfl) (by kernel_rfl) ?_
                replace h9 := Dx.hrow h9 k2 wk2 d2; replace h8 := Dx.hrowO h8 #[.int .i64 k2, .int .i64 wk2, .int .i64 d2] ne89; replace HC := Bs.hrow HC le9 #[.int .i64 k2, .int .i64 wk2, .int .i64 d2]; replace hs := Cs2.hrow hs #[.int .i64 k2, .int .i64 wk2, .int .i64 d2] nb9
                generalize w62.setRow g9 #[.int .i64 k2, .int .i64 wk2, .int .i64 d2] = w63 at *
                refine hK.out _ _ hs.out (fun _ => ?_)
                clear hK K
                try simp only [Act.put, List.getElem_toArray, List.getElem_cons_succ, List.getElem_cons_zero, List.setIfInBounds_toArray, List.set_cons_zero, List.set_cons_succ]
                refine wpAnyH_done (by kernel_rfl) ?_ _
                go_wp2_with fail
                go_meet
                exact ⟨g8, g9, rfl, rfl, le8, le9, ne89, HC, h8, h9⟩
              exact AllReadyH.nil
            exact AllReadyH.nil
          exact AllReadyH.nil
        exact AllReadyH.nil
      refine AllReadyH.cons rfl (fun K hK => ?_) ?_
      · go_simp
        have le8 := HC.out.size
        have nb8 := Cs2.lt hs
        have ne89 := Dx.newer h9
        have h8 := Dx.new w54 0 0 0; replace HC := Bs.hal HC (.cells #[.int .i64 0, .int .i64 0, .int .i64 0] 23); replace hs := Cs2.hal hs (.cells #[.int .i64 0, .int .i64 0, .int .i64 0] 23); replace h9 := Dx.al h9 (.cells #[.int .i64 0, .int .i64 0, .int .i64 0] 23)
        generalize w54.alloc (.cells #[.int .i64 0, .int .i64 0, .int .i64 0] 23) = w64 at *
        generalize w54.heap.size = g8 at *
        refine hK.out _ _ hs.out (fun _ => ?_)
        clear hK K
        try simp only [Act.put, List.getElem_toArray, List.getElem_cons_succ, List.getElem_cons_zero, List.setIfInBounds_toArray, List.set_cons_zero, List.set_cons_succ]
        refine wpAnyH_ready (rs := [6]) (by kernel_rfl) (by simp) ?_
        refine AllReadyH.cons rfl (fun K hK => ?_) ?_
        · go_simp
          refine (ymade_at _ _ _ _ _ _ BD.out.1 BD.out.2.1 BD.out.2.2 H.out.1 H.out.2.1 H.out.2.2 _).mono ?_; rintro e w65 ⟨rfl, hb⟩
          replace HC := Bs.hbl HC hb; replace hs := Cs2.hbl hs hb; replace h8 := Dx.bl h8 hb; replace h9 := Dx.bl h9 hb; clear hb
          refine hK.out _ _ hs.out (fun _ => ?_)
          clear hK K
          try simp only [Act.put, List.getElem_toArray, List.getElem_cons_succ, List.getElem_cons_zero, List.setIfInBounds_toArray, List.set_cons_zero, List.set_cons_succ]
          refine wpAnyH_ready (rs := [13]) (by kernel_rfl) (by simp) ?_
          refine AllReadyH.cons rfl (fun K hK => ?_) ?_
          · go_simp
            refine (ymade_at _ _ _ _ _ _ BD2.out.1 BD2.out.2.1 BD2.out.2.2 H2.out.1 H2.out.2.1 H2.out.2.2 _).mono ?_; rintro e w66 ⟨rfl, hb⟩
            replace HC := Bs.hbl HC hb; replace hs := Cs2.hbl hs hb; replace h8 := Dx.bl h8 hb; replace h9 := Dx.bl h9 hb; clear hb
            refine hK.out _ _ hs.out (fun _ => ?_)
            clear hK K
            try simp only [Act.put, List.getElem_toArray, List.getElem_cons_succ, List.getElem_cons_zero, List.setIfInBounds_toArray, List.set_cons_zero, List.set_cons_succ]
            refine wpAnyH_ready (rs := [16]) (by kernel_rfl) (by simp) ?_
            refine AllReadyH.cons rfl (fun K hK => ?_) ?_
            · rw [if_pos (by rfl)]
              refine wp_store_row 23 _ _ rfl g8 #[.int .i64 k, .int .i64 wk, .int .i64 d] rfl rfl _ _ h8.out dyInfo (by kernel_rfl) (by kernel_rfl) ?_
              replace h8 := Dx.hrow h8 k wk d; replace h9 := Dx.hrowO h9 #[.int .i64 k, .int .i64 wk, .int .i64 d] (Ne.symm ne89); replace HC := Bs.hrow HC le8 #[.int .i64 k, .int .i64 wk, .int .i64 d]; replace hs := Cs2.hrow hs #[.int .i64 k, .int .i64 wk, .int .i64 d] nb8
              generalize w66.setRow g8 #[.int .i64 k, .int .i64 wk, .int .i64 d] = w67 at *
              refine hK.out _ _ hs.out (fun _ => ?_)
              clear hK K
              try simp only [Act.put, List.getElem_toArray, List.getElem_cons_succ, List.getElem_cons_zero, List.setIfInBounds_toArray, List.set_cons_zero, List.set_cons_succ]
              refine wpAnyH_ready (rs := [17]) (by kernel_rfl) (by simp) ?_
              refine AllReadyH.cons rfl (fun K hK => ?_) ?_
              · rw [if_pos (by rfl)]
                refine wp_store_row 23 _ _ rfl g9 #[.int .i64 k2, .int .i64 wk2, .int .i64 d2] rfl rfl _ _ h9.out dyInfo (by kernel_rfl) (by kernel_rfl) ?_
                replace h9 := Dx.hrow h9 k2 wk2 d2; replace h8 := Dx.hrowO h8 #[.int .i64 k2, .int .i64 wk2, .int .i64 d2] ne89; replace HC := Bs.hrow HC le9 #[.int .i64 k2, .int .i64 wk2, .int .i64 d2]; replace hs := Cs2.hrow hs #[.int .i64 k2, .int .i64 wk2, .int .i64 d2] nb9
                generalize w67.setRow g9 #[.int .i64 k2, .int .i64 wk2, .int .i64 d2] = w68 at *
                refine hK.out _ _ hs.out (fun _ => ?_)
                clear hK K
                try simp only [Act.put, List.getElem_toArray, List.getElem_cons_succ, List.getElem_cons_zero, List.setIfInBounds_toArray, List.set_cons_zero, List.set_cons_succ]
                refine wpAnyH_done (by kernel_rfl) ?_ _
                go_wp2_with fail
                go_meet
                exact ⟨g8, g9, rfl, rfl, le8, le9, ne89, HC, h8, h9⟩
              exact AllReadyH.nil
            exact AllReadyH.nil
          exact AllReadyH.nil
        exact AllReadyH.nil
      exact AllReadyH.nil
    exact AllReadyH.nil
  case rest =>
    obtain ⟨g8, g9, rfl, rfl, le8, le9, ne89, HC, H8, H9⟩ := hcut
    clear hs
    have p0 := Dx.c0 H8
    have p1 := Dx.c1 H8
    have p2 := Dx.c2 H8
    have ea := beq_selfI k
    have eb := beq_selfI wk
    have ec := beq_selfI d
    by_cases hE : k = k2 ∧ wk = wk2 ∧ d = d2
    · obtain ⟨rfl, rfl, rfl⟩ := hE
      have hST : S = T := by
        have h1 := HS.out
        rw [HT.out] at h1
        exact (Prod.mk.inj h1).1.symm
      subst hST
      have eS := str_refl S
      clear HT
      go_wp2_with fail
      refine (yPrint_s k wk d S 0 HS (Ys.of HC0 HC)).mono ?_; rintro x w3 ⟨rfl, hb, _⟩
      replace HC := Bs.hbl HC hb; replace H8 := Dx.bl H8 hb; replace H9 := Dx.bl H9 hb
      clear hb p0 p1 p2
      have p0 := Dx.c0 H9
      have p1 := Dx.c1 H9
      have p2 := Dx.c2 H9
      go_wp2_with fail
      refine (yPrint_s k wk d S 0 HS (Ys.of HC0 HC)).mono ?_; rintro x w4 ⟨rfl, hb, _⟩
      replace HC := Bs.hbl HC hb; replace H8 := Dx.bl H8 hb; replace H9 := Dx.bl H9 hb
      clear hb p0 p1 p2
      have p0 := Dx.c0 H8
      have p1 := Dx.c1 H8
      have p2 := Dx.c2 H8
      have q0 := Dx.c0 H9
      have q1 := Dx.c1 H9
      have q2 := Dx.c2 H9
      go_wp2_with fail
      refine (yParse_s S (Nat.lt_of_le_of_lt ZS.out (by decide)) k wk d 0 PS (Ys.of HC0 HC)).mono ?_; rintro x w5 ⟨rfl, hb, _⟩
      replace HC := Bs.hbl HC hb; replace H8 := Dx.bl H8 hb
      clear hb p0 p1 p2 q0 q1 q2 H9
      replace H8 := Dx.al H8 (.cells #[.int .i64 k, .int .i64 wk, .int .i64 d] 23)
      have p0 := Dx.c0 H8
      have p1 := Dx.c1 H8
      have p2 := Dx.c2 H8
      replace HC := Bs.hal HC (.cells #[.int .i64 k, .int .i64 wk, .int .i64 d] 23)
      go_wp2_with fail
      refine (check_at k wk d 0 (by rw [OS.out]; rfl) _).mono ?_; rintro x w6 ⟨rfl, hb⟩
      replace HC := Bs.hbl HC hb
      clear hb
      go_wp2_with fail
      refine (works9_s (Ys.of HC0 HC)).mono ?_; rintro x w7 ⟨rfl, hb, _⟩
      replace HC := Bs.hbl HC hb
      go_wp2
      go_ret
      exact ⟨rfl, by first | exact HC.out | (rw [← hbs]; exact HC.out)⟩
    · have hST : (S.toList == T.toList) = false := by
        rw [beq_eq_false_iff_ne, ByteArray.toList_eq, ByteArray.toList_eq]
        intro e
        have h1 := PS.out
        rw [e, PT.out] at h1
        simp only [Prod.mk.injEq] at h1
        exact hE ⟨h1.1.1.symm, h1.1.2.1.symm, h1.1.2.2.symm⟩
      have hDD : (k == k2) = false ∨ ((k == k2) = true ∧ (wk == wk2) = false) ∨ ((k == k2) = true ∧ (wk == wk2) = true ∧ (d == d2) = false) := by
        cases h1 : (k == k2) with
        | false => exact .inl rfl
        | true =>
          cases h2 : (wk == wk2) with
          | false => exact .inr (.inl ⟨rfl, rfl⟩)
          | true =>
            cases h3 : (d == d2) with
            | false => exact .inr (.inr ⟨rfl, rfl, rfl⟩)
            | true => exact absurd ⟨eq_of_beq h1, eq_of_beq h2, eq_of_beq h3⟩ hE
      clear hE
      rcases hDD with d1 | ⟨d1, d2'⟩ | ⟨d1, d2', d3⟩
      · go_wp2_with fail
        refine (yPrint_s k wk d S 0 HS (Ys.of HC0 HC)).mono ?_; rintro x w3 ⟨rfl, hb, _⟩
        replace HC := Bs.hbl HC hb; replace H8 := Dx.bl H8 hb; replace H9 := Dx.bl H9 hb
        clear hb p0 p1 p2
        have p0 := Dx.c0 H9
        have p1 := Dx.c1 H9
        have p2 := Dx.c2 H9
        go_wp2_with fail
        refine (yPrint_s k2 wk2 d2 T 0 HT (Ys.of HC0 HC)).mono ?_; rintro x w4 ⟨rfl, hb, _⟩
        replace HC := Bs.hbl HC hb; replace H8 := Dx.bl H8 hb; replace H9 := Dx.bl H9 hb
        clear hb p0 p1 p2
        have p0 := Dx.c0 H8
        have p1 := Dx.c1 H8
        have p2 := Dx.c2 H8
        have q0 := Dx.c0 H9
        have q1 := Dx.c1 H9
        have q2 := Dx.c2 H9
        go_wp2_with fail
        refine (yParse_s S (Nat.lt_of_le_of_lt ZS.out (by decide)) k wk d 0 PS (Ys.of HC0 HC)).mono ?_; rintro x w5 ⟨rfl, hb, _⟩
        replace HC := Bs.hbl HC hb; replace H8 := Dx.bl H8 hb
        clear hb p0 p1 p2 q0 q1 q2 H9
        replace H8 := Dx.al H8 (.cells #[.int .i64 k, .int .i64 wk, .int .i64 d] 23)
        have p0 := Dx.c0 H8
        have p1 := Dx.c1 H8
        have p2 := Dx.c2 H8
        replace HC := Bs.hal HC (.cells #[.int .i64 k, .int .i64 wk, .int .i64 d] 23)
        go_wp2_with fail
        refine (check_at k wk d 0 (by rw [OS.out]; rfl) _).mono ?_; rintro x w6 ⟨rfl, hb⟩
        replace HC := Bs.hbl HC hb
        clear hb
        go_wp2_with fail
        refine (works9_s (Ys.of HC0 HC)).mono ?_; rintro x w7 ⟨rfl, hb, _⟩
        replace HC := Bs.hbl HC hb
        go_wp2
        go_ret
        exact ⟨rfl, by first | exact HC.out | (rw [← hbs]; exact HC.out)⟩
      · go_wp2_with fail
        refine (yPrint_s k wk d S 0 HS (Ys.of HC0 HC)).mono ?_; rintro x w3 ⟨rfl, hb, _⟩
        replace HC := Bs.hbl HC hb; replace H8 := Dx.bl H8 hb; replace H9 := Dx.bl H9 hb
        clear hb p0 p1 p2
        have p0 := Dx.c0 H9
        have p1 := Dx.c1 H9
        have p2 := Dx.c2 H9
        go_wp2_with fail
        refine (yPrint_s k2 wk2 d2 T 0 HT (Ys.of HC0 HC)).mono ?_; rintro x w4 ⟨rfl, hb, _⟩
        replace HC := Bs.hbl HC hb; replace H8 := Dx.bl H8 hb; replace H9 := Dx.bl H9 hb
        clear hb p0 p1 p2
        have p0 := Dx.c0 H8
        have p1 := Dx.c1 H8
        have p2 := Dx.c2 H8
        have q0 := Dx.c0 H9
        have q1 := Dx.c1 H9
        have q2 := Dx.c2 H9
        go_wp2_with fail
        refine (yParse_s S (Nat.lt_of_le_of_lt ZS.out (by decide)) k wk d 0 PS (Ys.of HC0 HC)).mono ?_; rintro x w5 ⟨rfl, hb, _⟩
        replace HC := Bs.hbl HC hb; replace H8 := Dx.bl H8 hb
        clear hb p0 p1 p2 q0 q1 q2 H9
        replace H8 := Dx.al H8 (.cells #[.int .i64 k, .int .i64 wk, .int .i64 d] 23)
        have p0 := Dx.c0 H8
        have p1 := Dx.c1 H8
        have p2 := Dx.c2 H8
        replace HC := Bs.hal HC (.cells #[.int .i64 k, .int .i64 wk, .int .i64 d] 23)
        go_wp2_with fail
        refine (check_at k wk d 0 (by rw [OS.out]; rfl) _).mono ?_; rintro x w6 ⟨rfl, hb⟩
        replace HC := Bs.hbl HC hb
        clear hb
        go_wp2_with fail
        refine (works9_s (Ys.of HC0 HC)).mono ?_; rintro x w7 ⟨rfl, hb, _⟩
        replace HC := Bs.hbl HC hb
        go_wp2
        go_ret
        exact ⟨rfl, by first | exact HC.out | (rw [← hbs]; exact HC.out)⟩
      · go_wp2_with fail
        refine (yPrint_s k wk d S 0 HS (Ys.of HC0 HC)).mono ?_; rintro x w3 ⟨rfl, hb, _⟩
        replace HC := Bs.hbl HC hb; replace H8 := Dx.bl H8 hb; replace H9 := Dx.bl H9 hb
        clear hb p0 p1 p2
        have p0 := Dx.c0 H9
        have p1 := Dx.c1 H9
        have p2 := Dx.c2 H9
        go_wp2_with fail
        refine (yPrint_s k2 wk2 d2 T 0 HT (Ys.of HC0 HC)).mono ?_; rintro x w4 ⟨rfl, hb, _⟩
        replace HC := Bs.hbl HC hb; replace H8 := Dx.bl H8 hb; replace H9 := Dx.bl H9 hb
        clear hb p0 p1 p2
        have p0 := Dx.c0 H8
        have p1 := Dx.c1 H8
        have p2 := Dx.c2 H8
        have q0 := Dx.c0 H9
        have q1 := Dx.c1 H9
        have q2 := Dx.c2 H9
        go_wp2_with fail
        refine (yParse_s S (Nat.lt_of_le_of_lt ZS.out (by decide)) k wk d 0 PS (Ys.of HC0 HC)).mono ?_; rintro x w5 ⟨rfl, hb, _⟩
        replace HC := Bs.hbl HC hb; replace H8 := Dx.bl H8 hb
        clear hb p0 p1 p2 q0 q1 q2 H9
        replace H8 := Dx.al H8 (.cells #[.int .i64 k, .int .i64 wk, .int .i64 d] 23)
        have p0 := Dx.c0 H8
        have p1 := Dx.c1 H8
        have p2 := Dx.c2 H8
        replace HC := Bs.hal HC (.cells #[.int .i64 k, .int .i64 wk, .int .i64 d] 23)
        go_wp2_with fail
        refine (check_at k wk d 0 (by rw [OS.out]; rfl) _).mono ?_; rintro x w6 ⟨rfl, hb⟩
        replace HC := Bs.hbl HC hb
        clear hb
        go_wp2_with fail
        refine (works9_s (Ys.of HC0 HC)).mono ?_; rintro x w7 ⟨rfl, hb, _⟩
        replace HC := Bs.hbl HC hb
        go_wp2
        go_ret
        exact ⟨rfl, by first | exact HC.out | (rw [← hbs]; exact HC.out)⟩
theorem back_walk (K : Int) (wK : (Lit.int .u8 K).wf = true) (W : Int) (wW : (Lit.int .u8 W).wf = true) (D : Int) (wD : (Lit.int .u8 D).wf = true) (K2 : Int) (wK2 : (Lit.int .u8 K2).wf = true) (W2 : Int) (wW2 : (Lit.int .u8 W2).wf = true) (D2 : Int) (wD2 : (Lit.int .u8 D2).wf = true) (W0 : World) (hT : TabY0 W0 ∧ MaxY W0) :
    Calls Tryd.prog 4 #[.agg #[.int .u8 K, .int .u8 W, .int .u8 D], .agg #[.int .u8 K2, .int .u8 W2, .int .u8 D2]] W0 fun e w' => e = .returned (.bool true) ∧ Below W0.heap.size W0 w' :=
  back_core K W D K2 W2 D2 _ _ _ _ _ _ (bounds_u8 wK) (bounds_u8 wW) (bounds_u8 wD) (bounds_u8 wK2) (bounds_u8 wW2) (bounds_u8 wD2) rfl rfl rfl rfl rfl rfl W0 hT
end Go.Proofs.YtedcfnaphfgfjaaDoor
