/- The walk of DayformRefuses: it returns true. -/
import Derived.Test.YtdlclpkhjblgjaaDoorLaw02b
import Derived.Deep.RegionHeld3
import Derived.Laws.CopyOwn
import Derived.Deep.CutBlock
import Derived.Deep.DeepCutAuto
import Derived.OpenShut
namespace Go.Proofs.YtdlclpkhjblgjaaDoor
open Go.RowKit

/-- a struct of three numbers in a block of the call's own, with room to be written -/
def Bx (w : World) (b : Nat) (x y z : Int) : Prop := w.heap[b]? = some (.cells #[.int .i64 x, .int .i64 y, .int .i64 z] 23 (0, 0))
theorem Bx.lt {w : World} {b : Nat} {x y z : Int} (h : Bx w b x y z) : b < w.heap.size := by
  rcases Nat.lt_or_ge b w.heap.size with e | e
  · exact e
  · unfold Bx at h; rw [Array.getElem?_eq_none e] at h; cases h
theorem Bx.bl {w w1 : World} {b : Nat} {x y z : Int} (h : Bx w b x y z) (k : Below w.heap.size w w1) : Bx w1 b x y z := (k.block b h.lt).trans h
theorem Bx.al {w : World} {b : Nat} {x y z : Int} (h : Bx w b x y z) (A : Obj) : Bx (w.alloc A) b x y z := row_al h
theorem Bx.new (w : World) (x y z : Int) : Bx (w.alloc (.cells #[.int .i64 x, .int .i64 y, .int .i64 z] 23)) w.heap.size x y z := row_new rfl
theorem szDay : (Tryd.prog.info? 23).map (·.size) = some 3 := by kernel_rfl
theorem Bx.hbl {w w1 : World} {b : Nat} {x y z : Int} (h : Hid (Bx w b x y z)) (k : Below w.heap.size w w1) : Hid (Bx w1 b x y z) := Lib.hid (h.out.bl k)
theorem Bx.hal {w : World} {b : Nat} {x y z : Int} (h : Hid (Bx w b x y z)) (A : Obj) : Hid (Bx (w.alloc A) b x y z) := Lib.hid (h.out.al A)
theorem Bx.newer {w : World} {b : Nat} {x y z : Int} (h : Bx w b x y z) : w.heap.size ≠ b := Nat.ne_of_gt h.lt
theorem Bx.older {w : World} {b : Nat} {x y z : Int} (h : Bx w b x y z) : b ≠ w.heap.size := Nat.ne_of_lt h.lt
theorem Bx.hrow {w : World} {b : Nat} {x y z : Int} (h : Hid (Bx w b x y z)) (a c e : Int) : Hid (Bx (w.setRow b #[.int .i64 a, .int .i64 c, .int .i64 e]) b a c e) := Lib.hid (setRow_heap w b _ _ _ _ h.out)
theorem Bx.hrowO {w : World} {b g : Nat} {x y z : Int} (h : Hid (Bx w b x y z)) (cs : Array Value) (hg : b ≠ g) : Hid (Bx (w.setRow g cs) b x y z) := Lib.hid ((setRow_other w g b cs hg).trans h.out)
theorem Gs.hrow {w0 w : World} {g : Nat} (h : Hid (Gs w0 w)) (hg : w0.heap.size ≤ g) (cs : Array Value) (h0 : 0 < w0.heap.size) : Hid (Gs w0 (w.setRow g cs)) := Lib.hid ⟨below_setRow h.out.1 hg cs, fun i hi => (cell_setRow_other w g cs _ (by show (0 : Nat) ≠ g; omega)).trans (h.out.2 i hi)⟩
theorem Cs.hrow {w : World} {b g : Nat} {l : List Value} (h : Hid (Cs w b l)) (cs : Array Value) (hg : b ≠ g) : Hid (Cs (w.setRow g cs) b l) := Lib.hid fun i v e => (cell_setRow_other w g cs _ hg).trans (h.out i v e)
theorem Cs.hdr {w : World} {b : Nat} {l : List Value} (h : Hid (Cs w b l)) : Hid (Cs w.drew b l) := h
theorem Bx.hale {w w1 : World} {b : Nat} {x y z : Int} {A : Obj} (h : Hid (Bx w b x y z)) (k : w.alloc A = w1) : Hid (Bx w1 b x y z) := k ▸ Lib.hid (h.out.al A)
theorem ref_cases (A : Int) : (A % 8 == 0) = true ∨ ((A % 8 == 0) = false ∧ (A % 8 == 1) = true) ∨ ((A % 8 == 0) = false ∧ (A % 8 == 1) = false ∧ (A % 8 == 2) = true) ∨ ((A % 8 == 0) = false ∧ (A % 8 == 1) = false ∧ (A % 8 == 2) = false ∧ (A % 8 == 3) = true) ∨ ((A % 8 == 0) = false ∧ (A % 8 == 1) = false ∧ (A % 8 == 2) = false ∧ (A % 8 == 3) = false ∧ (A % 8 == 4) = true) ∨ ((A % 8 == 0) = false ∧ (A % 8 == 1) = false ∧ (A % 8 == 2) = false ∧ (A % 8 == 3) = false ∧ (A % 8 == 4) = false ∧ (A % 8 == 5) = true) ∨ ((A % 8 == 0) = false ∧ (A % 8 == 1) = false ∧ (A % 8 == 2) = false ∧ (A % 8 == 3) = false ∧ (A % 8 == 4) = false ∧ (A % 8 == 5) = false ∧ (A % 8 == 6) = true) ∨ ((A % 8 == 0) = false ∧ (A % 8 == 1) = false ∧ (A % 8 == 2) = false ∧ (A % 8 == 3) = false ∧ (A % 8 == 4) = false ∧ (A % 8 == 5) = false ∧ (A % 8 == 6) = false) := by
  have h : A % 8 = 0 ∨ A % 8 = 1 ∨ A % 8 = 2 ∨ A % 8 = 3 ∨ A % 8 = 4 ∨ A % 8 = 5 ∨ A % 8 = 6 ∨ A % 8 = 7 := by omega
  rcases h with e | e | e | e | e | e | e | e <;> rw [e] <;> simp
theorem bad_er (y m k wk d : Int) (h : Cal.okB y m 1 = true) (hk : Dfm.okD k wk d = false) : Dfm.er y m k wk d = 2 := by simp [Dfm.er, h, hk]
theorem bad_va (y m k wk d : Int) (h : Cal.okB y m 1 = true) (hk : Dfm.okD k wk d = false) : Dfm.va y m k wk d = 0 := by simp [Dfm.va, bad_er y m k wk d h hk]
theorem bad_al (a b m k wk d : Int) (hk : Dfm.okD k wk d = false) : Dfm.al a b m k wk d = false := by simp [Dfm.al, hk]
theorem rng_er (y m k wk d : Int) (h : Cal.okB y m 1 = false) : Dfm.er y m k wk d = 3 := by simp [Dfm.er, h]
theorem rng_va (y m k wk d : Int) (h : Cal.okB y m 1 = false) : Dfm.va y m k wk d = 0 := by simp [Dfm.va, rng_er y m k wk d h]
theorem rng_al (a b m k wk d : Int) (h : m < 1 ∨ 12 < m) : Dfm.al a b m k wk d = false := by
  have : decide (1 ≤ m ∧ m ≤ 12) = false := by simp; omega
  simp [Dfm.al, this]
theorem rng_m (y m : Int) (h : m < 1 ∨ 12 < m) : Cal.okB y m 1 = false := by
  rw [Bool.eq_false_iff]; intro e; rw [Dfm.ok1] at e; omega
theorem rng_y (y m : Int) (h : y < -2000000000 ∨ 2000000000 < y) : Cal.okB y m 1 = false := by
  rw [Bool.eq_false_iff]; intro e; rw [Dfm.ok1] at e; omega
theorem Bx.c0 {w : World} {b : Nat} {x y z : Int} (h : Bx w b x y z) : w.cell? ⟨b, 0, none⟩ = some (.int .i64 x) := row_cell h rfl
theorem Bx.c1 {w : World} {b : Nat} {x y z : Int} (h : Bx w b x y z) : w.cell? ⟨b, 1, none⟩ = some (.int .i64 y) := row_cell h rfl
theorem Bx.c2 {w : World} {b : Nat} {x y z : Int} (h : Bx w b x y z) : w.cell? ⟨b, 2, none⟩ = some (.int .i64 z) := row_cell h rfl
theorem Bx.z {w : World} {b : Nat} {x y z : Int} (h : Bx w b x y z) (i : Nat) : w.frozen? ⟨b, i, none⟩ = false := frozen_of_row w b i _ _ h
theorem Bx.set0 {w : World} {b : Nat} {x y z : Int} (h : Bx w b x y z) (v : Int) : Bx (w.setCell ⟨b, 0, none⟩ (.int .i64 v)) b v y z := by
  have := heap_setCell_same w b 0 _ _ (.int .i64 v) h
  exact this
theorem Bx.set1 {w : World} {b : Nat} {x y z : Int} (h : Bx w b x y z) (v : Int) : Bx (w.setCell ⟨b, 1, none⟩ (.int .i64 v)) b x v z := by
  have := heap_setCell_same w b 1 _ _ (.int .i64 v) h
  exact this
theorem Bx.set2 {w : World} {b : Nat} {x y z : Int} (h : Bx w b x y z) (v : Int) : Bx (w.setCell ⟨b, 2, none⟩ (.int .i64 v)) b x y v := by
  have := heap_setCell_same w b 2 _ _ (.int .i64 v) h
  exact this
theorem Bx.setO {w : World} {b : Nat} {x y z : Int} (h : Bx w b x y z) (p : Addr) (u : Value) (hp : b ≠ p.block) : Bx (w.setCell p u) b x y z := (Below.heap_setCell w p u b hp).trans h
set_option linter.unusedSimpArgs false in
set_option linter.unusedSimpArgs false in
set_option maxRecDepth 100000 in
set_option maxHeartbeats 4000000 in
theorem ref_core (K W D k wk d A F : Int) (hK : 0 ≤ K ∧ K ≤ 255) (hW : 0 ≤ W ∧ W ≤ 255) (hD : 0 ≤ D ∧ D ≤ 255) (hA : 0 ≤ A ∧ A ≤ 255) (hF : 0 ≤ F ∧ F ≤ 4294967295) (h1 : Dfm.mK K = k) (h2 : Dfm.mW K W = wk) (h3 : Dfm.mD K D = d) (W0 : World) (hT : TabW W0) :
    Calls Tryd.prog 8 #[.agg #[.int .u8 K, .int .u8 W, .int .u8 D], .int .u8 A, .int .u32 F] W0 fun e w' => e = .returned (.bool true) ∧ Below W0.heap.size W0 w' := by
  have HC := Lib.hid (Gs.mk0 hT)
  have hz0 := hT.size
  have H := Lib.hid (And.intro h1 (And.intro h2 h3))
  have BD := Lib.hid (And.intro hK (And.intro hW hD))
  clear hT h1 h2 h3 hK hW hD
  go_enter Tryd.func8, Tryd.ntmps8
  go_upto_region 2 with fail
  have hs := Lib.hid (Cs.new W0 [.int .u8 K, .int .u8 W, .int .u8 D] 32)
  replace HC := Gs.hal HC (.cells #[.int .u8 K, .int .u8 W, .int .u8 D] 32)
  have hlt : W0.heap.size < (W0.alloc (.cells #[.int .u8 K, .int .u8 W, .int .u8 D] 32)).heap.size := by simp
  generalize W0.alloc (.cells #[.int .u8 K, .int .u8 W, .int .u8 D] 32) = w1 at *
  generalize hbs : W0.heap.size = bs at *
  rw [← hbs] at hz0
  go_cut [8, 9] (fun s8 s9 wx => ∃ g8 g9 : Nat, s8 = .pointer (some ⟨g8, 0, none⟩) ∧ s9 = .pointer (some ⟨g9, 0, none⟩) ∧ W0.heap.size ≤ g8 ∧ W0.heap.size ≤ g9 ∧ g8 ≠ g9 ∧ Gs W0 wx ∧ Bx wx g8 k wk d ∧ Bx wx g9 k wk d)
  case first =>
    refine wp_region_held_drew (S := fun w' => Cs w' bs [.int .u8 K, .int .u8 W, .int .u8 D]) (by kernel_rfl) hs.out.dr (fun hHeld => ?_)
    replace HC := Gs.hdr HC
    replace hs := Cs.hdr hs
    generalize w1.drew = w2 at *
    refine wpAnyH_take (i := 0) (v := ?_) rfl (by kernel_rfl) (by kernel_rfl) (by kernel_rfl) (fun _ _ _ h => h) (Or.inl ⟨by rfl, ?_⟩) (by assumption) ?_
    rotate_left
    · (intro w hSw; (try dsimp only at hSw); have q0 := Cs.at hSw 0 rfl; have q1 := Cs.at hSw 1 rfl; have q2 := Cs.at hSw 2 rfl; clear hSw; go_simp; try (with_reducible rfl))
    try simp only [Act.put, List.getElem_toArray, List.getElem_cons_succ, List.getElem_cons_zero, List.setIfInBounds_toArray, List.set_cons_zero, List.set_cons_succ]
    refine wpAnyH_take (i := 2) (v := ?_) rfl (by kernel_rfl) (by kernel_rfl) (by kernel_rfl) (fun _ _ _ h => h) (Or.inl ⟨by rfl, ?_⟩) (by assumption) ?_
    rotate_left
    · (intro w hSw; (try dsimp only at hSw); have q0 := Cs.at hSw 0 rfl; have q1 := Cs.at hSw 1 rfl; have q2 := Cs.at hSw 2 rfl; clear hSw; go_simp; try (with_reducible rfl))
    try simp only [Act.put, List.getElem_toArray, List.getElem_cons_succ, List.getElem_cons_zero, List.setIfInBounds_toArray, List.set_cons_zero, List.set_cons_succ]
    clear hHeld
    refine wpAnyH_ready (rs := [1, 4, 5]) (by kernel_rfl) (by simp) ?_
    refine AllReadyH.cons rfl (fun K hK => ?_) ?_
    · go_simp
      refine (made_at _ _ _ _ _ _ BD.out.1 BD.out.2.1 BD.out.2.2 H.out.1 H.out.2.1 H.out.2.2 _).mono ?_; rintro e w11 ⟨rfl, hb⟩
      replace HC := Gs.hbl HC hb; replace hs := Cs.hbl hs hb; clear hb
      refine hK.out _ _ hs.out (fun _ => ?_)
      clear hK K
      try simp only [Act.put, List.getElem_toArray, List.getElem_cons_succ, List.getElem_cons_zero, List.setIfInBounds_toArray, List.set_cons_zero, List.set_cons_succ]
      refine wpAnyH_ready (rs := [3, 4, 5]) (by kernel_rfl) (by simp) ?_
      refine AllReadyH.cons rfl (fun K hK => ?_) ?_
      · go_simp
        refine (made_at _ _ _ _ _ _ BD.out.1 BD.out.2.1 BD.out.2.2 H.out.1 H.out.2.1 H.out.2.2 _).mono ?_; rintro e w12 ⟨rfl, hb⟩
        replace HC := Gs.hbl HC hb; replace hs := Cs.hbl hs hb; clear hb
        refine hK.out _ _ hs.out (fun _ => ?_)
        clear hK K
        try simp only [Act.put, List.getElem_toArray, List.getElem_cons_succ, List.getElem_cons_zero, List.setIfInBounds_toArray, List.set_cons_zero, List.set_cons_succ]
        refine wpAnyH_ready (rs := [4, 5]) (by kernel_rfl) (by simp) ?_
        refine AllReadyH.cons rfl (fun K hK => ?_) ?_
        · go_simp
          have le8 := HC.out.1.size
          have nb8 := cell_lt (hs.out.at 0 rfl)
          have h8 := Lib.hid (Bx.new w12 0 0 0); replace HC := Gs.hal HC (.cells #[.int .i64 0, .int .i64 0, .int .i64 0] 23); replace hs := Cs.hal hs (.cells #[.int .i64 0, .int .i64 0, .int .i64 0] 23)
          generalize w12.alloc (.cells #[.int .i64 0, .int .i64 0, .int .i64 0] 23) = w13 at *
          generalize w12.heap.size = g8 at *
          refine hK.out _ _ hs.out (fun _ => ?_)
          clear hK K
          try simp only [Act.put, List.getElem_toArray, List.getElem_cons_succ, List.getElem_cons_zero, List.setIfInBounds_toArray, List.set_cons_zero, List.set_cons_succ]
          refine wpAnyH_ready (rs := [5]) (by kernel_rfl) (by simp) ?_
          refine AllReadyH.cons rfl (fun K hK => ?_) ?_
          · go_simp
            have le9 := HC.out.1.size
            have nb9 := cell_lt (hs.out.at 0 rfl)
            have ne89 := h8.out.older
            have h9 := Lib.hid (Bx.new w13 0 0 0); replace HC := Gs.hal HC (.cells #[.int .i64 0, .int .i64 0, .int .i64 0] 23); replace hs := Cs.hal hs (.cells #[.int .i64 0, .int .i64 0, .int .i64 0] 23); replace h8 := Bx.hal h8 (.cells #[.int .i64 0, .int .i64 0, .int .i64 0] 23)
            generalize w13.alloc (.cells #[.int .i64 0, .int .i64 0, .int .i64 0] 23) = w14 at *
            generalize w13.heap.size = g9 at *
            refine hK.out _ _ hs.out (fun _ => ?_)
            clear hK K
            try simp only [Act.put, List.getElem_toArray, List.getElem_cons_succ, List.getElem_cons_zero, List.setIfInBounds_toArray, List.set_cons_zero, List.set_cons_succ]
            refine wpAnyH_ready (rs := [6]) (by kernel_rfl) (by simp) ?_
            refine AllReadyH.cons rfl (fun K hK => ?_) ?_
            · rw [if_pos (by rfl)]
              refine wp_store_row 23 _ _ rfl g8 #[.int .i64 k, .int .i64 wk, .int .i64 d] rfl rfl _ _ h8.out szDay (by kernel_rfl) (by kernel_rfl) ?_
              replace h8 := Bx.hrow h8 k wk d; replace h9 := Bx.hrowO h9 #[.int .i64 k, .int .i64 wk, .int .i64 d] (Ne.symm ne89); replace HC := Gs.hrow HC le8 #[.int .i64 k, .int .i64 wk, .int .i64 d] hz0; replace hs := Cs.hrow hs #[.int .i64 k, .int .i64 wk, .int .i64 d] (Nat.ne_of_lt nb8)
              generalize w14.setRow g8 #[.int .i64 k, .int .i64 wk, .int .i64 d] = w15 at *
              refine hK.out _ _ hs.out (fun _ => ?_)
              clear hK K
              try simp only [Act.put, List.getElem_toArray, List.getElem_cons_succ, List.getElem_cons_zero, List.setIfInBounds_toArray, List.set_cons_zero, List.set_cons_succ]
              refine wpAnyH_ready (rs := [7]) (by kernel_rfl) (by simp) ?_
              refine AllReadyH.cons rfl (fun K hK => ?_) ?_
              · rw [if_pos (by rfl)]
                refine wp_store_row 23 _ _ rfl g9 #[.int .i64 k, .int .i64 wk, .int .i64 d] rfl rfl _ _ h9.out szDay (by kernel_rfl) (by kernel_rfl) ?_
                replace h9 := Bx.hrow h9 k wk d; replace h8 := Bx.hrowO h8 #[.int .i64 k, .int .i64 wk, .int .i64 d] ne89; replace HC := Gs.hrow HC le9 #[.int .i64 k, .int .i64 wk, .int .i64 d] hz0; replace hs := Cs.hrow hs #[.int .i64 k, .int .i64 wk, .int .i64 d] (Nat.ne_of_lt nb9)
                generalize w15.setRow g9 #[.int .i64 k, .int .i64 wk, .int .i64 d] = w16 at *
                refine hK.out _ _ hs.out (fun _ => ?_)
                clear hK K
                try simp only [Act.put, List.getElem_toArray, List.getElem_cons_succ, List.getElem_cons_zero, List.setIfInBounds_toArray, List.set_cons_zero, List.set_cons_succ]
                refine wpAnyH_done (by kernel_rfl) ?_ _
                go_wp2_with fail
                go_meet
                exact ⟨g8, g9, rfl, rfl, le8, le9, ne89, HC.out, h8.out, h9.out⟩
              exact AllReadyH.nil
            exact AllReadyH.nil
          exact AllReadyH.nil
        refine AllReadyH.cons rfl (fun K hK => ?_) ?_
        · go_simp
          have le9 := HC.out.1.size
          have nb9 := cell_lt (hs.out.at 0 rfl)
          have h9 := Lib.hid (Bx.new w12 0 0 0); replace HC := Gs.hal HC (.cells #[.int .i64 0, .int .i64 0, .int .i64 0] 23); replace hs := Cs.hal hs (.cells #[.int .i64 0, .int .i64 0, .int .i64 0] 23)
          generalize w12.alloc (.cells #[.int .i64 0, .int .i64 0, .int .i64 0] 23) = w17 at *
          generalize w12.heap.size = g9 at *
          refine hK.out _ _ hs.out (fun _ => ?_)
          clear hK K
          try simp only [Act.put, List.getElem_toArray, List.getElem_cons_succ, List.getElem_cons_zero, List.setIfInBounds_toArray, List.set_cons_zero, List.set_cons_succ]
          refine wpAnyH_ready (rs := [4]) (by kernel_rfl) (by simp) ?_
          refine AllReadyH.cons rfl (fun K hK => ?_) ?_
          · go_simp
            have le8 := HC.out.1.size
            have nb8 := cell_lt (hs.out.at 0 rfl)
            have ne89 := h9.out.newer
            have h8 := Lib.hid (Bx.new w17 0 0 0); replace HC := Gs.hal HC (.cells #[.int .i64 0, .int .i64 0, .int .i64 0] 23); replace hs := Cs.hal hs (.cells #[.int .i64 0, .int .i64 0, .int .i64 0] 23); replace h9 := Bx.hal h9 (.cells #[.int .i64 0, .int .i64 0, .int .i64 0] 23)
            generalize w17.alloc (.cells #[.int .i64 0, .int .i64 0, .int .i64 0] 23) = w18 at *
            generalize w17.heap.size = g8 at *
            refine hK.out _ _ hs.out (fun _ => ?_)
            clear hK K
            try simp only [Act.put, List.getElem_toArray, List.getElem_cons_succ, List.getElem_cons_zero, List.setIfInBounds_toArray, List.set_cons_zero, List.set_cons_succ]
            refine wpAnyH_ready (rs := [6]) (by kernel_rfl) (by simp) ?_
            refine AllReadyH.cons rfl (fun K hK => ?_) ?_
            · rw [if_pos (by rfl)]
              refine wp_store_row 23 _ _ rfl g8 #[.int .i64 k, .int .i64 wk, .int .i64 d] rfl rfl _ _ h8.out szDay (by kernel_rfl) (by kernel_rfl) ?_
              replace h8 := Bx.hrow h8 k wk d; replace h9 := Bx.hrowO h9 #[.int .i64 k, .int .i64 wk, .int .i64 d] (Ne.symm ne89); replace HC := Gs.hrow HC le8 #[.int .i64 k, .int .i64 wk, .int .i64 d] hz0; replace hs := Cs.hrow hs #[.int .i64 k, .int .i64 wk, .int .i64 d] (Nat.ne_of_lt nb8)
              generalize w18.setRow g8 #[.int .i64 k, .int .i64 wk, .int .i64 d] = w19 at *
              refine hK.out _ _ hs.out (fun _ => ?_)
              clear hK K
              try simp only [Act.put, List.getElem_toArray, List.getElem_cons_succ, List.getElem_cons_zero, List.setIfInBounds_toArray, List.set_cons_zero, List.set_cons_succ]
              refine wpAnyH_ready (rs := [7]) (by kernel_rfl) (by simp) ?_
              refine AllReadyH.cons rfl (fun K hK => ?_) ?_
              · rw [if_pos (by rfl)]
                refine wp_store_row 23 _ _ rfl g9 #[.int .i64 k, .int .i64 wk, .int .i64 d] rfl rfl _ _ h9.out szDay (by kernel_rfl) (by kernel_rfl) ?_
                replace h9 := Bx.hrow h9 k wk d; replace h8 := Bx.hrowO h8 #[.int .i64 k, .int .i64 wk, .int .i64 d] ne89; replace HC := Gs.hrow HC le9 #[.int .i64 k, .int .i64 wk, .int .i64 d] hz0; replace hs := Cs.hrow hs #[.int .i64 k, .int .i64 wk, .int .i64 d] (Nat.ne_of_lt nb9)
                generalize w19.setRow g9 #[.int .i64 k, .int .i64 wk, .int .i64 d] = w20 at *
                refine hK.out _ _ hs.out (fun _ => ?_)
                clear hK K
                try simp only [Act.put, List.getElem_toArray, List.getElem_cons_succ, List.getElem_cons_zero, List.setIfInBounds_toArray, List.set_cons_zero, List.set_cons_succ]
                refine wpAnyH_done (by kernel_rfl) ?_ _
                go_wp2_with fail
                go_meet
                exact ⟨g8, g9, rfl, rfl, le8, le9, ne89, HC.out, h8.out, h9.out⟩
              exact AllReadyH.nil
            exact AllReadyH.nil
          exact AllReadyH.nil
        exact AllReadyH.nil
      refine AllReadyH.cons rfl (fun K hK => ?_) ?_
      · go_simp
        have le8 := HC.out.1.size
        have nb8 := cell_lt (hs.out.at 0 rfl)
        have h8 := Lib.hid (Bx.new w11 0 0 0); replace HC := Gs.hal HC (.cells #[.int .i64 0, .int .i64 0, .int .i64 0] 23); replace hs := Cs.hal hs (.cells #[.int .i64 0, .int .i64 0, .int .i64 0] 23)
        generalize w11.alloc (.cells #[.int .i64 0, .int .i64 0, .int .i64 0] 23) = w21 at *
        generalize w11.heap.size = g8 at *
        refine hK.out _ _ hs.out (fun _ => ?_)
        clear hK K
        try simp only [Act.put, List.getElem_toArray, List.getElem_cons_succ, List.getElem_cons_zero, List.setIfInBounds_toArray, List.set_cons_zero, List.set_cons_succ]
        refine wpAnyH_ready (rs := [3, 5]) (by kernel_rfl) (by simp) ?_
        refine AllReadyH.cons rfl (fun K hK => ?_) ?_
        · go_simp
          refine (made_at _ _ _ _ _ _ BD.out.1 BD.out.2.1 BD.out.2.2 H.out.1 H.out.2.1 H.out.2.2 _).mono ?_; rintro e w22 ⟨rfl, hb⟩
          replace HC := Gs.hbl HC hb; replace hs := Cs.hbl hs hb; replace h8 := Bx.hbl h8 hb; clear hb
          refine hK.out _ _ hs.out (fun _ => ?_)
          clear hK K
          try simp only [Act.put, List.getElem_toArray, List.getElem_cons_succ, List.getElem_cons_zero, List.setIfInBounds_toArray, List.set_cons_zero, List.set_cons_succ]
          refine wpAnyH_ready (rs := [5]) (by kernel_rfl) (by simp) ?_
          refine AllReadyH.cons rfl (fun K hK => ?_) ?_
          · go_simp
            have le9 := HC.out.1.size
            have nb9 := cell_lt (hs.out.at 0 rfl)
            have ne89 := h8.out.older
            have h9 := Lib.hid (Bx.new w22 0 0 0); replace HC := Gs.hal HC (.cells #[.int .i64 0, .int .i64 0, .int .i64 0] 23); replace hs := Cs.hal hs (.cells #[.int .i64 0, .int .i64 0, .int .i64 0] 23); replace h8 := Bx.hal h8 (.cells #[.int .i64 0, .int .i64 0, .int .i64 0] 23)
            generalize w22.alloc (.cells #[.int .i64 0, .int .i64 0, .int .i64 0] 23) = w23 at *
            generalize w22.heap.size = g9 at *
            refine hK.out _ _ hs.out (fun _ => ?_)
            clear hK K
            try simp only [Act.put, List.getElem_toArray, List.getElem_cons_succ, List.getElem_cons_zero, List.setIfInBounds_toArray, List.set_cons_zero, List.set_cons_succ]
            refine wpAnyH_ready (rs := [6]) (by kernel_rfl) (by simp) ?_
            refine AllReadyH.cons rfl (fun K hK => ?_) ?_
            · rw [if_pos (by rfl)]
              refine wp_store_row 23 _ _ rfl g8 #[.int .i64 k, .int .i64 wk, .int .i64 d] rfl rfl _ _ h8.out szDay (by kernel_rfl) (by kernel_rfl) ?_
              replace h8 := Bx.hrow h8 k wk d; replace h9 := Bx.hrowO h9 #[.int .i64 k, .int .i64 wk, .int .i64 d] (Ne.symm ne89); replace HC := Gs.hrow HC le8 #[.int .i64 k, .int .i64 wk, .int .i64 d] hz0; replace hs := Cs.hrow hs #[.int .i64 k, .int .i64 wk, .int .i64 d] (Nat.ne_of_lt nb8)
              generalize w23.setRow g8 #[.int .i64 k, .int .i64 wk, .int .i64 d] = w24 at *
              refine hK.out _ _ hs.out (fun _ => ?_)
              clear hK K
              try simp only [Act.put, List.getElem_toArray, List.getElem_cons_succ, List.getElem_cons_zero, List.setIfInBounds_toArray, List.set_cons_zero, List.set_cons_succ]
              refine wpAnyH_ready (rs := [7]) (by kernel_rfl) (by simp) ?_
              refine AllReadyH.cons rfl (fun K hK => ?_) ?_
              · rw [if_pos (by rfl)]
                refine wp_store_row 23 _ _ rfl g9 #[.int .i64 k, .int .i64 wk, .int .i64 d] rfl rfl _ _ h9.out szDay (by kernel_rfl) (by kernel_rfl) ?_
                replace h9 := Bx.hrow h9 k wk d; replace h8 := Bx.hrowO h8 #[.int .i64 k, .int .i64 wk, .int .i64 d] ne89; replace HC := Gs.hrow HC le9 #[.int .i64 k, .int .i64 wk, .int .i64 d] hz0; replace hs := Cs.hrow hs #[.int .i64 k, .int .i64 wk, .int .i64 d] (Nat.ne_of_lt nb9)
                generalize w24.setRow g9 #[.int .i64 k, .int .i64 wk, .int .i64 d] = w25 at *
                refine hK.out _ _ hs.out (fun _ => ?_)
                clear hK K
                try simp only [Act.put, List.getElem_toArray, List.getElem_cons_succ, List.getElem_cons_zero, List.setIfInBounds_toArray, List.set_cons_zero, List.set_cons_succ]
                refine wpAnyH_done (by kernel_rfl) ?_ _
                go_wp2_with fail
                go_meet
                exact ⟨g8, g9, rfl, rfl, le8, le9, ne89, HC.out, h8.out, h9.out⟩
              exact AllReadyH.nil
            exact AllReadyH.nil
          exact AllReadyH.nil
        refine AllReadyH.cons rfl (fun K hK => ?_) ?_
        · go_simp
          have le9 := HC.out.1.size
          have nb9 := cell_lt (hs.out.at 0 rfl)
          have ne89 := h8.out.older
          have h9 := Lib.hid (Bx.new w21 0 0 0); replace HC := Gs.hal HC (.cells #[.int .i64 0, .int .i64 0, .int .i64 0] 23); replace hs := Cs.hal hs (.cells #[.int .i64 0, .int .i64 0, .int .i64 0] 23); replace h8 := Bx.hal h8 (.cells #[.int .i64 0, .int .i64 0, .int .i64 0] 23)
          generalize w21.alloc (.cells #[.int .i64 0, .int .i64 0, .int .i64 0] 23) = w26 at *
          generalize w21.heap.size = g9 at *
          refine hK.out _ _ hs.out (fun _ => ?_)
          clear hK K
          try simp only [Act.put, List.getElem_toArray, List.getElem_cons_succ, List.getElem_cons_zero, List.setIfInBounds_toArray, List.set_cons_zero, List.set_cons_succ]
          refine wpAnyH_ready (rs := [3]) (by kernel_rfl) (by simp) ?_
          refine AllReadyH.cons rfl (fun K hK => ?_) ?_
          · go_simp
            refine (made_at _ _ _ _ _ _ BD.out.1 BD.out.2.1 BD.out.2.2 H.out.1 H.out.2.1 H.out.2.2 _).mono ?_; rintro e w27 ⟨rfl, hb⟩
            replace HC := Gs.hbl HC hb; replace hs := Cs.hbl hs hb; replace h8 := Bx.hbl h8 hb; replace h9 := Bx.hbl h9 hb; clear hb
            refine hK.out _ _ hs.out (fun _ => ?_)
            clear hK K
            try simp only [Act.put, List.getElem_toArray, List.getElem_cons_succ, List.getElem_cons_zero, List.setIfInBounds_toArray, List.set_cons_zero, List.set_cons_succ]
            refine wpAnyH_ready (rs := [6]) (by kernel_rfl) (by simp) ?_
            refine AllReadyH.cons rfl (fun K hK => ?_) ?_
            · rw [if_pos (by rfl)]
              refine wp_store_row 23 _ _ rfl g8 #[.int .i64 k, .int .i64 wk, .int .i64 d] rfl rfl _ _ h8.out szDay (by kernel_rfl) (by kernel_rfl) ?_
              replace h8 := Bx.hrow h8 k wk d; replace h9 := Bx.hrowO h9 #[.int .i64 k, .int .i64 wk, .int .i64 d] (Ne.symm ne89); replace HC := Gs.hrow HC le8 #[.int .i64 k, .int .i64 wk, .int .i64 d] hz0; replace hs := Cs.hrow hs #[.int .i64 k, .int .i64 wk, .int .i64 d] (Nat.ne_of_lt nb8)
              generalize w27.setRow g8 #[.int .i64 k, .int .i64 wk, .int .i64 d] = w28 at *
              refine hK.out _ _ hs.out (fun _ => ?_)
              clear hK K
              try simp only [Act.put, List.getElem_toArray, List.getElem_cons_succ, List.getElem_cons_zero, List.setIfInBounds_toArray, List.set_cons_zero, List.set_cons_succ]
              refine wpAnyH_ready (rs := [7]) (by kernel_rfl) (by simp) ?_
              refine AllReadyH.cons rfl (fun K hK => ?_) ?_
              · rw [if_pos (by rfl)]
                refine wp_store_row 23 _ _ rfl g9 #[.int .i64 k, .int .i64 wk, .int .i64 d] rfl rfl _ _ h9.out szDay (by kernel_rfl) (by kernel_rfl) ?_
                replace h9 := Bx.hrow h9 k wk d; replace h8 := Bx.hrowO h8 #[.int .i64 k, .int .i64 wk, .int .i64 d] ne89; replace HC := Gs.hrow HC le9 #[.int .i64 k, .int .i64 wk, .int .i64 d] hz0; replace hs := Cs.hrow hs #[.int .i64 k, .int .i64 wk, .int .i64 d] (Nat.ne_of_lt nb9)
                generalize w28.setRow g9 #[.int .i64 k, .int .i64 wk, .int .i64 d] = w29 at *
                refine hK.out _ _ hs.out (fun _ => ?_)
                clear hK K
                try simp only [Act.put, List.getElem_toArray, List.getElem_cons_succ, List.getElem_cons_zero, List.setIfInBounds_toArray, List.set_cons_zero, List.set_cons_succ]
                refine wpAnyH_done (by kernel_rfl) ?_ _
                go_wp2_with fail
                go_meet
                exact ⟨g8, g9, rfl, rfl, le8, le9, ne89, HC.out, h8.out, h9.out⟩
              exact AllReadyH.nil
            exact AllReadyH.nil
          exact AllReadyH.nil
        exact AllReadyH.nil
      refine AllReadyH.cons rfl (fun K hK => ?_) ?_
      · go_simp
        have le9 := HC.out.1.size
        have nb9 := cell_lt (hs.out.at 0 rfl)
        have h9 := Lib.hid (Bx.new w11 0 0 0); replace HC := Gs.hal HC (.cells #[.int .i64 0, .int .i64 0, .int .i64 0] 23); replace hs := Cs.hal hs (.cells #[.int .i64 0, .int .i64 0, .int .i64 0] 23)
        generalize w11.alloc (.cells #[.int .i64 0, .int .i64 0, .int .i64 0] 23) = w30 at *
        generalize w11.heap.size = g9 at *
        refine hK.out _ _ hs.out (fun _ => ?_)
        clear hK K
        try simp only [Act.put, List.getElem_toArray, List.getElem_cons_succ, List.getElem_cons_zero, List.setIfInBounds_toArray, List.set_cons_zero, List.set_cons_succ]
        refine wpAnyH_ready (rs := [3, 4]) (by kernel_rfl) (by simp) ?_
        refine AllReadyH.cons rfl (fun K hK => ?_) ?_
        · go_simp
          refine (made_at _ _ _ _ _ _ BD.out.1 BD.out.2.1 BD.out.2.2 H.out.1 H.out.2.1 H.out.2.2 _).mono ?_; rintro e w31 ⟨rfl, hb⟩
          replace HC := Gs.hbl HC hb; replace hs := Cs.hbl hs hb; replace h9 := Bx.hbl h9 hb; clear hb
          refine hK.out _ _ hs.out (fun _ => ?_)
          clear hK K
          try simp only [Act.put, List.getElem_toArray, List.getElem_cons_succ, List.getElem_cons_zero, List.setIfInBounds_toArray, List.set_cons_zero, List.set_cons_succ]
          refine wpAnyH_ready (rs := [4]) (by kernel_rfl) (by simp) ?_
          refine AllReadyH.cons rfl (fun K hK => ?_) ?_
          · go_simp
            have le8 := HC.out.1.size
            have nb8 := cell_lt (hs.out.at 0 rfl)
            have ne89 := h9.out.newer
            have h8 := Lib.hid (Bx.new w31 0 0 0); replace HC := Gs.hal HC (.cells #[.int .i64 0, .int .i64 0, .int .i64 0] 23); replace hs := Cs.hal hs (.cells #[.int .i64 0, .int .i64 0, .int .i64 0] 23); replace h9 := Bx.hal h9 (.cells #[.int .i64 0, .int .i64 0, .int .i64 0] 23)
            generalize w31.alloc (.cells #[.int .i64 0, .int .i64 0, .int .i64 0] 23) = w32 at *
            generalize w31.heap.size = g8 at *
            refine hK.out _ _ hs.out (fun _ => ?_)
            clear hK K
            try simp only [Act.put, List.getElem_toArray, List.getElem_cons_succ, List.getElem_cons_zero, List.setIfInBounds_toArray, List.set_cons_zero, List.set_cons_succ]
            refine wpAnyH_ready (rs := [6]) (by kernel_rfl) (by simp) ?_
            refine AllReadyH.cons rfl (fun K hK => ?_) ?_
            · rw [if_pos (by rfl)]
              refine wp_store_row 23 _ _ rfl g8 #[.int .i64 k, .int .i64 wk, .int .i64 d] rfl rfl _ _ h8.out szDay (by kernel_rfl) (by kernel_rfl) ?_
              replace h8 := Bx.hrow h8 k wk d; replace h9 := Bx.hrowO h9 #[.int .i64 k, .int .i64 wk, .int .i64 d] (Ne.symm ne89); replace HC := Gs.hrow HC le8 #[.int .i64 k, .int .i64 wk, .int .i64 d] hz0; replace hs := Cs.hrow hs #[.int .i64 k, .int .i64 wk, .int .i64 d] (Nat.ne_of_lt nb8)
              generalize w32.setRow g8 #[.int .i64 k, .int .i64 wk, .int .i64 d] = w33 at *
              refine hK.out _ _ hs.out (fun _ => ?_)
              clear hK K
              try simp only [Act.put, List.getElem_toArray, List.getElem_cons_succ, List.getElem_cons_zero, List.setIfInBounds_toArray, List.set_cons_zero, List.set_cons_succ]
              refine wpAnyH_ready (rs := [7]) (by kernel_rfl) (by simp) ?_
              refine AllReadyH.cons rfl (fun K hK => ?_) ?_
              · rw [if_pos (by rfl)]
                refine wp_store_row 23 _ _ rfl g9 #[.int .i64 k, .int .i64 wk, .int .i64 d] rfl rfl _ _ h9.out szDay (by kernel_rfl) (by kernel_rfl) ?_
                replace h9 := Bx.hrow h9 k wk d; replace h8 := Bx.hrowO h8 #[.int .i64 k, .int .i64 wk, .int .i64 d] ne89; replace HC := Gs.hrow HC le9 #[.int .i64 k, .int .i64 wk, .int .i64 d] hz0; replace hs := Cs.hrow hs #[.int .i64 k, .int .i64 wk, .int .i64 d] (Nat.ne_of_lt nb9)
                generalize w33.setRow g9 #[.int .i64 k, .int .i64 wk, .int .i64 d] = w34 at *
                refine hK.out _ _ hs.out (fun _ => ?_)
                clear hK K
                try simp only [Act.put, List.getElem_toArray, List.getElem_cons_succ, List.getElem_cons_zero, List.setIfInBounds_toArray, List.set_cons_zero, List.set_cons_succ]
                refine wpAnyH_done (by kernel_rfl) ?_ _
                go_wp2_with fail
                go_meet
                exact ⟨g8, g9, rfl, rfl, le8, le9, ne89, HC.out, h8.out, h9.out⟩
              exact AllReadyH.nil
            exact AllReadyH.nil
          exact AllReadyH.nil
        refine AllReadyH.cons rfl (fun K hK => ?_) ?_
        · go_simp
          have le8 := HC.out.1.size
          have nb8 := cell_lt (hs.out.at 0 rfl)
          have ne89 := h9.out.newer
          have h8 := Lib.hid (Bx.new w30 0 0 0); replace HC := Gs.hal HC (.cells #[.int .i64 0, .int .i64 0, .int .i64 0] 23); replace hs := Cs.hal hs (.cells #[.int .i64 0, .int .i64 0, .int .i64 0] 23); replace h9 := Bx.hal h9 (.cells #[.int .i64 0, .int .i64 0, .int .i64 0] 23)
          generalize w30.alloc (.cells #[.int .i64 0, .int .i64 0, .int .i64 0] 23) = w35 at *
          generalize w30.heap.size = g8 at *
          refine hK.out _ _ hs.out (fun _ => ?_)
          clear hK K
          try simp only [Act.put, List.getElem_toArray, List.getElem_cons_succ, List.getElem_cons_zero, List.setIfInBounds_toArray, List.set_cons_zero, List.set_cons_succ]
          refine wpAnyH_ready (rs := [3]) (by kernel_rfl) (by simp) ?_
          refine AllReadyH.cons rfl (fun K hK => ?_) ?_
          · go_simp
            refine (made_at _ _ _ _ _ _ BD.out.1 BD.out.2.1 BD.out.2.2 H.out.1 H.out.2.1 H.out.2.2 _).mono ?_; rintro e w36 ⟨rfl, hb⟩
            replace HC := Gs.hbl HC hb; replace hs := Cs.hbl hs hb; replace h8 := Bx.hbl h8 hb; replace h9 := Bx.hbl h9 hb; clear hb
            refine hK.out _ _ hs.out (fun _ => ?_)
            clear hK K
            try simp only [Act.put, List.getElem_toArray, List.getElem_cons_succ, List.getElem_cons_zero, List.setIfInBounds_toArray, List.set_cons_zero, List.set_cons_succ]
            refine wpAnyH_ready (rs := [6]) (by kernel_rfl) (by simp) ?_
            refine AllReadyH.cons rfl (fun K hK => ?_) ?_
            · rw [if_pos (by rfl)]
              refine wp_store_row 23 _ _ rfl g8 #[.int .i64 k, .int .i64 wk, .int .i64 d] rfl rfl _ _ h8.out szDay (by kernel_rfl) (by kernel_rfl) ?_
              replace h8 := Bx.hrow h8 k wk d; replace h9 := Bx.hrowO h9 #[.int .i64 k, .int .i64 wk, .int .i64 d] (Ne.symm ne89); replace HC := Gs.hrow HC le8 #[.int .i64 k, .int .i64 wk, .int .i64 d] hz0; replace hs := Cs.hrow hs #[.int .i64 k, .int .i64 wk, .int .i64 d] (Nat.ne_of_lt nb8)
              generalize w36.setRow g8 #[.int .i64 k, .int .i64 wk, .int .i64 d] = w37 at *
              refine hK.out _ _ hs.out (fun _ => ?_)
              clear hK K
              try simp only [Act.put, List.getElem_toArray, List.getElem_cons_succ, List.getElem_cons_zero, List.setIfInBounds_toArray, List.set_cons_zero, List.set_cons_succ]
              refine wpAnyH_ready (rs := [7]) (by kernel_rfl) (by simp) ?_
              refine AllReadyH.cons rfl (fun K hK => ?_) ?_
              · rw [if_pos (by rfl)]
                refine wp_store_row 23 _ _ rfl g9 #[.int .i64 k, .int .i64 wk, .int .i64 d] rfl rfl _ _ h9.out szDay (by kernel_rfl) (by kernel_rfl) ?_
                replace h9 := Bx.hrow h9 k wk d; replace h8 := Bx.hrowO h8 #[.int .i64 k, .int .i64 wk, .int .i64 d] ne89; replace HC := Gs.hrow HC le9 #[.int .i64 k, .int .i64 wk, .int .i64 d] hz0; replace hs := Cs.hrow hs #[.int .i64 k, .int .i64 wk, .int .i64 d] (Nat.ne_of_lt nb9)
                generalize w37.setRow g9 #[.int .i64 k, .int .i64 wk, .int .i64 d] = w38 at *
                refine hK.out _ _ hs.out (fun _ => ?_)
                clear hK K
                try simp only [Act.put, List.getElem_toArray, List.getElem_cons_succ, List.getElem_cons_zero, List.setIfInBounds_toArray, List.set_cons_zero, List.set_cons_succ]
                refine wpAnyH_done (by kernel_rfl) ?_ _
                go_wp2_with fail
                go_meet
                exact ⟨g8, g9, rfl, rfl, le8, le9, ne89, HC.out, h8.out, h9.out⟩
              exact AllReadyH.nil
            exact AllReadyH.nil
          exact AllReadyH.nil
        exact AllReadyH.nil
      exact AllReadyH.nil
    refine AllReadyH.cons rfl (fun K hK => ?_) ?_
    · go_simp
      have le8 := HC.out.1.size
      have nb8 := cell_lt (hs.out.at 0 rfl)
      have h8 := Lib.hid (Bx.new w2 0 0 0); replace HC := Gs.hal HC (.cells #[.int .i64 0, .int .i64 0, .int .i64 0] 23); replace hs := Cs.hal hs (.cells #[.int .i64 0, .int .i64 0, .int .i64 0] 23)
      generalize w2.alloc (.cells #[.int .i64 0, .int .i64 0, .int .i64 0] 23) = w39 at *
      generalize w2.heap.size = g8 at *
      refine hK.out _ _ hs.out (fun _ => ?_)
      clear hK K
      try simp only [Act.put, List.getElem_toArray, List.getElem_cons_succ, List.getElem_cons_zero, List.setIfInBounds_toArray, List.set_cons_zero, List.set_cons_succ]
      refine wpAnyH_ready (rs := [1, 5]) (by kernel_rfl) (by simp) ?_
      refine AllReadyH.cons rfl (fun K hK => ?_) ?_
      · go_simp
        refine (made_at _ _ _ _ _ _ BD.out.1 BD.out.2.1 BD.out.2.2 H.out.1 H.out.2.1 H.out.2.2 _).mono ?_; rintro e w40 ⟨rfl, hb⟩
        replace HC := Gs.hbl HC hb; replace hs := Cs.hbl hs hb; replace h8 := Bx.hbl h8 hb; clear hb
        refine hK.out _ _ hs.out (fun _ => ?_)
        clear hK K
        try simp only [Act.put, List.getElem_toArray, List.getElem_cons_succ, List.getElem_cons_zero, List.setIfInBounds_toArray, List.set_cons_zero, List.set_cons_succ]
        refine wpAnyH_ready (rs := [3, 5]) (by kernel_rfl) (by simp) ?_
        refine AllReadyH.cons rfl (fun K hK => ?_) ?_
        · go_simp
          refine (made_at _ _ _ _ _ _ BD.out.1 BD.out.2.1 BD.out.2.2 H.out.1 H.out.2.1 H.out.2.2 _).mono ?_; rintro e w41 ⟨rfl, hb⟩
          replace HC := Gs.hbl HC hb; replace hs := Cs.hbl hs hb; replace h8 := Bx.hbl h8 hb; clear hb
          refine hK.out _ _ hs.out (fun _ => ?_)
          clear hK K
          try simp only [Act.put, List.getElem_toArray, List.getElem_cons_succ, List.getElem_cons_zero, List.setIfInBounds_toArray, List.set_cons_zero, List.set_cons_succ]
          refine wpAnyH_ready (rs := [5]) (by kernel_rfl) (by simp) ?_
          refine AllReadyH.cons rfl (fun K hK => ?_) ?_
          · go_simp
            have le9 := HC.out.1.size
            have nb9 := cell_lt (hs.out.at 0 rfl)
            have ne89 := h8.out.older
            have h9 := Lib.hid (Bx.new w41 0 0 0); replace HC := Gs.hal HC (.cells #[.int .i64 0, .int .i64 0, .int .i64 0] 23); replace hs := Cs.hal hs (.cells #[.int .i64 0, .int .i64 0, .int .i64 0] 23); replace h8 := Bx.hal h8 (.cells #[.int .i64 0, .int .i64 0, .int .i64 0] 23)
            generalize w41.alloc (.cells #[.int .i64 0, .int .i64 0, .int .i64 0] 23) = w42 at *
            generalize w41.heap.size = g9 at *
            refine hK.out _ _ hs.out (fun _ => ?_)
            clear hK K
            try simp only [Act.put, List.getElem_toArray, List.getElem_cons_succ, List.getElem_cons_zero, List.setIfInBounds_toArray, List.set_cons_zero, List.set_cons_succ]
            refine wpAnyH_ready (rs := [6]) (by kernel_rfl) (by simp) ?_
            refine AllReadyH.cons rfl (fun K hK => ?_) ?_
            · rw [if_pos (by rfl)]
              refine wp_store_row 23 _ _ rfl g8 #[.int .i64 k, .int .i64 wk, .int .i64 d] rfl rfl _ _ h8.out szDay (by kernel_rfl) (by kernel_rfl) ?_
              replace h8 := Bx.hrow h8 k wk d; replace h9 := Bx.hrowO h9 #[.int .i64 k, .int .i64 wk, .int .i64 d] (Ne.symm ne89); replace HC := Gs.hrow HC le8 #[.int .i64 k, .int .i64 wk, .int .i64 d] hz0; replace hs := Cs.hrow hs #[.int .i64 k, .int .i64 wk, .int .i64 d] (Nat.ne_of_lt nb8)
              generalize w42.setRow g8 #[.int .i64 k, .int .i64 wk, .int .i64 d] = w43 at *
              refine hK.out _ _ hs.out (fun _ => ?_)
              clear hK K
              try simp only [Act.put, List.getElem_toArray, List.getElem_cons_succ, List.getElem_cons_zero, List.setIfInBounds_toArray, List.set_cons_zero, List.set_cons_succ]
              refine wpAnyH_ready (rs := [7]) (by kernel_rfl) (by simp) ?_
              refine AllReadyH.cons rfl (fun K hK => ?_) ?_
              · rw [if_pos (by rfl)]
                refine wp_store_row 23 _ _ rfl g9 #[.int .i64 k, .int .i64 wk, .int .i64 d] rfl rfl _ _ h9.out szDay (by kernel_rfl) (by kernel_rfl) ?_
                replace h9 := Bx.hrow h9 k wk d; replace h8 := Bx.hrowO h8 #[.int .i64 k, .int .i64 wk, .int .i64 d] ne89; replace HC := Gs.hrow HC le9 #[.int .i64 k, .int .i64 wk, .int .i64 d] hz0; replace hs := Cs.hrow hs #[.int .i64 k, .int .i64 wk, .int .i64 d] (Nat.ne_of_lt nb9)
                generalize w43.setRow g9 #[.int .i64 k, .int .i64 wk, .int .i64 d] = w44 at *
                refine hK.out _ _ hs.out (fun _ => ?_)
                clear hK K
                try simp only [Act.put, List.getElem_toArray, List.getElem_cons_succ, List.getElem_cons_zero, List.setIfInBounds_toArray, List.set_cons_zero, List.set_cons_succ]
                refine wpAnyH_done (by kernel_rfl) ?_ _
                go_wp2_with fail
                go_meet
                exact ⟨g8, g9, rfl, rfl, le8, le9, ne89, HC.out, h8.out, h9.out⟩
              exact AllReadyH.nil
            exact AllReadyH.nil
          exact AllReadyH.nil
        refine AllReadyH.cons rfl (fun K hK => ?_) ?_
        · go_simp
          have le9 := HC.out.1.size
          have nb9 := cell_lt (hs.out.at 0 rfl)
          have ne89 := h8.out.older
          have h9 := Lib.hid (Bx.new w40 0 0 0); replace HC := Gs.hal HC (.cells #[.int .i64 0, .int .i64 0, .int .i64 0] 23); replace hs := Cs.hal hs (.cells #[.int .i64 0, .int .i64 0, .int .i64 0] 23); replace h8 := Bx.hal h8 (.cells #[.int .i64 0, .int .i64 0, .int .i64 0] 23)
          generalize w40.alloc (.cells #[.int .i64 0, .int .i64 0, .int .i64 0] 23) = w45 at *
          generalize w40.heap.size = g9 at *
          refine hK.out _ _ hs.out (fun _ => ?_)
          clear hK K
          try simp only [Act.put, List.getElem_toArray, List.getElem_cons_succ, List.getElem_cons_zero, List.setIfInBounds_toArray, List.set_cons_zero, List.set_cons_succ]
          refine wpAnyH_ready (rs := [3]) (by kernel_rfl) (by simp) ?_
          refine AllReadyH.cons rfl (fun K hK => ?_) ?_
          · go_simp
            refine (made_at _ _ _ _ _ _ BD.out.1 BD.out.2.1 BD.out.2.2 H.out.1 H.out.2.1 H.out.2.2 _).mono ?_; rintro e w46 ⟨rfl, hb⟩
            replace HC := Gs.hbl HC hb; replace hs := Cs.hbl hs hb; replace h8 := Bx.hbl h8 hb; replace h9 := Bx.hbl h9 hb; clear hb
            refine hK.out _ _ hs.out (fun _ => ?_)
            clear hK K
            try simp only [Act.put, List.getElem_toArray, List.getElem_cons_succ, List.getElem_cons_zero, List.setIfInBounds_toArray, List.set_cons_zero, List.set_cons_succ]
            refine wpAnyH_ready (rs := [6]) (by kernel_rfl) (by simp) ?_
            refine AllReadyH.cons rfl (fun K hK => ?_) ?_
            · rw [if_pos (by rfl)]
              refine wp_store_row 23 _ _ rfl g8 #[.int .i64 k, .int .i64 wk, .int .i64 d] rfl rfl _ _ h8.out szDay (by kernel_rfl) (by kernel_rfl) ?_
              replace h8 := Bx.hrow h8 k wk d; replace h9 := Bx.hrowO h9 #[.int .i64 k, .int .i64 wk, .int .i64 d] (Ne.symm ne89); replace HC := Gs.hrow HC le8 #[.int .i64 k, .int .i64 wk, .int .i64 d] hz0; replace hs := Cs.hrow hs #[.int .i64 k, .int .i64 wk, .int .i64 d] (Nat.ne_of_lt nb8)
              generalize w46.setRow g8 #[.int .i64 k, .int .i64 wk, .int .i64 d] = w47 at *
              refine hK.out _ _ hs.out (fun _ => ?_)
              clear hK K
              try simp only [Act.put, List.getElem_toArray, List.getElem_cons_succ, List.getElem_cons_zero, List.setIfInBounds_toArray, List.set_cons_zero, List.set_cons_succ]
              refine wpAnyH_ready (rs := [7]) (by kernel_rfl) (by simp) ?_
              refine AllReadyH.cons rfl (fun K hK => ?_) ?_
              · rw [if_pos (by rfl)]
                refine wp_store_row 23 _ _ rfl g9 #[.int .i64 k, .int .i64 wk, .int .i64 d] rfl rfl _ _ h9.out szDay (by kernel_rfl) (by kernel_rfl) ?_
                replace h9 := Bx.hrow h9 k wk d; replace h8 := Bx.hrowO h8 #[.int .i64 k, .int .i64 wk, .int .i64 d] ne89; replace HC := Gs.hrow HC le9 #[.int .i64 k, .int .i64 wk, .int .i64 d] hz0; replace hs := Cs.hrow hs #[.int .i64 k, .int .i64 wk, .int .i64 d] (Nat.ne_of_lt nb9)
                generalize w47.setRow g9 #[.int .i64 k, .int .i64 wk, .int .i64 d] = w48 at *
                refine hK.out _ _ hs.out (fun _ => ?_)
                clear hK K
                try simp only [Act.put, List.getElem_toArray, List.getElem_cons_succ, List.getElem_cons_zero, List.setIfInBounds_toArray, List.set_cons_zero, List.set_cons_succ]
                refine wpAnyH_done (by kernel_rfl) ?_ _
                go_wp2_with fail
                go_meet
                exact ⟨g8, g9, rfl, rfl, le8, le9, ne89, HC.out, h8.out, h9.out⟩
              exact AllReadyH.nil
            exact AllReadyH.nil
          exact AllReadyH.nil
        exact AllReadyH.nil
      refine AllReadyH.cons rfl (fun K hK => ?_) ?_
      · go_simp
        have le9 := HC.out.1.size
        have nb9 := cell_lt (hs.out.at 0 rfl)
        have ne89 := h8.out.older
        have h9 := Lib.hid (Bx.new w39 0 0 0); replace HC := Gs.hal HC (.cells #[.int .i64 0, .int .i64 0, .int .i64 0] 23); replace hs := Cs.hal hs (.cells #[.int .i64 0, .int .i64 0, .int .i64 0] 23); replace h8 := Bx.hal h8 (.cells #[.int .i64 0, .int .i64 0, .int .i64 0] 23)
        generalize w39.alloc (.cells #[.int .i64 0, .int .i64 0, .int .i64 0] 23) = w49 at *
        generalize w39.heap.size = g9 at *
        refine hK.out _ _ hs.out (fun _ => ?_)
        clear hK K
        try simp only [Act.put, List.getElem_toArray, List.getElem_cons_succ, List.getElem_cons_zero, List.setIfInBounds_toArray, List.set_cons_zero, List.set_cons_succ]
        refine wpAnyH_ready (rs := [1]) (by kernel_rfl) (by simp) ?_
        refine AllReadyH.cons rfl (fun K hK => ?_) ?_
        · go_simp
          refine (made_at _ _ _ _ _ _ BD.out.1 BD.out.2.1 BD.out.2.2 H.out.1 H.out.2.1 H.out.2.2 _).mono ?_; rintro e w50 ⟨rfl, hb⟩
          replace HC := Gs.hbl HC hb; replace hs := Cs.hbl hs hb; replace h8 := Bx.hbl h8 hb; replace h9 := Bx.hbl h9 hb; clear hb
          refine hK.out _ _ hs.out (fun _ => ?_)
          clear hK K
          try simp only [Act.put, List.getElem_toArray, List.getElem_cons_succ, List.getElem_cons_zero, List.setIfInBounds_toArray, List.set_cons_zero, List.set_cons_succ]
          refine wpAnyH_ready (rs := [3]) (by kernel_rfl) (by simp) ?_
          refine AllReadyH.cons rfl (fun K hK => ?_) ?_
          · go_simp
            refine (made_at _ _ _ _ _ _ BD.out.1 BD.out.2.1 BD.out.2.2 H.out.1 H.out.2.1 H.out.2.2 _).mono ?_; rintro e w51 ⟨rfl, hb⟩
            replace HC := Gs.hbl HC hb; replace hs := Cs.hbl hs hb; replace h8 := Bx.hbl h8 hb; replace h9 := Bx.hbl h9 hb; clear hb
            refine hK.out _ _ hs.out (fun _ => ?_)
            clear hK K
            try simp only [Act.put, List.getElem_toArray, List.getElem_cons_succ, List.getElem_cons_zero, List.setIfInBounds_toArray, List.set_cons_zero, List.set_cons_succ]
            refine wpAnyH_ready (rs := [6]) (by kernel_rfl) (by simp) ?_
            refine AllReadyH.cons rfl (fun K hK => ?_) ?_
            · rw [if_pos (by rfl)]
              refine wp_store_row 23 _ _ rfl g8 #[.int .i64 k, .int .i64 wk, .int .i64 d] rfl rfl _ _ h8.out szDay (by kernel_rfl) (by kernel_rfl) ?_
              replace h8 := Bx.hrow h8 k wk d; replace h9 := Bx.hrowO h9 #[.int .i64 k, .int .i64 wk, .int .i64 d] (Ne.symm ne89); replace HC := Gs.hrow HC le8 #[.int .i64 k, .int .i64 wk, .int .i64 d] hz0; replace hs := Cs.hrow hs #[.int .i64 k, .int .i64 wk, .int .i64 d] (Nat.ne_of_lt nb8)
              generalize w51.setRow g8 #[.int .i64 k, .int .i64 wk, .int .i64 d] = w52 at *
              refine hK.out _ _ hs.out (fun _ => ?_)
              clear hK K
              try simp only [Act.put, List.getElem_toArray, List.getElem_cons_succ, List.getElem_cons_zero, List.setIfInBounds_toArray, List.set_cons_zero, List.set_cons_succ]
              refine wpAnyH_ready (rs := [7]) (by kernel_rfl) (by simp) ?_
              refine AllReadyH.cons rfl (fun K hK => ?_) ?_
              · rw [if_pos (by rfl)]
                refine wp_store_row 23 _ _ rfl g9 #[.int .i64 k, .int .i64 wk, .int .i64 d] rfl rfl _ _ h9.out szDay (by kernel_rfl) (by kernel_rfl) ?_
                replace h9 := Bx.hrow h9 k wk d; replace h8 := Bx.hrowO h8 #[.int .i64 k, .int .i64 wk, .int .i64 d] ne89; replace HC := Gs.hrow HC le9 #[.int .i64 k, .int .i64 wk, .int .i64 d] hz0; replace hs := Cs.hrow hs #[.int .i64 k, .int .i64 wk, .int .i64 d] (Nat.ne_of_lt nb9)
                generalize w52.setRow g9 #[.int .i64 k, .int .i64 wk, .int .i64 d] = w53 at *
                refine hK.out _ _ hs.out (fun _ => ?_)
                clear hK K
                try simp only [Act.put, List.getElem_toArray, List.getElem_cons_succ, List.getElem_cons_zero, List.setIfInBounds_toArray, List.set_cons_zero, List.set_cons_succ]
                refine wpAnyH_done (by kernel_rfl) ?_ _
                go_wp2_with fail
                go_meet
                exact ⟨g8, g9, rfl, rfl, le8, le9, ne89, HC.out, h8.out, h9.out⟩
              exact AllReadyH.nil
            exact AllReadyH.nil
          exact AllReadyH.nil
        exact AllReadyH.nil
      exact AllReadyH.nil
    refine AllReadyH.cons rfl (fun K hK => ?_) ?_
    · go_simp
      have le9 := HC.out.1.size
      have nb9 := cell_lt (hs.out.at 0 rfl)
      have h9 := Lib.hid (Bx.new w2 0 0 0); replace HC := Gs.hal HC (.cells #[.int .i64 0, .int .i64 0, .int .i64 0] 23); replace hs := Cs.hal hs (.cells #[.int .i64 0, .int .i64 0, .int .i64 0] 23)
      generalize w2.alloc (.cells #[.int .i64 0, .int .i64 0, .int .i64 0] 23) = w54 at *
      generalize w2.heap.size = g9 at *
      refine hK.out _ _ hs.out (fun _ => ?_)
      clear hK K
      try simp only [Act.put, List.getElem_toArray, List.getElem_cons_succ, List.getElem_cons_zero, List.setIfInBounds_toArray, List.set_cons_zero, List.set_cons_succ]
      refine wpAnyH_ready (rs := [1, 4]) (by kernel_rfl) (by simp) ?_
      refine AllReadyH.cons rfl (fun K hK => ?_) ?_
      · go_simp
        refine (made_at _ _ _ _ _ _ BD.out.1 BD.out.2.1 BD.out.2.2 H.out.1 H.out.2.1 H.out.2.2 _).mono ?_; rintro e w55 ⟨rfl, hb⟩
        replace HC := Gs.hbl HC hb; replace hs := Cs.hbl hs hb; replace h9 := Bx.hbl h9 hb; clear hb
        refine hK.out _ _ hs.out (fun _ => ?_)
        clear hK K
        try simp only [Act.put, List.getElem_toArray, List.getElem_cons_succ, List.getElem_cons_zero, List.setIfInBounds_toArray, List.set_cons_zero, List.set_cons_succ]
        refine wpAnyH_ready (rs := [3, 4]) (by kernel_rfl) (by simp) ?_
        refine AllReadyH.cons rfl (fun K hK => ?_) ?_
        · go_simp
          refine (made_at _ _ _ _ _ _ BD.out.1 BD.out.2.1 BD.out.2.2 H.out.1 H.out.2.1 H.out.2.2 _).mono ?_; rintro e w56 ⟨rfl, hb⟩
          replace HC := Gs.hbl HC hb; replace hs := Cs.hbl hs hb; replace h9 := Bx.hbl h9 hb; clear hb
          refine hK.out _ _ hs.out (fun _ => ?_)
          clear hK K
          try simp only [Act.put, List.getElem_toArray, List.getElem_cons_succ, List.getElem_cons_zero, List.setIfInBounds_toArray, List.set_cons_zero, List.set_cons_succ]
          refine wpAnyH_ready (rs := [4]) (by kernel_rfl) (by simp) ?_
          refine AllReadyH.cons rfl (fun K hK => ?_) ?_
          · go_simp
            have le8 := HC.out.1.size
            have nb8 := cell_lt (hs.out.at 0 rfl)
            have ne89 := h9.out.newer
            have h8 := Lib.hid (Bx.new w56 0 0 0); replace HC := Gs.hal HC (.cells #[.int .i64 0, .int .i64 0, .int .i64 0] 23); replace hs := Cs.hal hs (.cells #[.int .i64 0, .int .i64 0, .int .i64 0] 23); replace h9 := Bx.hal h9 (.cells #[.int .i64 0, .int .i64 0, .int .i64 0] 23)
            generalize w56.alloc (.cells #[.int .i64 0, .int .i64 0, .int .i64 0] 23) = w57 at *
            generalize w56.heap.size = g8 at *
            refine hK.out _ _ hs.out (fun _ => ?_)
            clear hK K
            try simp only [Act.put, List.getElem_toArray, List.getElem_cons_succ, List.getElem_cons_zero, List.setIfInBounds_toArray, List.set_cons_zero, List.set_cons_succ]
            refine wpAnyH_ready (rs := [6]) (by kernel_rfl) (by simp) ?_
            refine AllReadyH.cons rfl (fun K hK => ?_) ?_
            · rw [if_pos (by rfl)]
              refine wp_store_row 23 _ _ rfl g8 #[.int .i64 k, .int .i64 wk, .int .i64 d] rfl rfl _ _ h8.out szDay (by kernel_rfl) (by kernel_rfl) ?_
              replace h8 := Bx.hrow h8 k wk d; replace h9 := Bx.hrowO h9 #[.int .i64 k, .int .i64 wk, .int .i64 d] (Ne.symm ne89); replace HC := Gs.hrow HC le8 #[.int .i64 k, .int .i64 wk, .int .i64 d] hz0; replace hs := Cs.hrow hs #[.int .i64 k, .int .i64 wk, .int .i64 d] (Nat.ne_of_lt nb8)
              generalize w57.setRow g8 #[.int .i64 k, .int .i64 wk, .int .i64 d] = w58 at *
              refine hK.out _ _ hs.out (fun _ => ?_)
              clear hK K
              try simp only [Act.put, List.getElem_toArray, List.getElem_cons_succ, List.getElem_cons_zero, List.setIfInBounds_toArray, List.set_cons_zero, List.set_cons_succ]
              refine wpAnyH_ready (rs := [7]) (by kernel_rfl) (by simp) ?_
              refine AllReadyH.cons rfl (fun K hK => ?_) ?_
              · rw [if_pos (by rfl)]
                refine wp_store_row 23 _ _ rfl g9 #[.int .i64 k, .int .i64 wk, .int .i64 d] rfl rfl _ _ h9.out szDay (by kernel_rfl) (by kernel_rfl) ?_
                replace h9 := Bx.hrow h9 k wk d; replace h8 := Bx.hrowO h8 #[.int .i64 k, .int .i64 wk, .int .i64 d] ne89; replace HC := Gs.hrow HC le9 #[.int .i64 k, .int .i64 wk, .int .i64 d] hz0; replace hs := Cs.hrow hs #[.int .i64 k, .int .i64 wk, .int .i64 d] (Nat.ne_of_lt nb9)
                generalize w58.setRow g9 #[.int .i64 k, .int .i64 wk, .int .i64 d] = w59 at *
                refine hK.out _ _ hs.out (fun _ => ?_)
                clear hK K
                try simp only [Act.put, List.getElem_toArray, List.getElem_cons_succ, List.getElem_cons_zero, List.setIfInBounds_toArray, List.set_cons_zero, List.set_cons_succ]
                refine wpAnyH_done (by kernel_rfl) ?_ _
                go_wp2_with fail
                go_meet
                exact ⟨g8, g9, rfl, rfl, le8, le9, ne89, HC.out, h8.out, h9.out⟩
              exact AllReadyH.nil
            exact AllReadyH.nil
          exact AllReadyH.nil
        refine AllReadyH.cons rfl (fun K hK => ?_) ?_
        · go_simp
          have le8 := HC.out.1.size
          have nb8 := cell_lt (hs.out.at 0 rfl)
          have ne89 := h9.out.newer
          have h8 := Lib.hid (Bx.new w55 0 0 0); replace HC := Gs.hal HC (.cells #[.int .i64 0, .int .i64 0, .int .i64 0] 23); replace hs := Cs.hal hs (.cells #[.int .i64 0, .int .i64 0, .int .i64 0] 23); replace h9 := Bx.hal h9 (.cells #[.int .i64 0, .int .i64 0, .int .i64 0] 23)
          generalize w55.alloc (.cells #[.int .i64 0, .int .i64 0, .int .i64 0] 23) = w60 at *
          generalize w55.heap.size = g8 at *
          refine hK.out _ _ hs.out (fun _ => ?_)
          clear hK K
          try simp only [Act.put, List.getElem_toArray, List.getElem_cons_succ, List.getElem_cons_zero, List.setIfInBounds_toArray, List.set_cons_zero, List.set_cons_succ]
          refine wpAnyH_ready (rs := [3]) (by kernel_rfl) (by simp) ?_
          refine AllReadyH.cons rfl (fun K hK => ?_) ?_
          · go_simp
            refine (made_at _ _ _ _ _ _ BD.out.1 BD.out.2.1 BD.out.2.2 H.out.1 H.out.2.1 H.out.2.2 _).mono ?_; rintro e w61 ⟨rfl, hb⟩
            replace HC := Gs.hbl HC hb; replace hs := Cs.hbl hs hb; replace h8 := Bx.hbl h8 hb; replace h9 := Bx.hbl h9 hb; clear hb
            refine hK.out _ _ hs.out (fun _ => ?_)
            clear hK K
            try simp only [Act.put, List.getElem_toArray, List.getElem_cons_succ, List.getElem_cons_zero, List.setIfInBounds_toArray, List.set_cons_zero, List.set_cons_succ]
            refine wpAnyH_ready (rs := [6]) (by kernel_rfl) (by simp) ?_
            refine AllReadyH.cons rfl (fun K hK => ?_) ?_
            · rw [if_pos (by rfl)]
              refine wp_store_row 23 _ _ rfl g8 #[.int .i64 k, .int .i64 wk, .int .i64 d] rfl rfl _ _ h8.out szDay (by kernel_rfl) (by kernel_rfl) ?_
              replace h8 := Bx.hrow h8 k wk d; replace h9 := Bx.hrowO h9 #[.int .i64 k, .int .i64 wk, .int .i64 d] (Ne.symm ne89); replace HC := Gs.hrow HC le8 #[.int .i64 k, .int .i64 wk, .int .i64 d] hz0; replace hs := Cs.hrow hs #[.int .i64 k, .int .i64 wk, .int .i64 d] (Nat.ne_of_lt nb8)
              generalize w61.setRow g8 #[.int .i64 k, .int .i64 wk, .int .i64 d] = w62 at *
              refine hK.out _ _ hs.out (fun _ => ?_)
              clear hK K
              try simp only [Act.put, List.getElem_toArray, List.getElem_cons_succ, List.getElem_cons_zero, List.setIfInBounds_toArray, List.set_cons_zero, List.set_cons_succ]
              refine wpAnyH_ready (rs := [7]) (by kernel_rfl) (by simp) ?_
              refine AllReadyH.cons rfl (fun K hK => ?_) ?_
              · rw [if_pos (by rfl)]
                refine wp_store_row 23 _ _ rfl g9 #[.int .i64 k, .int .i64 wk, .int .i64 d] rfl rfl _ _ h9.out szDay (by kernel_rfl) (by kernel_rfl) ?_
                replace h9 := Bx.hrow h9 k wk d; replace h8 := Bx.hrowO h8 #[.int .i64 k, .int .i64 wk, .int .i64 d] ne89; replace HC := Gs.hrow HC le9 #[.int .i64 k, .int .i64 wk, .int .i64 d] hz0; replace hs := Cs.hrow hs #[.int .i64 k, .int .i64 wk, .int .i64 d] (Nat.ne_of_lt nb9)
                generalize w62.setRow g9 #[.int .i64 k, .int .i64 wk, .int .i64 d] = w63 at *
                refine hK.out _ _ hs.out (fun _ => ?_)
                clear hK K
                try simp only [Act.put, List.getElem_toArray, List.getElem_cons_succ, List.getElem_cons_zero, List.setIfInBounds_toArray, List.set_cons_zero, List.set_cons_succ]
                refine wpAnyH_done (by kernel_rfl) ?_ _
                go_wp2_with fail
                go_meet
                exact ⟨g8, g9, rfl, rfl, le8, le9, ne89, HC.out, h8.out, h9.out⟩
              exact AllReadyH.nil
            exact AllReadyH.nil
          exact AllReadyH.nil
        exact AllReadyH.nil
      refine AllReadyH.cons rfl (fun K hK => ?_) ?_
      · go_simp
        have le8 := HC.out.1.size
        have nb8 := cell_lt (hs.out.at 0 rfl)
        have ne89 := h9.out.newer
        have h8 := Lib.hid (Bx.new w54 0 0 0); replace HC := Gs.hal HC (.cells #[.int .i64 0, .int .i64 0, .int .i64 0] 23); replace hs := Cs.hal hs (.cells #[.int .i64 0, .int .i64 0, .int .i64 0] 23); replace h9 := Bx.hal h9 (.cells #[.int .i64 0, .int .i64 0, .int .i64 0] 23)
        generalize w54.alloc (.cells #[.int .i64 0, .int .i64 0, .int .i64 0] 23) = w64 at *
        generalize w54.heap.size = g8 at *
        refine hK.out _ _ hs.out (fun _ => ?_)
        clear hK K
        try simp only [Act.put, List.getElem_toArray, List.getElem_cons_succ, List.getElem_cons_zero, List.setIfInBounds_toArray, List.set_cons_zero, List.set_cons_succ]
        refine wpAnyH_ready (rs := [1]) (by kernel_rfl) (by simp) ?_
        refine AllReadyH.cons rfl (fun K hK => ?_) ?_
        · go_simp
          refine (made_at _ _ _ _ _ _ BD.out.1 BD.out.2.1 BD.out.2.2 H.out.1 H.out.2.1 H.out.2.2 _).mono ?_; rintro e w65 ⟨rfl, hb⟩
          replace HC := Gs.hbl HC hb; replace hs := Cs.hbl hs hb; replace h8 := Bx.hbl h8 hb; replace h9 := Bx.hbl h9 hb; clear hb
          refine hK.out _ _ hs.out (fun _ => ?_)
          clear hK K
          try simp only [Act.put, List.getElem_toArray, List.getElem_cons_succ, List.getElem_cons_zero, List.setIfInBounds_toArray, List.set_cons_zero, List.set_cons_succ]
          refine wpAnyH_ready (rs := [3]) (by kernel_rfl) (by simp) ?_
          refine AllReadyH.cons rfl (fun K hK => ?_) ?_
          · go_simp
            refine (made_at _ _ _ _ _ _ BD.out.1 BD.out.2.1 BD.out.2.2 H.out.1 H.out.2.1 H.out.2.2 _).mono ?_; rintro e w66 ⟨rfl, hb⟩
            replace HC := Gs.hbl HC hb; replace hs := Cs.hbl hs hb; replace h8 := Bx.hbl h8 hb; replace h9 := Bx.hbl h9 hb; clear hb
            refine hK.out _ _ hs.out (fun _ => ?_)
            clear hK K
            try simp only [Act.put, List.getElem_toArray, List.getElem_cons_succ, List.getElem_cons_zero, List.setIfInBounds_toArray, List.set_cons_zero, List.set_cons_succ]
            refine wpAnyH_ready (rs := [6]) (by kernel_rfl) (by simp) ?_
            refine AllReadyH.cons rfl (fun K hK => ?_) ?_
            · rw [if_pos (by rfl)]
              refine wp_store_row 23 _ _ rfl g8 #[.int .i64 k, .int .i64 wk, .int .i64 d] rfl rfl _ _ h8.out szDay (by kernel_rfl) (by kernel_rfl) ?_
              replace h8 := Bx.hrow h8 k wk d; replace h9 := Bx.hrowO h9 #[.int .i64 k, .int .i64 wk, .int .i64 d] (Ne.symm ne89); replace HC := Gs.hrow HC le8 #[.int .i64 k, .int .i64 wk, .int .i64 d] hz0; replace hs := Cs.hrow hs #[.int .i64 k, .int .i64 wk, .int .i64 d] (Nat.ne_of_lt nb8)
              generalize w66.setRow g8 #[.int .i64 k, .int .i64 wk, .int .i64 d] = w67 at *
              refine hK.out _ _ hs.out (fun _ => ?_)
              clear hK K
              try simp only [Act.put, List.getElem_toArray, List.getElem_cons_succ, List.getElem_cons_zero, List.setIfInBounds_toArray, List.set_cons_zero, List.set_cons_succ]
              refine wpAnyH_ready (rs := [7]) (by kernel_rfl) (by simp) ?_
              refine AllReadyH.cons rfl (fun K hK => ?_) ?_
              · rw [if_pos (by rfl)]
                refine wp_store_row 23 _ _ rfl g9 #[.int .i64 k, .int .i64 wk, .int .i64 d] rfl rfl _ _ h9.out szDay (by kernel_rfl) (by kernel_rfl) ?_
                replace h9 := Bx.hrow h9 k wk d; replace h8 := Bx.hrowO h8 #[.int .i64 k, .int .i64 wk, .int .i64 d] ne89; replace HC := Gs.hrow HC le9 #[.int .i64 k, .int .i64 wk, .int .i64 d] hz0; replace hs := Cs.hrow hs #[.int .i64 k, .int .i64 wk, .int .i64 d] (Nat.ne_of_lt nb9)
                generalize w67.setRow g9 #[.int .i64 k, .int .i64 wk, .int .i64 d] = w68 at *
                refine hK.out _ _ hs.out (fun _ => ?_)
                clear hK K
                try simp only [Act.put, List.getElem_toArray, List.getElem_cons_succ, List.getElem_cons_zero, List.setIfInBounds_toArray, List.set_cons_zero, List.set_cons_succ]
                refine wpAnyH_done (by kernel_rfl) ?_ _
                go_wp2_with fail
                go_meet
                exact ⟨g8, g9, rfl, rfl, le8, le9, ne89, HC.out, h8.out, h9.out⟩
              exact AllReadyH.nil
            exact AllReadyH.nil
          exact AllReadyH.nil
        exact AllReadyH.nil
      exact AllReadyH.nil
    exact AllReadyH.nil
  case rest =>
    obtain ⟨g8, g9, rfl, rfl, le8, le9, ne89, hg, hb8, hb9⟩ := hcut
    clear HC hs hlt
    have HC := Lib.hid hg
    have h8 := Lib.hid hb8
    have h9 := Lib.hid hb9
    clear hg hb8 hb9
    have hm7 : 0 ≤ F % 7 ∧ F % 7 ≤ 6 := by omega
    have hm8 : 0 ≤ A % 8 ∧ A % 8 ≤ 7 := by omega
    have hcs := ref_cases A
    clear H BD
    go_upto_block 0 with fail
    go_cut [] (fun wy => ∃ bk bw bd : Int, Dfm.okD bk bw bd = false ∧ Gs W0 wy ∧ Bx wy g8 k wk d ∧ Bx wy g9 bk bw bd)
    case first =>
      rcases hcs with q | ⟨q0, q⟩ | ⟨q0, q1, q⟩ | ⟨q0, q1, q2, q⟩ | ⟨q0, q1, q2, q3, q⟩ | ⟨q0, q1, q2, q3, q4, q⟩ | ⟨q0, q1, q2, q3, q4, q5, q⟩ | ⟨q0, q1, q2, q3, q4, q5, q6⟩
      · have p0 := h9.out.c0
        have z0 := h9.out.z 0
        go_wp2_with fail
        go_meet
        exact ⟨5 + F, wk, d, by simp [Dfm.okD]; omega, HC.out.set _ _ le9 hz0, h8.out.setO _ _ ne89, h9.out.set0 _⟩
      · have p0 := h9.out.c0
        have z0 := h9.out.z 0
        go_wp2_with fail
        go_meet
        exact ⟨-F, wk, d, by simp [Dfm.okD]; omega, HC.out.set _ _ le9 hz0, h8.out.setO _ _ ne89, h9.out.set0 _⟩
      · go_wp2_with fail
        refine (fixed_any (-F) _).mono ?_; rintro e w3 ⟨rfl, hw⟩; replace HC := Gs.hale HC hw; replace h8 := Bx.hale h8 hw; replace h9 := Bx.hale h9 hw; clear hw
        go_wp2_with (refine wpList_store_row rfl 23 _ _ rfl g9 #[.int .i64 1, .int .i64 0, .int .i64 (-F)] rfl rfl _ _ h9.out szDay (by kernel_rfl) (by kernel_rfl) ?_)
        go_meet
        exact ⟨1, 0, -F, by simp [Dfm.okD, Dfm.KL, Dfm.KM, Dfm.KW]; omega, (Gs.hrow HC le9 _ hz0).out, (Bx.hrowO h8 _ ne89).out, (Bx.hrow h9 _ _ _).out⟩
      · go_wp2_with fail
        refine (from_any (F % 7) (32 + F) _).mono ?_; rintro e w3 ⟨rfl, hw⟩; replace HC := Gs.hale HC hw; replace h8 := Bx.hale h8 hw; replace h9 := Bx.hale h9 hw; clear hw
        go_wp2_with (refine wpList_store_row rfl 23 _ _ rfl g9 #[.int .i64 3, .int .i64 (F % 7), .int .i64 (32 + F)] rfl rfl _ _ h9.out szDay (by kernel_rfl) (by kernel_rfl) ?_)
        go_meet
        exact ⟨3, F % 7, 32 + F, by simp [Dfm.okD, Dfm.KL, Dfm.KM, Dfm.KW]; omega, (Gs.hrow HC le9 _ hz0).out, (Bx.hrowO h8 _ ne89).out, (Bx.hrow h9 _ _ _).out⟩
      · go_wp2_with fail
        refine (last_any (7 + F) _).mono ?_; rintro e w3 ⟨rfl, hw⟩; replace HC := Gs.hale HC hw; replace h8 := Bx.hale h8 hw; replace h9 := Bx.hale h9 hw; clear hw
        go_wp2_with (refine wpList_store_row rfl 23 _ _ rfl g9 #[.int .i64 2, .int .i64 (7 + F), .int .i64 0] rfl rfl _ _ h9.out szDay (by kernel_rfl) (by kernel_rfl) ?_)
        go_meet
        exact ⟨2, 7 + F, 0, by simp [Dfm.okD, Dfm.KL, Dfm.KM, Dfm.KW]; omega, (Gs.hrow HC le9 _ hz0).out, (Bx.hrowO h8 _ ne89).out, (Bx.hrow h9 _ _ _).out⟩
      · go_wp2_with fail
        refine (to_any (-1 - F) 1 _).mono ?_; rintro e w3 ⟨rfl, hw⟩; replace HC := Gs.hale HC hw; replace h8 := Bx.hale h8 hw; replace h9 := Bx.hale h9 hw; clear hw
        go_wp2_with (refine wpList_store_row rfl 23 _ _ rfl g9 #[.int .i64 4, .int .i64 (-1 - F), .int .i64 1] rfl rfl _ _ h9.out szDay (by kernel_rfl) (by kernel_rfl) ?_)
        go_meet
        exact ⟨4, -1 - F, 1, by simp [Dfm.okD, Dfm.KL, Dfm.KM, Dfm.KW]; omega, (Gs.hrow HC le9 _ hz0).out, (Bx.hrowO h8 _ ne89).out, (Bx.hrow h9 _ _ _).out⟩
      · go_wp2_with (refine wpList_store_row rfl 23 _ _ rfl g9 #[.int .i64 1, .int .i64 (1 + F), .int .i64 1] rfl rfl _ _ h9.out szDay (by kernel_rfl) (by kernel_rfl) ?_)
        go_meet
        exact ⟨1, 1 + F, 1, by simp [Dfm.okD, Dfm.KL, Dfm.KM, Dfm.KW]; omega, (Gs.hrow HC le9 _ hz0).out, (Bx.hrowO h8 _ ne89).out, (Bx.hrow h9 _ _ _).out⟩
      · go_wp2_with (refine wpList_store_row rfl 23 _ _ rfl g9 #[.int .i64 2, .int .i64 0, .int .i64 (1 + F)] rfl rfl _ _ h9.out szDay (by kernel_rfl) (by kernel_rfl) ?_)
        go_meet
        exact ⟨2, 0, 1 + F, by simp [Dfm.okD, Dfm.KL, Dfm.KM, Dfm.KW]; omega, (Gs.hrow HC le9 _ hz0).out, (Bx.hrowO h8 _ ne89).out, (Bx.hrow h9 _ _ _).out⟩
    case rest =>
      obtain ⟨bk, bw, bd, hbad, hg, hb8, hb9⟩ := hcut
      clear HC h8 h9 hcs hm7 hm8
      have HC := Lib.hid hg
      have h8 := Lib.hid hb8
      have h9 := Lib.hid hb9
      have HB := Lib.hid hbad
      clear hg hb8 hb9 hbad
      have p0 := h9.out.c0; have p1 := h9.out.c1; have p2 := h9.out.c2
      go_wp2_with fail
      refine (check_at bk bw bd 2 (by rw [HB.out]; rfl) _).mono ?_; rintro e w3 ⟨rfl, hb⟩; replace HC := Gs.hbl HC hb; replace h8 := Bx.hbl h8 hb; replace h9 := Bx.hbl h9 hb; clear hb p0 p1 p2
      have p0 := h9.out.c0; have p1 := h9.out.c1; have p2 := h9.out.c2
      go_wp2_with fail
      refine (fails_at 2000 1 bk bw bd 2 (bad_va 2000 1 _ _ _ (by decide) HB.out) (bad_er 2000 1 _ _ _ (by decide) HB.out) HC).mono ?_; rintro e w3 ⟨rfl, hb⟩; replace HC := Gs.hbl HC hb; replace h8 := Bx.hbl h8 hb; replace h9 := Bx.hbl h9 hb; clear hb p0 p1 p2
      have p0 := h9.out.c0; have p1 := h9.out.c1; have p2 := h9.out.c2
      go_wp2_with fail
      refine (always_at 2001 2000 1 bk bw bd false (bad_al _ _ _ _ _ _ HB.out) HC).mono ?_; rintro e w3 ⟨rfl, hb⟩; replace HC := Gs.hbl HC hb; replace h8 := Bx.hbl h8 hb; replace h9 := Bx.hbl h9 hb; clear hb p0 p1 p2
      go_wp2_with fail
      replace h8 := Bx.hal h8 (.cells #[.int .i64 (-F), .int .i64 (13 + F)] 3)
      replace h9 := Bx.hal h9 (.cells #[.int .i64 (-F), .int .i64 (13 + F)] 3)
      replace HC := Gs.hal HC (.cells #[.int .i64 (-F), .int .i64 (13 + F)] 3)
      have hv := Lib.hid (Cs.new w3 [.int .i64 (-F), .int .i64 (13 + F)] 3)
      generalize w3.alloc (.cells #[.int .i64 (-F), .int .i64 (13 + F)] 3) = w4 at *
      generalize w3.heap.size = gv at *
      go_loopw [78] (fun i wr => ∃ j : Nat, j ≤ 2 ∧ i = .int .i64 j ∧ Gs W0 wr ∧ Bx wr g8 k wk d ∧ Bx wr g9 bk bw bd ∧ Cs wr gv [.int .i64 (-F), .int .i64 (13 + F)]) (fun i _ => 2 - (intOf i).toNat)
      case atStart => exact ⟨0, by omega, rfl, HC.out, h8.out, h9.out, hv.out⟩
      case round =>
        obtain ⟨j, hj, rfl, hg, hb8, hb9, hgv⟩ := hrel
        clear HC h8 h9 hv
        have HC := Lib.hid hg
        have h8 := Lib.hid hb8
        have h9 := Lib.hid hb9
        have hv := Lib.hid hgv
        clear hg hb8 hb9 hgv
        by_cases hj2 : j < 2
        · have hx : ∃ m : Int, wr.cell? ⟨gv, j, none⟩ = some (.int .i64 m) ∧ (m < 1 ∨ 12 < m) ∧ -4294967295 ≤ m ∧ m ≤ 4294967308 := by
            have : j = 0 ∨ j = 1 := by omega
            rcases this with rfl | rfl
            · exact ⟨-F, hv.out.at 0 rfl, by omega, by omega, by omega⟩
            · exact ⟨13 + F, hv.out.at 1 rfl, by omega, by omega, by omega⟩
          obtain ⟨m, hm, hmr, mb1, mb2⟩ := hx
          have HM := Lib.hid hmr
          clear hmr
          have p0 := h9.out.c0; have p1 := h9.out.c1; have p2 := h9.out.c2
          go_wp2_with fail
          refine (fails_at 2000 m bk bw bd 3 (rng_va _ _ _ _ _ (rng_m 2000 m HM.out)) (rng_er _ _ _ _ _ (rng_m 2000 m HM.out)) HC).mono ?_; rintro e w5 ⟨rfl, hb⟩; replace HC := Gs.hbl HC hb; replace h8 := Bx.hbl h8 hb; replace h9 := Bx.hbl h9 hb; replace hv := Cs.hbl hv hb; clear hb p0 p1 p2
          have p0 := h8.out.c0; have p1 := h8.out.c1; have p2 := h8.out.c2
          go_wp2_with fail
          refine (fails_at 2000 m k wk d 3 (rng_va _ _ _ _ _ (rng_m 2000 m HM.out)) (rng_er _ _ _ _ _ (rng_m 2000 m HM.out)) HC).mono ?_; rintro e w5 ⟨rfl, hb⟩; replace HC := Gs.hbl HC hb; replace h8 := Bx.hbl h8 hb; replace h9 := Bx.hbl h9 hb; replace hv := Cs.hbl hv hb; clear hb p0 p1 p2
          have p0 := h8.out.c0; have p1 := h8.out.c1; have p2 := h8.out.c2
          go_wp2_with fail
          refine (always_at 2001 2000 m k wk d false (rng_al _ _ m _ _ _ HM.out) HC).mono ?_; rintro e w5 ⟨rfl, hb⟩; replace HC := Gs.hbl HC hb; replace h8 := Bx.hbl h8 hb; replace h9 := Bx.hbl h9 hb; replace hv := Cs.hbl hv hb; clear hb p0 p1 p2
          go_wp2_with fail
          go_roundw
          case rel => exact ⟨j + 1, by omega, by go_num, HC.out, h8.out, h9.out, hv.out⟩
          case measure => simp [intOf]; omega
        · obtain rfl : j = 2 := by omega
          rw [show ((2 : Nat) : Int) = 2 from rfl]
          clear hv hj hj2
          have p0 := h9.out.c0; have p1 := h9.out.c1; have p2 := h9.out.c2
          go_wp2_with fail
          refine (fails_at (2000000001 + F) 1 bk bw bd 3 (rng_va _ _ _ _ _ (rng_y _ 1 (by omega))) (rng_er _ _ _ _ _ (rng_y _ 1 (by omega))) HC).mono ?_; rintro e w5 ⟨rfl, hb⟩; replace HC := Gs.hbl HC hb; replace h8 := Bx.hbl h8 hb; replace h9 := Bx.hbl h9 hb; clear hb p0 p1 p2
          have p0 := h8.out.c0; have p1 := h8.out.c1; have p2 := h8.out.c2
          go_wp2_with fail
          refine (fails_at (-2000000001 - F) 12 k wk d 3 (rng_va _ _ _ _ _ (rng_y _ 12 (by omega))) (rng_er _ _ _ _ _ (rng_y _ 12 (by omega))) HC).mono ?_; rintro e w5 ⟨rfl, hb⟩; replace HC := Gs.hbl HC hb; replace h8 := Bx.hbl h8 hb; replace h9 := Bx.hbl h9 hb; clear hb p0 p1 p2
          go_wp2_with fail
          refine (works2_any HC).mono ?_; rintro e w5 ⟨rfl, hb⟩; replace HC := Gs.hbl HC hb; clear hb
          go_wp2
          go_ret
          exact ⟨rfl, HC.out.1⟩
theorem ref_walk (K : Int) (wK : (Lit.int .u8 K).wf = true) (W : Int) (wW : (Lit.int .u8 W).wf = true) (D : Int) (wD : (Lit.int .u8 D).wf = true) (A : Int) (wA : (Lit.int .u8 A).wf = true) (F : Int) (wF : (Lit.int .u32 F).wf = true) (W0 : World) (hT : TabW W0) :
    Calls Tryd.prog 8 #[.agg #[.int .u8 K, .int .u8 W, .int .u8 D], .int .u8 A, .int .u32 F] W0 fun e w' => e = .returned (.bool true) ∧ Below W0.heap.size W0 w' :=
  ref_core K W D _ _ _ A F (bounds_u8 wK) (bounds_u8 wW) (bounds_u8 wD) (bounds_u8 wA) (bounds_u32 wF) rfl rfl rfl W0 hT
end Go.Proofs.YtdlclpkhjblgjaaDoor
