/- The walk of LexemeWrong. -/
import Derived.Test.YtlekbbggbfhgaaaDoorLaw05f
import Derived.Test.YtlekbbggbfhgaaaDoorLh
import Derived.Deep.RegionHeld3
namespace Go.Proofs.YtlekbbggbfhgaaaDoor
open Go.RowKit
theorem Drf.take {w : World} {b off cap : Nat} {D : List (List UInt8)} (hb : b < w.heap.size) (hc : ∀ j l, D[j]? = some l → ∃ u, w.cell? ⟨b, off + j, none⟩ = some u ∧ Byts w u l) (hcap : D.length ≤ cap) (q : Nat) (hq : q ≤ D.length) : Drf w (.slice (some ⟨b, off, none⟩) q cap) (D.take q) := by
  have hl : (D.take q).length = q := by rw [List.length_take]; omega
  by_cases h0 : q = 0
  · subst h0; exact .inl ⟨_, _, rfl, by simp⟩
  · refine .inr ⟨b, off, cap, by rw [hl], by omega, hb, fun j l hj => hc j l ?_⟩
    have : j < q := by have := (List.getElem?_eq_some_iff.1 hj).1; omega
    rwa [List.getElem?_take, if_pos this] at hj
/-- a byte as a string, wherever it lies -/
theorem byte_s (c : Int) : ∀ (b : Nat) (wx : World), wx.cell? ⟨b, 0, none⟩ = some (.int .u8 c) → (convert 45 9 (.slice (some ⟨b, 0, none⟩) 1 1)).run Tryd.prog wx = .ok (.string (Lx.bs [UInt8.ofNat c.toNat])) wx := by
  intro b wx h
  have := run_convert_bytes_arg (P := Tryd.prog) wx 45 5 Tryd.underlying45 Tryd.underlying5 b 0 1 1 [c] rfl (fun i hi => by obtain rfl : i = 0 := (by omega); exact h) 9 Tryd.underlying9
  rw [this]
  rfl
/-- slices.Clone -/
theorem clone_s {W0 w : World} (v : Value) (L : List ByteArray) (hl : L.length ≤ 1000) (hI : Strs w v L) (HC : Hid (Ms W0 w)) : Calls Tryd.prog 28 #[v] w fun e w' => ∃ v', e = .returned v' ∧ Hid (w'.ownsRow W0.heap.size 9 1 v' L.length (strV L)) ∧ Below w.heap.size w w' ∧ Hid (Ms W0 w') := by
  have hz := HC.out.1.size
  rcases hI with ⟨a, cap, rfl, rfl⟩ | ⟨b, off, cap, rfl, hp, hb, hc⟩
  · cases a with
    | none =>
      refine (Tryd.slices_Clone_string_nil 0 cap w).mono ?_
      rintro e w' ⟨rfl, rfl⟩
      exact ⟨_, rfl, Lib.hid (World.ownsRow_nil _ _ _ _), Below.refl _ _, HC⟩
    | some a =>
      refine (Tryd.slices_Clone_string_zero a cap w).mono ?_
      rintro e w' ⟨v', rfl, ho, _, hb⟩
      refine ⟨v', rfl, Lib.hid ⟨ho.1, ?_⟩, hb, Ms.hbl HC hb⟩
      rcases ho.2 with h | ⟨g, cp, cur, h1, h2, h3⟩
      · exact .inl h
      · exact .inr ⟨g, cp, cur, h1, by omega, h3⟩
  · refine (Tryd.slices_Clone_string b off L.length cap L w (Nat.le_refl _) (by omega) (fun j hj => hc j _ (by rw [List.getD_eq_getElem?_getD, List.getElem?_eq_getElem hj]; rfl))).mono ?_
    rintro e w' ⟨v', rfl, ho, _, hb⟩
    rw [List.take_length] at ho
    refine ⟨v', rfl, Lib.hid ⟨ho.1, ?_⟩, hb, Ms.hbl HC hb⟩
    rcases ho.2 with h | ⟨g, cp, cur, h1, h2, h3⟩
    · exact .inl h
    · exact .inr ⟨g, cp, cur, h1, by omega, h3⟩
theorem Ms.hgrown {w0 w w' : World} {e : TypeId} {s n : Nat} {v : Value} {xs : List Value} (hM : Hid (MaxW w0)) (h : Hid (Ms w0 w)) (ho : w.ownsRow w0.heap.size e s v n xs) (hg : w.grownBy w' v.ownBlock) : Hid (Ms w0 w') := by
  have b := h.out.1.grown hg h.out.1.size (fun k hk => (ho.lt k hk).1)
  exact Lib.hid ⟨b, hM.out.bl b⟩
set_option linter.unusedSimpArgs false in
set_option maxRecDepth 100000 in
set_option maxHeartbeats 8000000 in
theorem wrong_core (W0 : World) (ao : Option Addr) (n cp : Nat) (D : List (List UInt8)) (q : Nat) (hq : min n 6 = q) (hsl : ∀ wx, (Instr.slice 36 (.slice ao n cp) none (some (.int .i64 (q : Int))) none).run Tryd.prog wx = .ok (.slice ao q cp) wx) (hI : Drf W0 (.slice ao q cp) D) (hD6 : D.length ≤ 6)
    (c a : Int) (hc0 : 0 ≤ c) (hc1 : c < 256) (ha0 : 0 ≤ a) (ha1 : a < 256) (hM : MaxW W0) (S5 : ByteArray) (g5 : Int) (hj5 : Lx.jn (Lx.made D ++ [[120, UInt8.ofNat c.toNat]]) = (S5, g5))
    (hcase : (((c < 32 ∧ (c != 9) = true) ∨ 126 < c) ∧ S5.toList.isEmpty = true ∧ g5 = 2) ∨ ((c < 32 ∧ (c != 9) = false) ∧ S5.toList.isEmpty = true ∧ g5 = 2) ∨ ((32 ≤ c ∧ c ≤ 126 ∧ (c == 34) = true) ∧ S5.toList.isEmpty = true ∧ g5 = 2) ∨ ((32 ≤ c ∧ c ≤ 126 ∧ (c == 34) = false) ∧ S5.toList.isEmpty = false ∧ g5 = 0)) :
    Calls Tryd.prog 8 #[.slice ao n cp, .int .u8 c, .int .u8 a] W0 fun e w' => e = .returned (.bool true) ∧ Below W0.heap.size W0 w' := by
  have HC := Lib.hid (Ms.mk0 hM)
  have HM0 := Lib.hid hM
  have HI := Lib.hid hI
  have hmin : min (n : Int) 6 = (q : Int) := by omega
  have hwr := fun x hx => (Lx.made_each D x hx).1
  have h12 := fun x hx => (Lx.made_each D x hx).2
  have hll : (Lx.made D).length ≤ 6 := by unfold Lx.made; rw [List.length_map, List.length_take]; omega
  generalize hQ : Lx.made D = Q at *
  have hQL : (Lx.made D).map Lx.bs = Q.map Lx.bs := by rw [hQ]
  have HQL := Lib.hid hQL
  have hml : (Lx.line Q).length ≤ 90 := by
    have := Lx.line_short Q 12 h12
    have : Q.length * (12 + 3) ≤ 6 * 15 := Nat.mul_le_mul_right 15 hll
    omega
  have hjn := Lx.jn_ok Q hwr (by omega)
  have hmap : (Q.map Lx.bs).map (·.data.toList) = Q := by
    rw [List.map_map]
    have : ((fun x : ByteArray => x.data.toList) ∘ Lx.bs) = id := by funext x; exact Lx.data_bs x
    rw [this, List.map_id]
  have hj : Lx.jn ((Q.map Lx.bs).map (·.data.toList)) = (Lx.bs (Lx.line Q), 0) := by rw [hmap]; exact hjn
  have hls : (Lx.bs (Lx.line Q)).size ≤ 90 := by rw [Lx.size_bs]; exact hml
  have hcb : (UInt8.ofNat c.toNat).toNat = c.toNat := by rw [UInt8.toNat_ofNat']; omega
  generalize hcb2 : UInt8.ofNat c.toNat = cb at *
  have hj52 : Lx.jn (((Q.map Lx.bs) ++ [⟨#[120]⟩ ++ Lx.bs [cb]]).map (·.data.toList)) = (S5, g5) := by
    rw [List.map_append, hmap, show (⟨#[120]⟩ : ByteArray) = Lx.bs [120] from rfl, app_bs]; exact hj5
  have f1 : flds (Lx.bs (Lx.line Q) ++ ⟨#[32, 34, 120]⟩) = ([], 5) := by
    rw [show (⟨#[32, 34, 120]⟩ : ByteArray) = Lx.bs [32, 34, 120] from rfl, app_bs]
    unfold flds
    rw [if_neg (by rw [Lx.size_bs]; simp; omega), Lx.data_bs, Lx.wrong1 Q hwr]; rfl
  have f2 : flds (Lx.bs (Lx.line Q) ++ ⟨#[32, 35, 32, 34]⟩ ++ Lx.bs [cb]) = (Q.map Lx.bs, 0) := by
    rw [show (⟨#[32, 35, 32, 34]⟩ : ByteArray) = Lx.bs [32, 35, 32, 34] from rfl, app_bs, app_bs]
    exact flds_of _ (by simp; omega) Q (Lx.fine2 Q hwr cb)
  have hBs : (Lx.bs [cb]).size ≤ 1 := by rw [Lx.size_bs]; exact Nat.le_refl 1
  obtain ⟨k, hk⟩ : ∃ k : Nat, a % (((Lx.bs (Lx.line Q)).size : Int) + 1) = (k : Int) := ⟨(a % (((Lx.bs (Lx.line Q)).size : Int) + 1)).toNat, by have := Int.emod_nonneg a (show (((Lx.bs (Lx.line Q)).size : Int) + 1) ≠ 0 by omega); omega⟩
  have hk2 : (k : Int) ≤ ((Lx.bs (Lx.line Q)).size : Int) := by
    have := Int.emod_lt_of_pos a (show (0 : Int) < ((Lx.bs (Lx.line Q)).size : Int) + 1 by omega); omega
  have f3 : ((c < 32 ∧ (c != 9) = true) ∨ 126 < c) → flds ((Lx.bs (Lx.line Q)).extract 0 k ++ Lx.bs [cb] ++ (Lx.bs (Lx.line Q)).extract k (Lx.bs (Lx.line Q)).size) = ([], 5) := by
    intro hc
    have e1 : (Lx.bs (Lx.line Q)).extract 0 k = Lx.bs ((Lx.line Q).take k) := by rw [ext_bs, Lx.data_bs]; simp
    have e2 : (Lx.bs (Lx.line Q)).extract k (Lx.bs (Lx.line Q)).size = Lx.bs ((Lx.line Q).drop k) := by
      rw [ext_bs, Lx.data_bs, Lx.size_bs, List.take_of_length_le (by rw [List.length_drop]; exact Nat.le_refl _)]
    rw [e1, e2, app_bs, app_bs]
    unfold flds
    rw [if_neg (by rw [Lx.size_bs]; simp; omega), Lx.data_bs, Lx.wrong3 Q hwr cb (by
      rw [hcb]
      rcases hc with ⟨h1, h2⟩ | h1
      · left
        have : c ≠ 9 := by simpa using h2
        omega
      · right; omega) k]; rfl
  have hz : ∀ x ∈ Q.map Lx.bs, x.size ≤ 1000 := by
    intro x hx
    obtain ⟨y, hy, rfl⟩ := List.mem_map.1 hx
    rw [Lx.size_bs]; have := h12 y hy; omega
  have hLl : (Q.map Lx.bs).length ≤ 6 := by rw [List.length_map]; exact hll
  generalize Q.map Lx.bs = L at *
  generalize Lx.bs (Lx.line Q) = N at *
  have hcv := byte_s c
  rw [hcb2] at hcv
  generalize Lx.bs [cb] = B at *
  have HJ := Lib.hid hj
  have HJ5 := Lib.hid hj52
  have HZ := Lib.hid hz
  have HZ2 : Hid (∀ s ∈ L ++ [⟨#[120]⟩ ++ B], s.size ≤ 1000) := Lib.hid (by
    intro s hs
    rcases List.mem_append.1 hs with h | h
    · exact hz s h
    · rw [List.mem_singleton.1 h, ByteArray.size_append, show (⟨#[120]⟩ : ByteArray).size = 1 from rfl]; omega)
  have HLl := Lib.hid hLl
  have HF1 := Lib.hid f1
  have HF2 := Lib.hid f2
  have HF3 := Lib.hid f3
  have HCV := Lib.hid hcv
  have g1 : ¬ 9223372036854775807 < N.size + 3 := by omega
  have g2 : ¬ 9223372036854775807 < N.size + 4 := by omega
  have g3 : ¬ 9223372036854775807 < N.size + 4 + B.size := by omega
  have g4 : ¬ 9223372036854775807 < 1 + B.size := by omega
  have hk0 : (0 : Int) ≤ (k : Int) := by omega
  clear hM hI hq hwr h12 hll hQ hQL hml hjn hmap hj hcb hcb2 hj5 hj52 f1 f2 f3 hz hLl hcv
  go_enter Tryd.func8, Tryd.ntmps8
  go_wp2_with fail
  refine (made_s _ D HI.out HC).mono ?_; rintro e w1 ⟨u, rfl, HU, _, HC⟩
  rw [HQL.out] at HU
  obtain ⟨ua, uc, rfl⟩ := HU.out.len
  go_wp2_with fail
  refine (join_s _ L (by have := HLl.out; omega) HZ.out N 0 HJ HU.out HC).mono ?_; rintro e w2 ⟨rfl, hb, HC⟩
  replace HU := Strs.hbl HU hb
  clear hb
  go_wp2_with fail
  refine (fields_s _ [] 5 HF1 HC).mono ?_; rintro e w3 ⟨y, rfl, HY, hb, HC⟩
  replace HU := Strs.hbl HU hb
  clear hb
  obtain ⟨ya, yc, rfl⟩ := HY.out.len
  clear HY
  have hcw := HCV.out w3.heap.size (w3.alloc (.cells #[.int .u8 c] 5)) (new_cell _ _ _ _ _ rfl)
  go_wp2_with fail
  clear hcw
  refine (fields_s _ L 0 HF2 (Ms.hal HC _)).mono ?_; rintro e w4 ⟨y, rfl, HY, hb, HC⟩
  replace HU := Strs.hbl (Lib.hid (HU.out.al (.cells #[.int .u8 c] 5))) hb
  clear hb
  go_wp2_with fail
  refine (eq_s y _ L L true (by simp) (by have := HLl.out; omega) (by have := HLl.out; omega) HY.out HU.out HC).mono ?_; rintro e w5 ⟨rfl, hb, HC⟩
  replace HU := Strs.hbl HU hb
  clear hb HY
  obtain ⟨E1, he1, hs1⟩ : ∃ E1, N.extract 0 k = E1 ∧ E1.size ≤ 90 := ⟨_, rfl, by rw [ByteArray.size_extract]; omega⟩
  obtain ⟨E2, he2, hs2⟩ : ∃ E2, N.extract k N.size = E2 ∧ E2.size ≤ 90 := ⟨_, rfl, by rw [ByteArray.size_extract]; omega⟩
  have HF3b := Lib.hid (fun h => (by rw [← he1, ← he2]; exact HF3.out h : flds (E1 ++ B ++ E2) = ([], 5)))
  have g6 : ¬ 9223372036854775807 < E1.size + B.size := by omega
  have g7 : ¬ 9223372036854775807 < E1.size + B.size + E2.size := by omega
  clear HF3
  obtain ⟨i0, hi0, hy0, hy1, hy2⟩ := info_parts infoS
  /- cases -/
  rcases hcase with ⟨hc, hse, rfl⟩ | ⟨⟨h1, h2⟩, hse, rfl⟩ | ⟨⟨h1, h2, h3⟩, hse, rfl⟩ | ⟨⟨h1, h2, h3⟩, hse, rfl⟩
  · have HF := Lib.hid (HF3b.out hc)
    rcases hc with ⟨h1, h2⟩ | h1
    all_goals
      go_wp2_with fail
      have hcw := HCV.out w5.heap.size (w5.alloc (.cells #[.int .u8 c] 5)).drew (new_cell _ _ _ _ _ rfl)
      go_region_with (go_at_call 17; refine (fields_s _ [] 5 HF (Ms.hdr (Ms.hal HC (.cells #[.int .u8 c] 5)))).mono ?_; rintro e w6 ⟨z, rfl, HZZ, hb, HC⟩)
      clear hcw
      replace HU : Hid (Strs w6 (.slice ua L.length uc) L) := Lib.hid (Strs.bl (w := (w5.alloc (.cells #[.int .u8 c] 5)).drew) (HU.out.al (.cells #[.int .u8 c] 5)) hb)
      clear hb
      obtain ⟨za, zc, rfl⟩ := HZZ.out.len
      clear HZZ
      go_wp2_with fail
      refine wp_region_held_drew (S := fun _ => True) (by kernel_rfl) trivial (fun hHeld => ?_)
      replace HC := Ms.hdr HC
      replace HU : Hid (Strs w6.drew (.slice ua L.length uc) L) := Lib.hid HU.out
      generalize w6.drew = wd at *
      refine wpAnyH_take (i := 0) (v := ?_) rfl (by kernel_rfl) (by kernel_rfl) (by kernel_rfl) (fun _ _ _ h => h) (Or.inl ⟨by rfl, ?_⟩) (by assumption) ?_
      rotate_left
      · (intro w hSw; clear hSw; go_simp; try (with_reducible rfl))
      try simp only [Act.put, List.getElem_toArray, List.getElem_cons_succ, List.getElem_cons_zero, List.setIfInBounds_toArray, List.set_cons_zero, List.set_cons_succ]
      refine wpAnyH_take (i := 2) (v := ?_) rfl (by kernel_rfl) (by kernel_rfl) (by kernel_rfl) (fun _ _ _ h => h) (Or.inl ⟨by rfl, ?_⟩) (by assumption) ?_
      rotate_left
      · (intro w hSw; clear hSw; go_simp; try (with_reducible rfl))
      try simp only [Act.put, List.getElem_toArray, List.getElem_cons_succ, List.getElem_cons_zero, List.setIfInBounds_toArray, List.set_cons_zero, List.set_cons_succ]
      refine wpAnyH_ready (rs := [1, 3]) (by kernel_rfl) (by simp) ?_
      refine AllReadyH.cons rfl (fun K hK => ?_) ?_
      · go_simp
        refine (clone_s _ L (by have := HLl.out; omega) HU.out HC).mono ?_; rintro e v1 ⟨vc, rfl, HO, hb, HC⟩
        clear hb
        refine hK.out _ _ trivial (fun _ => ?_)
        clear hK K
        try simp only [Act.put, List.getElem_toArray, List.getElem_cons_succ, List.getElem_cons_zero, List.setIfInBounds_toArray, List.set_cons_zero, List.set_cons_succ]
        refine wpAnyH_ready (rs := [3]) (by kernel_rfl) (by simp) ?_
        refine AllReadyH.cons rfl (fun K hK => ?_) ?_
        · go_simp
          have HBc := Lib.hid (new_cell v1 #[.int .u8 c] 5 0 (.int .u8 c) rfl)
          replace HC := Ms.hal HC (.cells #[.int .u8 c] 5)
          replace HO := Lib.hid (HO.out.alloc (.cells #[.int .u8 c] 5))
          generalize v1.alloc (.cells #[.int .u8 c] 5) = v2 at *
          generalize v1.heap.size = g1 at *
          refine hK.out _ _ trivial (fun _ => ?_)
          clear hK K
          try simp only [Act.put, List.getElem_toArray, List.getElem_cons_succ, List.getElem_cons_zero, List.setIfInBounds_toArray, List.set_cons_zero, List.set_cons_succ]
          refine wpAnyH_ready (rs := [4]) (by kernel_rfl) (by simp) ?_
          refine AllReadyH.cons rfl (fun K hK => ?_) ?_
          · have hcw := HCV.out g1 v2 HBc.out
            go_simp
            clear hcw
            refine hK.out _ _ trivial (fun _ => ?_)
            clear hK K
            try simp only [Act.put, List.getElem_toArray, List.getElem_cons_succ, List.getElem_cons_zero, List.setIfInBounds_toArray, List.set_cons_zero, List.set_cons_succ]
            refine wpAnyH_take (i := 5) (v := ?_) rfl (by kernel_rfl) (by kernel_rfl) (by kernel_rfl) (fun _ _ _ h => h) (Or.inl ⟨by rfl, ?_⟩) (by assumption) ?_
            rotate_left
            · (intro w hSw; clear hSw; go_simp; try (with_reducible rfl))
            try simp only [Act.put, List.getElem_toArray, List.getElem_cons_succ, List.getElem_cons_zero, List.setIfInBounds_toArray, List.set_cons_zero, List.set_cons_succ]
            refine wpAnyH_ready (rs := [6]) (by kernel_rfl) (by simp) ?_
            refine AllReadyH.cons rfl (fun K hK => ?_) ?_
            · go_simp
              clear HBc
              have HSr := Lib.hid (row_new (w := v2) (A := (.cells #[.string (⟨#[120]⟩ ++ B)] 9)) rfl)
              replace HC := Ms.hal HC (.cells #[.string (⟨#[120]⟩ ++ B)] 9)
              replace HO := Lib.hid (HO.out.alloc (.cells #[.string (⟨#[120]⟩ ++ B)] 9))
              generalize v2.alloc (.cells #[.string (⟨#[120]⟩ ++ B)] 9) = v4 at *
              generalize v2.heap.size = g2 at *
              refine hK.out _ _ trivial (fun _ => ?_)
              clear hK K
              try simp only [Act.put, List.getElem_toArray, List.getElem_cons_succ, List.getElem_cons_zero, List.setIfInBounds_toArray, List.set_cons_zero, List.set_cons_succ]
              refine wpAnyH_ready (rs := [7]) (by kernel_rfl) (by simp) ?_
              refine AllReadyH.cons rfl (fun K hK => ?_) ?_
              · refine step_append_lies _ (by rfl) _ _ _ (by rfl) W0.heap.size 9 i0 _ 1 16 Tryd.underlying23 hi0 hy0 hy1 hy2 rfl (by decide) vc L.length (strV L) (by rfl) HO.out ⟨g2, 0, none⟩ 1 1 [.string (⟨#[120]⟩ ++ B)] (by rfl) (by rfl) (World.news_of_block (cs := #[.string (⟨#[120]⟩ ++ B)]) (t := 9) (fr := (0, 0)) HSr.out) (by simp [Value.oneCell']) (by omega) (by have := HLl.out; unfold maxLen; omega) (by have := HLl.out; omega) HC.out.1.size v4.heap.size rfl ?_
                intro gg cap3 v5 hown1 hgrow hat hlt1
                have HST := Lib.hid (own_Strs (L := L ++ [(⟨#[120]⟩ ++ B)]) (by simpa [strV] using hown1))
                replace HC := Ms.hgrown HM0 HC HO.out hgrow
                clear hown1 hgrow hat hlt1
                refine hK.out _ _ trivial (fun _ => ?_)
                clear hK K
                try simp only [Act.put, List.getElem_toArray, List.getElem_cons_succ, List.getElem_cons_zero, List.setIfInBounds_toArray, List.set_cons_zero, List.set_cons_succ]
                refine wpAnyH_ready (rs := [8]) (by kernel_rfl) (by simp) ?_
                refine AllReadyH.cons rfl (fun K hK => ?_) ?_
                · go_simp
                  refine (join_s _ (L ++ [(⟨#[120]⟩ ++ B)]) (by have := HLl.out; simp; omega) HZ2.out S5 _ HJ5 HST.out HC).mono ?_; rintro e v6 ⟨rfl, _, HC⟩
                  refine hK.out _ _ trivial (fun _ => ?_)
                  clear hK K
                  try simp only [Act.put, List.getElem_toArray, List.getElem_cons_succ, List.getElem_cons_zero, List.setIfInBounds_toArray, List.set_cons_zero, List.set_cons_succ]
                  refine wpAnyH_take (i := 9) (v := ?_) rfl (by kernel_rfl) (by kernel_rfl) (by kernel_rfl) (fun _ _ _ h => h) (Or.inl ⟨by rfl, ?_⟩) (by assumption) ?_
                  rotate_left
                  · (intro w hSw; clear hSw; go_simp; try (with_reducible rfl))
                  try simp only [Act.put, List.getElem_toArray, List.getElem_cons_succ, List.getElem_cons_zero, List.setIfInBounds_toArray, List.set_cons_zero, List.set_cons_succ]
                  refine wpAnyH_take (i := 10) (v := ?_) rfl (by kernel_rfl) (by kernel_rfl) (by kernel_rfl) (fun _ _ _ h => h) (Or.inl ⟨by rfl, ?_⟩) (by assumption) ?_
                  rotate_left
                  · (intro w hSw; clear hSw; go_simp; try (with_reducible rfl))
                  try simp only [Act.put, List.getElem_toArray, List.getElem_cons_succ, List.getElem_cons_zero, List.setIfInBounds_toArray, List.set_cons_zero, List.set_cons_succ]
                  refine wpAnyH_take (i := 11) (v := ?_) rfl (by kernel_rfl) (by kernel_rfl) (by kernel_rfl) (fun _ _ _ h => h) (Or.inl ⟨by rfl, ?_⟩) (by assumption) ?_
                  rotate_left
                  · (intro w hSw; clear hSw; go_simp; try (with_reducible rfl))
                  try simp only [Act.put, List.getElem_toArray, List.getElem_cons_succ, List.getElem_cons_zero, List.setIfInBounds_toArray, List.set_cons_zero, List.set_cons_succ]
                  refine wpAnyH_take (i := 12) (v := ?_) rfl (by kernel_rfl) (by kernel_rfl) (by kernel_rfl) (fun _ _ _ h => h) (Or.inl ⟨by rfl, ?_⟩) (by assumption) ?_
                  rotate_left
                  · (intro w hSw; clear hSw; go_simp; try (with_reducible rfl))
                  try simp only [Act.put, List.getElem_toArray, List.getElem_cons_succ, List.getElem_cons_zero, List.setIfInBounds_toArray, List.set_cons_zero, List.set_cons_succ]
                  refine wpAnyH_take (i := 13) (v := ?_) rfl (by kernel_rfl) (by kernel_rfl) (by kernel_rfl) (fun _ _ _ h => h) (Or.inl ⟨by rfl, ?_⟩) (by assumption) ?_
                  rotate_left
                  · (intro w hSw; clear hSw; go_simp; try (with_reducible rfl))
                  try simp only [Act.put, List.getElem_toArray, List.getElem_cons_succ, List.getElem_cons_zero, List.setIfInBounds_toArray, List.set_cons_zero, List.set_cons_succ]
                  refine wpAnyH_done (by kernel_rfl) ?_ _
                  go_wp2_with fail
                  refine (works_s HC).mono ?_; rintro e wz ⟨rfl, HC⟩
                  go_wp2
                  go_ret
                  first | exact ⟨rfl, HC.out.1⟩ | exact ⟨ret_bool (by simp; omega), HC.out.1⟩
                exact AllReadyH.nil
              exact AllReadyH.nil
            exact AllReadyH.nil
          exact AllReadyH.nil
        exact AllReadyH.nil
      refine AllReadyH.cons rfl (fun K hK => ?_) ?_
      · go_simp
        have HBc := Lib.hid (new_cell wd #[.int .u8 c] 5 0 (.int .u8 c) rfl)
        replace HC := Ms.hal HC (.cells #[.int .u8 c] 5)
        replace HU := Lib.hid (HU.out.al (.cells #[.int .u8 c] 5))
        generalize wd.alloc (.cells #[.int .u8 c] 5) = v7 at *
        generalize wd.heap.size = g1 at *
        refine hK.out _ _ trivial (fun _ => ?_)
        clear hK K
        try simp only [Act.put, List.getElem_toArray, List.getElem_cons_succ, List.getElem_cons_zero, List.setIfInBounds_toArray, List.set_cons_zero, List.set_cons_succ]
        refine wpAnyH_ready (rs := [1, 4]) (by kernel_rfl) (by simp) ?_
        refine AllReadyH.cons rfl (fun K hK => ?_) ?_
        · go_simp
          refine (clone_s _ L (by have := HLl.out; omega) HU.out HC).mono ?_; rintro e v8 ⟨vc, rfl, HO, hb, HC⟩
          replace HBc := Lib.hid (cell_bl hb HBc.out)
          clear hb
          refine hK.out _ _ trivial (fun _ => ?_)
          clear hK K
          try simp only [Act.put, List.getElem_toArray, List.getElem_cons_succ, List.getElem_cons_zero, List.setIfInBounds_toArray, List.set_cons_zero, List.set_cons_succ]
          refine wpAnyH_ready (rs := [4]) (by kernel_rfl) (by simp) ?_
          refine AllReadyH.cons rfl (fun K hK => ?_) ?_
          · have hcw := HCV.out g1 v8 HBc.out
            go_simp
            clear hcw
            refine hK.out _ _ trivial (fun _ => ?_)
            clear hK K
            try simp only [Act.put, List.getElem_toArray, List.getElem_cons_succ, List.getElem_cons_zero, List.setIfInBounds_toArray, List.set_cons_zero, List.set_cons_succ]
            refine wpAnyH_take (i := 5) (v := ?_) rfl (by kernel_rfl) (by kernel_rfl) (by kernel_rfl) (fun _ _ _ h => h) (Or.inl ⟨by rfl, ?_⟩) (by assumption) ?_
            rotate_left
            · (intro w hSw; clear hSw; go_simp; try (with_reducible rfl))
            try simp only [Act.put, List.getElem_toArray, List.getElem_cons_succ, List.getElem_cons_zero, List.setIfInBounds_toArray, List.set_cons_zero, List.set_cons_succ]
            refine wpAnyH_ready (rs := [6]) (by kernel_rfl) (by simp) ?_
            refine AllReadyH.cons rfl (fun K hK => ?_) ?_
            · go_simp
              clear HBc
              have HSr := Lib.hid (row_new (w := v8) (A := (.cells #[.string (⟨#[120]⟩ ++ B)] 9)) rfl)
              replace HC := Ms.hal HC (.cells #[.string (⟨#[120]⟩ ++ B)] 9)
              replace HO := Lib.hid (HO.out.alloc (.cells #[.string (⟨#[120]⟩ ++ B)] 9))
              generalize v8.alloc (.cells #[.string (⟨#[120]⟩ ++ B)] 9) = v10 at *
              generalize v8.heap.size = g2 at *
              refine hK.out _ _ trivial (fun _ => ?_)
              clear hK K
              try simp only [Act.put, List.getElem_toArray, List.getElem_cons_succ, List.getElem_cons_zero, List.setIfInBounds_toArray, List.set_cons_zero, List.set_cons_succ]
              refine wpAnyH_ready (rs := [7]) (by kernel_rfl) (by simp) ?_
              refine AllReadyH.cons rfl (fun K hK => ?_) ?_
              · refine step_append_lies _ (by rfl) _ _ _ (by rfl) W0.heap.size 9 i0 _ 1 16 Tryd.underlying23 hi0 hy0 hy1 hy2 rfl (by decide) vc L.length (strV L) (by rfl) HO.out ⟨g2, 0, none⟩ 1 1 [.string (⟨#[120]⟩ ++ B)] (by rfl) (by rfl) (World.news_of_block (cs := #[.string (⟨#[120]⟩ ++ B)]) (t := 9) (fr := (0, 0)) HSr.out) (by simp [Value.oneCell']) (by omega) (by have := HLl.out; unfold maxLen; omega) (by have := HLl.out; omega) HC.out.1.size v10.heap.size rfl ?_
                intro gg cap3 v11 hown1 hgrow hat hlt1
                have HST := Lib.hid (own_Strs (L := L ++ [(⟨#[120]⟩ ++ B)]) (by simpa [strV] using hown1))
                replace HC := Ms.hgrown HM0 HC HO.out hgrow
                clear hown1 hgrow hat hlt1
                refine hK.out _ _ trivial (fun _ => ?_)
                clear hK K
                try simp only [Act.put, List.getElem_toArray, List.getElem_cons_succ, List.getElem_cons_zero, List.setIfInBounds_toArray, List.set_cons_zero, List.set_cons_succ]
                refine wpAnyH_ready (rs := [8]) (by kernel_rfl) (by simp) ?_
                refine AllReadyH.cons rfl (fun K hK => ?_) ?_
                · go_simp
                  refine (join_s _ (L ++ [(⟨#[120]⟩ ++ B)]) (by have := HLl.out; simp; omega) HZ2.out S5 _ HJ5 HST.out HC).mono ?_; rintro e v12 ⟨rfl, _, HC⟩
                  refine hK.out _ _ trivial (fun _ => ?_)
                  clear hK K
                  try simp only [Act.put, List.getElem_toArray, List.getElem_cons_succ, List.getElem_cons_zero, List.setIfInBounds_toArray, List.set_cons_zero, List.set_cons_succ]
                  refine wpAnyH_take (i := 9) (v := ?_) rfl (by kernel_rfl) (by kernel_rfl) (by kernel_rfl) (fun _ _ _ h => h) (Or.inl ⟨by rfl, ?_⟩) (by assumption) ?_
                  rotate_left
                  · (intro w hSw; clear hSw; go_simp; try (with_reducible rfl))
                  try simp only [Act.put, List.getElem_toArray, List.getElem_cons_succ, List.getElem_cons_zero, List.setIfInBounds_toArray, List.set_cons_zero, List.set_cons_succ]
                  refine wpAnyH_take (i := 10) (v := ?_) rfl (by kernel_rfl) (by kernel_rfl) (by kernel_rfl) (fun _ _ _ h => h) (Or.inl ⟨by rfl, ?_⟩) (by assumption) ?_
                  rotate_left
                  · (intro w hSw; clear hSw; go_simp; try (with_reducible rfl))
                  try simp only [Act.put, List.getElem_toArray, List.getElem_cons_succ, List.getElem_cons_zero, List.setIfInBounds_toArray, List.set_cons_zero, List.set_cons_succ]
                  refine wpAnyH_take (i := 11) (v := ?_) rfl (by kernel_rfl) (by kernel_rfl) (by kernel_rfl) (fun _ _ _ h => h) (Or.inl ⟨by rfl, ?_⟩) (by assumption) ?_
                  rotate_left
                  · (intro w hSw; clear hSw; go_simp; try (with_reducible rfl))
                  try simp only [Act.put, List.getElem_toArray, List.getElem_cons_succ, List.getElem_cons_zero, List.setIfInBounds_toArray, List.set_cons_zero, List.set_cons_succ]
                  refine wpAnyH_take (i := 12) (v := ?_) rfl (by kernel_rfl) (by kernel_rfl) (by kernel_rfl) (fun _ _ _ h => h) (Or.inl ⟨by rfl, ?_⟩) (by assumption) ?_
                  rotate_left
                  · (intro w hSw; clear hSw; go_simp; try (with_reducible rfl))
                  try simp only [Act.put, List.getElem_toArray, List.getElem_cons_succ, List.getElem_cons_zero, List.setIfInBounds_toArray, List.set_cons_zero, List.set_cons_succ]
                  refine wpAnyH_take (i := 13) (v := ?_) rfl (by kernel_rfl) (by kernel_rfl) (by kernel_rfl) (fun _ _ _ h => h) (Or.inl ⟨by rfl, ?_⟩) (by assumption) ?_
                  rotate_left
                  · (intro w hSw; clear hSw; go_simp; try (with_reducible rfl))
                  try simp only [Act.put, List.getElem_toArray, List.getElem_cons_succ, List.getElem_cons_zero, List.setIfInBounds_toArray, List.set_cons_zero, List.set_cons_succ]
                  refine wpAnyH_done (by kernel_rfl) ?_ _
                  go_wp2_with fail
                  refine (works_s HC).mono ?_; rintro e wz ⟨rfl, HC⟩
                  go_wp2
                  go_ret
                  first | exact ⟨rfl, HC.out.1⟩ | exact ⟨ret_bool (by simp; omega), HC.out.1⟩
                exact AllReadyH.nil
              exact AllReadyH.nil
            exact AllReadyH.nil
          exact AllReadyH.nil
        refine AllReadyH.cons rfl (fun K hK => ?_) ?_
        · have hcw := HCV.out g1 v7 HBc.out
          go_simp
          clear hcw
          refine hK.out _ _ trivial (fun _ => ?_)
          clear hK K
          try simp only [Act.put, List.getElem_toArray, List.getElem_cons_succ, List.getElem_cons_zero, List.setIfInBounds_toArray, List.set_cons_zero, List.set_cons_succ]
          refine wpAnyH_take (i := 5) (v := ?_) rfl (by kernel_rfl) (by kernel_rfl) (by kernel_rfl) (fun _ _ _ h => h) (Or.inl ⟨by rfl, ?_⟩) (by assumption) ?_
          rotate_left
          · (intro w hSw; clear hSw; go_simp; try (with_reducible rfl))
          try simp only [Act.put, List.getElem_toArray, List.getElem_cons_succ, List.getElem_cons_zero, List.setIfInBounds_toArray, List.set_cons_zero, List.set_cons_succ]
          refine wpAnyH_ready (rs := [1, 6]) (by kernel_rfl) (by simp) ?_
          refine AllReadyH.cons rfl (fun K hK => ?_) ?_
          · go_simp
            refine (clone_s _ L (by have := HLl.out; omega) HU.out HC).mono ?_; rintro e v14 ⟨vc, rfl, HO, hb, HC⟩
            replace HBc := Lib.hid (cell_bl hb HBc.out)
            clear hb
            refine hK.out _ _ trivial (fun _ => ?_)
            clear hK K
            try simp only [Act.put, List.getElem_toArray, List.getElem_cons_succ, List.getElem_cons_zero, List.setIfInBounds_toArray, List.set_cons_zero, List.set_cons_succ]
            refine wpAnyH_ready (rs := [6]) (by kernel_rfl) (by simp) ?_
            refine AllReadyH.cons rfl (fun K hK => ?_) ?_
            · go_simp
              clear HBc
              have HSr := Lib.hid (row_new (w := v14) (A := (.cells #[.string (⟨#[120]⟩ ++ B)] 9)) rfl)
              replace HC := Ms.hal HC (.cells #[.string (⟨#[120]⟩ ++ B)] 9)
              replace HO := Lib.hid (HO.out.alloc (.cells #[.string (⟨#[120]⟩ ++ B)] 9))
              generalize v14.alloc (.cells #[.string (⟨#[120]⟩ ++ B)] 9) = v15 at *
              generalize v14.heap.size = g2 at *
              refine hK.out _ _ trivial (fun _ => ?_)
              clear hK K
              try simp only [Act.put, List.getElem_toArray, List.getElem_cons_succ, List.getElem_cons_zero, List.setIfInBounds_toArray, List.set_cons_zero, List.set_cons_succ]
              refine wpAnyH_ready (rs := [7]) (by kernel_rfl) (by simp) ?_
              refine AllReadyH.cons rfl (fun K hK => ?_) ?_
              · refine step_append_lies _ (by rfl) _ _ _ (by rfl) W0.heap.size 9 i0 _ 1 16 Tryd.underlying23 hi0 hy0 hy1 hy2 rfl (by decide) vc L.length (strV L) (by rfl) HO.out ⟨g2, 0, none⟩ 1 1 [.string (⟨#[120]⟩ ++ B)] (by rfl) (by rfl) (World.news_of_block (cs := #[.string (⟨#[120]⟩ ++ B)]) (t := 9) (fr := (0, 0)) HSr.out) (by simp [Value.oneCell']) (by omega) (by have := HLl.out; unfold maxLen; omega) (by have := HLl.out; omega) HC.out.1.size v15.heap.size rfl ?_
                intro gg cap3 v16 hown1 hgrow hat hlt1
                have HST := Lib.hid (own_Strs (L := L ++ [(⟨#[120]⟩ ++ B)]) (by simpa [strV] using hown1))
                replace HC := Ms.hgrown HM0 HC HO.out hgrow
                clear hown1 hgrow hat hlt1
                refine hK.out _ _ trivial (fun _ => ?_)
                clear hK K
                try simp only [Act.put, List.getElem_toArray, List.getElem_cons_succ, List.getElem_cons_zero, List.setIfInBounds_toArray, List.set_cons_zero, List.set_cons_succ]
                refine wpAnyH_ready (rs := [8]) (by kernel_rfl) (by simp) ?_
                refine AllReadyH.cons rfl (fun K hK => ?_) ?_
                · go_simp
                  refine (join_s _ (L ++ [(⟨#[120]⟩ ++ B)]) (by have := HLl.out; simp; omega) HZ2.out S5 _ HJ5 HST.out HC).mono ?_; rintro e v17 ⟨rfl, _, HC⟩
                  refine hK.out _ _ trivial (fun _ => ?_)
                  clear hK K
                  try simp only [Act.put, List.getElem_toArray, List.getElem_cons_succ, List.getElem_cons_zero, List.setIfInBounds_toArray, List.set_cons_zero, List.set_cons_succ]
                  refine wpAnyH_take (i := 9) (v := ?_) rfl (by kernel_rfl) (by kernel_rfl) (by kernel_rfl) (fun _ _ _ h => h) (Or.inl ⟨by rfl, ?_⟩) (by assumption) ?_
                  rotate_left
                  · (intro w hSw; clear hSw; go_simp; try (with_reducible rfl))
                  try simp only [Act.put, List.getElem_toArray, List.getElem_cons_succ, List.getElem_cons_zero, List.setIfInBounds_toArray, List.set_cons_zero, List.set_cons_succ]
                  refine wpAnyH_take (i := 10) (v := ?_) rfl (by kernel_rfl) (by kernel_rfl) (by kernel_rfl) (fun _ _ _ h => h) (Or.inl ⟨by rfl, ?_⟩) (by assumption) ?_
                  rotate_left
                  · (intro w hSw; clear hSw; go_simp; try (with_reducible rfl))
                  try simp only [Act.put, List.getElem_toArray, List.getElem_cons_succ, List.getElem_cons_zero, List.setIfInBounds_toArray, List.set_cons_zero, List.set_cons_succ]
                  refine wpAnyH_take (i := 11) (v := ?_) rfl (by kernel_rfl) (by kernel_rfl) (by kernel_rfl) (fun _ _ _ h => h) (Or.inl ⟨by rfl, ?_⟩) (by assumption) ?_
                  rotate_left
                  · (intro w hSw; clear hSw; go_simp; try (with_reducible rfl))
                  try simp only [Act.put, List.getElem_toArray, List.getElem_cons_succ, List.getElem_cons_zero, List.setIfInBounds_toArray, List.set_cons_zero, List.set_cons_succ]
                  refine wpAnyH_take (i := 12) (v := ?_) rfl (by kernel_rfl) (by kernel_rfl) (by kernel_rfl) (fun _ _ _ h => h) (Or.inl ⟨by rfl, ?_⟩) (by assumption) ?_
                  rotate_left
                  · (intro w hSw; clear hSw; go_simp; try (with_reducible rfl))
                  try simp only [Act.put, List.getElem_toArray, List.getElem_cons_succ, List.getElem_cons_zero, List.setIfInBounds_toArray, List.set_cons_zero, List.set_cons_succ]
                  refine wpAnyH_take (i := 13) (v := ?_) rfl (by kernel_rfl) (by kernel_rfl) (by kernel_rfl) (fun _ _ _ h => h) (Or.inl ⟨by rfl, ?_⟩) (by assumption) ?_
                  rotate_left
                  · (intro w hSw; clear hSw; go_simp; try (with_reducible rfl))
                  try simp only [Act.put, List.getElem_toArray, List.getElem_cons_succ, List.getElem_cons_zero, List.setIfInBounds_toArray, List.set_cons_zero, List.set_cons_succ]
                  refine wpAnyH_done (by kernel_rfl) ?_ _
                  go_wp2_with fail
                  refine (works_s HC).mono ?_; rintro e wz ⟨rfl, HC⟩
                  go_wp2
                  go_ret
                  first | exact ⟨rfl, HC.out.1⟩ | exact ⟨ret_bool (by simp; omega), HC.out.1⟩
                exact AllReadyH.nil
              exact AllReadyH.nil
            exact AllReadyH.nil
          refine AllReadyH.cons rfl (fun K hK => ?_) ?_
          · go_simp
            clear HBc
            have HSr := Lib.hid (row_new (w := v7) (A := (.cells #[.string (⟨#[120]⟩ ++ B)] 9)) rfl)
            replace HC := Ms.hal HC (.cells #[.string (⟨#[120]⟩ ++ B)] 9)
            replace HU := Lib.hid (HU.out.al (.cells #[.string (⟨#[120]⟩ ++ B)] 9))
            generalize v7.alloc (.cells #[.string (⟨#[120]⟩ ++ B)] 9) = v18 at *
            generalize v7.heap.size = g2 at *
            refine hK.out _ _ trivial (fun _ => ?_)
            clear hK K
            try simp only [Act.put, List.getElem_toArray, List.getElem_cons_succ, List.getElem_cons_zero, List.setIfInBounds_toArray, List.set_cons_zero, List.set_cons_succ]
            refine wpAnyH_ready (rs := [1]) (by kernel_rfl) (by simp) ?_
            refine AllReadyH.cons rfl (fun K hK => ?_) ?_
            · go_simp
              refine (clone_s _ L (by have := HLl.out; omega) HU.out HC).mono ?_; rintro e v19 ⟨vc, rfl, HO, hb, HC⟩
              replace HSr := Lib.hid ((hb.block g2 (Array.getElem?_eq_some_iff.1 HSr.out).1).trans HSr.out)
              clear hb
              refine hK.out _ _ trivial (fun _ => ?_)
              clear hK K
              try simp only [Act.put, List.getElem_toArray, List.getElem_cons_succ, List.getElem_cons_zero, List.setIfInBounds_toArray, List.set_cons_zero, List.set_cons_succ]
              refine wpAnyH_ready (rs := [7]) (by kernel_rfl) (by simp) ?_
              refine AllReadyH.cons rfl (fun K hK => ?_) ?_
              · refine step_append_lies _ (by rfl) _ _ _ (by rfl) W0.heap.size 9 i0 _ 1 16 Tryd.underlying23 hi0 hy0 hy1 hy2 rfl (by decide) vc L.length (strV L) (by rfl) HO.out ⟨g2, 0, none⟩ 1 1 [.string (⟨#[120]⟩ ++ B)] (by rfl) (by rfl) (World.news_of_block (cs := #[.string (⟨#[120]⟩ ++ B)]) (t := 9) (fr := (0, 0)) HSr.out) (by simp [Value.oneCell']) (by omega) (by have := HLl.out; unfold maxLen; omega) (by have := HLl.out; omega) HC.out.1.size v19.heap.size rfl ?_
                intro gg cap3 v20 hown1 hgrow hat hlt1
                have HST := Lib.hid (own_Strs (L := L ++ [(⟨#[120]⟩ ++ B)]) (by simpa [strV] using hown1))
                replace HC := Ms.hgrown HM0 HC HO.out hgrow
                clear hown1 hgrow hat hlt1
                refine hK.out _ _ trivial (fun _ => ?_)
                clear hK K
                try simp only [Act.put, List.getElem_toArray, List.getElem_cons_succ, List.getElem_cons_zero, List.setIfInBounds_toArray, List.set_cons_zero, List.set_cons_succ]
                refine wpAnyH_ready (rs := [8]) (by kernel_rfl) (by simp) ?_
                refine AllReadyH.cons rfl (fun K hK => ?_) ?_
                · go_simp
                  refine (join_s _ (L ++ [(⟨#[120]⟩ ++ B)]) (by have := HLl.out; simp; omega) HZ2.out S5 _ HJ5 HST.out HC).mono ?_; rintro e v21 ⟨rfl, _, HC⟩
                  refine hK.out _ _ trivial (fun _ => ?_)
                  clear hK K
                  try simp only [Act.put, List.getElem_toArray, List.getElem_cons_succ, List.getElem_cons_zero, List.setIfInBounds_toArray, List.set_cons_zero, List.set_cons_succ]
                  refine wpAnyH_take (i := 9) (v := ?_) rfl (by kernel_rfl) (by kernel_rfl) (by kernel_rfl) (fun _ _ _ h => h) (Or.inl ⟨by rfl, ?_⟩) (by assumption) ?_
                  rotate_left
                  · (intro w hSw; clear hSw; go_simp; try (with_reducible rfl))
                  try simp only [Act.put, List.getElem_toArray, List.getElem_cons_succ, List.getElem_cons_zero, List.setIfInBounds_toArray, List.set_cons_zero, List.set_cons_succ]
                  refine wpAnyH_take (i := 10) (v := ?_) rfl (by kernel_rfl) (by kernel_rfl) (by kernel_rfl) (fun _ _ _ h => h) (Or.inl ⟨by rfl, ?_⟩) (by assumption) ?_
                  rotate_left
                  · (intro w hSw; clear hSw; go_simp; try (with_reducible rfl))
                  try simp only [Act.put, List.getElem_toArray, List.getElem_cons_succ, List.getElem_cons_zero, List.setIfInBounds_toArray, List.set_cons_zero, List.set_cons_succ]
                  refine wpAnyH_take (i := 11) (v := ?_) rfl (by kernel_rfl) (by kernel_rfl) (by kernel_rfl) (fun _ _ _ h => h) (Or.inl ⟨by rfl, ?_⟩) (by assumption) ?_
                  rotate_left
                  · (intro w hSw; clear hSw; go_simp; try (with_reducible rfl))
                  try simp only [Act.put, List.getElem_toArray, List.getElem_cons_succ, List.getElem_cons_zero, List.setIfInBounds_toArray, List.set_cons_zero, List.set_cons_succ]
                  refine wpAnyH_take (i := 12) (v := ?_) rfl (by kernel_rfl) (by kernel_rfl) (by kernel_rfl) (fun _ _ _ h => h) (Or.inl ⟨by rfl, ?_⟩) (by assumption) ?_
                  rotate_left
                  · (intro w hSw; clear hSw; go_simp; try (with_reducible rfl))
                  try simp only [Act.put, List.getElem_toArray, List.getElem_cons_succ, List.getElem_cons_zero, List.setIfInBounds_toArray, List.set_cons_zero, List.set_cons_succ]
                  refine wpAnyH_take (i := 13) (v := ?_) rfl (by kernel_rfl) (by kernel_rfl) (by kernel_rfl) (fun _ _ _ h => h) (Or.inl ⟨by rfl, ?_⟩) (by assumption) ?_
                  rotate_left
                  · (intro w hSw; clear hSw; go_simp; try (with_reducible rfl))
                  try simp only [Act.put, List.getElem_toArray, List.getElem_cons_succ, List.getElem_cons_zero, List.setIfInBounds_toArray, List.set_cons_zero, List.set_cons_succ]
                  refine wpAnyH_done (by kernel_rfl) ?_ _
                  go_wp2_with fail
                  refine (works_s HC).mono ?_; rintro e wz ⟨rfl, HC⟩
                  go_wp2
                  go_ret
                  first | exact ⟨rfl, HC.out.1⟩ | exact ⟨ret_bool (by simp; omega), HC.out.1⟩
                exact AllReadyH.nil
              exact AllReadyH.nil
            exact AllReadyH.nil
          exact AllReadyH.nil
        exact AllReadyH.nil
      exact AllReadyH.nil
  all_goals
    go_wp2_with fail
    refine wp_region_held_drew (S := fun _ => True) (by kernel_rfl) trivial (fun hHeld => ?_)
    replace HC := Ms.hdr HC
    replace HU : Hid (Strs w5.drew (.slice ua L.length uc) L) := Lib.hid HU.out
    generalize w5.drew = wd at *
    refine wpAnyH_take (i := 0) (v := ?_) rfl (by kernel_rfl) (by kernel_rfl) (by kernel_rfl) (fun _ _ _ h => h) (Or.inl ⟨by rfl, ?_⟩) (by assumption) ?_
    rotate_left
    · (intro w hSw; clear hSw; go_simp; try (with_reducible rfl))
    try simp only [Act.put, List.getElem_toArray, List.getElem_cons_succ, List.getElem_cons_zero, List.setIfInBounds_toArray, List.set_cons_zero, List.set_cons_succ]
    refine wpAnyH_take (i := 2) (v := ?_) rfl (by kernel_rfl) (by kernel_rfl) (by kernel_rfl) (fun _ _ _ h => h) (Or.inl ⟨by rfl, ?_⟩) (by assumption) ?_
    rotate_left
    · (intro w hSw; clear hSw; go_simp; try (with_reducible rfl))
    try simp only [Act.put, List.getElem_toArray, List.getElem_cons_succ, List.getElem_cons_zero, List.setIfInBounds_toArray, List.set_cons_zero, List.set_cons_succ]
    refine wpAnyH_ready (rs := [1, 3]) (by kernel_rfl) (by simp) ?_
    refine AllReadyH.cons rfl (fun K hK => ?_) ?_
    · go_simp
      refine (clone_s _ L (by have := HLl.out; omega) HU.out HC).mono ?_; rintro e v22 ⟨vc, rfl, HO, hb, HC⟩
      clear hb
      refine hK.out _ _ trivial (fun _ => ?_)
      clear hK K
      try simp only [Act.put, List.getElem_toArray, List.getElem_cons_succ, List.getElem_cons_zero, List.setIfInBounds_toArray, List.set_cons_zero, List.set_cons_succ]
      refine wpAnyH_ready (rs := [3]) (by kernel_rfl) (by simp) ?_
      refine AllReadyH.cons rfl (fun K hK => ?_) ?_
      · go_simp
        have HBc := Lib.hid (new_cell v22 #[.int .u8 c] 5 0 (.int .u8 c) rfl)
        replace HC := Ms.hal HC (.cells #[.int .u8 c] 5)
        replace HO := Lib.hid (HO.out.alloc (.cells #[.int .u8 c] 5))
        generalize v22.alloc (.cells #[.int .u8 c] 5) = v23 at *
        generalize v22.heap.size = g1 at *
        refine hK.out _ _ trivial (fun _ => ?_)
        clear hK K
        try simp only [Act.put, List.getElem_toArray, List.getElem_cons_succ, List.getElem_cons_zero, List.setIfInBounds_toArray, List.set_cons_zero, List.set_cons_succ]
        refine wpAnyH_ready (rs := [4]) (by kernel_rfl) (by simp) ?_
        refine AllReadyH.cons rfl (fun K hK => ?_) ?_
        · have hcw := HCV.out g1 v23 HBc.out
          go_simp
          clear hcw
          refine hK.out _ _ trivial (fun _ => ?_)
          clear hK K
          try simp only [Act.put, List.getElem_toArray, List.getElem_cons_succ, List.getElem_cons_zero, List.setIfInBounds_toArray, List.set_cons_zero, List.set_cons_succ]
          refine wpAnyH_take (i := 5) (v := ?_) rfl (by kernel_rfl) (by kernel_rfl) (by kernel_rfl) (fun _ _ _ h => h) (Or.inl ⟨by rfl, ?_⟩) (by assumption) ?_
          rotate_left
          · (intro w hSw; clear hSw; go_simp; try (with_reducible rfl))
          try simp only [Act.put, List.getElem_toArray, List.getElem_cons_succ, List.getElem_cons_zero, List.setIfInBounds_toArray, List.set_cons_zero, List.set_cons_succ]
          refine wpAnyH_ready (rs := [6]) (by kernel_rfl) (by simp) ?_
          refine AllReadyH.cons rfl (fun K hK => ?_) ?_
          · go_simp
            clear HBc
            have HSr := Lib.hid (row_new (w := v23) (A := (.cells #[.string (⟨#[120]⟩ ++ B)] 9)) rfl)
            replace HC := Ms.hal HC (.cells #[.string (⟨#[120]⟩ ++ B)] 9)
            replace HO := Lib.hid (HO.out.alloc (.cells #[.string (⟨#[120]⟩ ++ B)] 9))
            generalize v23.alloc (.cells #[.string (⟨#[120]⟩ ++ B)] 9) = v25 at *
            generalize v23.heap.size = g2 at *
            refine hK.out _ _ trivial (fun _ => ?_)
            clear hK K
            try simp only [Act.put, List.getElem_toArray, List.getElem_cons_succ, List.getElem_cons_zero, List.setIfInBounds_toArray, List.set_cons_zero, List.set_cons_succ]
            refine wpAnyH_ready (rs := [7]) (by kernel_rfl) (by simp) ?_
            refine AllReadyH.cons rfl (fun K hK => ?_) ?_
            · refine step_append_lies _ (by rfl) _ _ _ (by rfl) W0.heap.size 9 i0 _ 1 16 Tryd.underlying23 hi0 hy0 hy1 hy2 rfl (by decide) vc L.length (strV L) (by rfl) HO.out ⟨g2, 0, none⟩ 1 1 [.string (⟨#[120]⟩ ++ B)] (by rfl) (by rfl) (World.news_of_block (cs := #[.string (⟨#[120]⟩ ++ B)]) (t := 9) (fr := (0, 0)) HSr.out) (by simp [Value.oneCell']) (by omega) (by have := HLl.out; unfold maxLen; omega) (by have := HLl.out; omega) HC.out.1.size v25.heap.size rfl ?_
              intro gg cap3 v26 hown1 hgrow hat hlt1
              have HST := Lib.hid (own_Strs (L := L ++ [(⟨#[120]⟩ ++ B)]) (by simpa [strV] using hown1))
              replace HC := Ms.hgrown HM0 HC HO.out hgrow
              clear hown1 hgrow hat hlt1
              refine hK.out _ _ trivial (fun _ => ?_)
              clear hK K
              try simp only [Act.put, List.getElem_toArray, List.getElem_cons_succ, List.getElem_cons_zero, List.setIfInBounds_toArray, List.set_cons_zero, List.set_cons_succ]
              refine wpAnyH_ready (rs := [8]) (by kernel_rfl) (by simp) ?_
              refine AllReadyH.cons rfl (fun K hK => ?_) ?_
              · go_simp
                refine (join_s _ (L ++ [(⟨#[120]⟩ ++ B)]) (by have := HLl.out; simp; omega) HZ2.out S5 _ HJ5 HST.out HC).mono ?_; rintro e v27 ⟨rfl, _, HC⟩
                refine hK.out _ _ trivial (fun _ => ?_)
                clear hK K
                try simp only [Act.put, List.getElem_toArray, List.getElem_cons_succ, List.getElem_cons_zero, List.setIfInBounds_toArray, List.set_cons_zero, List.set_cons_succ]
                refine wpAnyH_take (i := 9) (v := ?_) rfl (by kernel_rfl) (by kernel_rfl) (by kernel_rfl) (fun _ _ _ h => h) (Or.inl ⟨by rfl, ?_⟩) (by assumption) ?_
                rotate_left
                · (intro w hSw; clear hSw; go_simp; try (with_reducible rfl))
                try simp only [Act.put, List.getElem_toArray, List.getElem_cons_succ, List.getElem_cons_zero, List.setIfInBounds_toArray, List.set_cons_zero, List.set_cons_succ]
                refine wpAnyH_take (i := 10) (v := ?_) rfl (by kernel_rfl) (by kernel_rfl) (by kernel_rfl) (fun _ _ _ h => h) (Or.inl ⟨by rfl, ?_⟩) (by assumption) ?_
                rotate_left
                · (intro w hSw; clear hSw; go_simp; try (with_reducible rfl))
                try simp only [Act.put, List.getElem_toArray, List.getElem_cons_succ, List.getElem_cons_zero, List.setIfInBounds_toArray, List.set_cons_zero, List.set_cons_succ]
                refine wpAnyH_take (i := 11) (v := ?_) rfl (by kernel_rfl) (by kernel_rfl) (by kernel_rfl) (fun _ _ _ h => h) (Or.inl ⟨by rfl, ?_⟩) (by assumption) ?_
                rotate_left
                · (intro w hSw; clear hSw; go_simp; try (with_reducible rfl))
                try simp only [Act.put, List.getElem_toArray, List.getElem_cons_succ, List.getElem_cons_zero, List.setIfInBounds_toArray, List.set_cons_zero, List.set_cons_succ]
                refine wpAnyH_take (i := 12) (v := ?_) rfl (by kernel_rfl) (by kernel_rfl) (by kernel_rfl) (fun _ _ _ h => h) (Or.inl ⟨by rfl, ?_⟩) (by assumption) ?_
                rotate_left
                · (intro w hSw; clear hSw; go_simp; try (with_reducible rfl))
                try simp only [Act.put, List.getElem_toArray, List.getElem_cons_succ, List.getElem_cons_zero, List.setIfInBounds_toArray, List.set_cons_zero, List.set_cons_succ]
                refine wpAnyH_take (i := 13) (v := ?_) rfl (by kernel_rfl) (by kernel_rfl) (by kernel_rfl) (fun _ _ _ h => h) (Or.inl ⟨by rfl, ?_⟩) (by assumption) ?_
                rotate_left
                · (intro w hSw; clear hSw; go_simp; try (with_reducible rfl))
                try simp only [Act.put, List.getElem_toArray, List.getElem_cons_succ, List.getElem_cons_zero, List.setIfInBounds_toArray, List.set_cons_zero, List.set_cons_succ]
                refine wpAnyH_done (by kernel_rfl) ?_ _
                go_wp2_with fail
                refine (works_s HC).mono ?_; rintro e wz ⟨rfl, HC⟩
                go_wp2
                go_ret
                first | exact ⟨rfl, HC.out.1⟩ | exact ⟨ret_bool (by simp; omega), HC.out.1⟩
              exact AllReadyH.nil
            exact AllReadyH.nil
          exact AllReadyH.nil
        exact AllReadyH.nil
      exact AllReadyH.nil
    refine AllReadyH.cons rfl (fun K hK => ?_) ?_
    · go_simp
      have HBc := Lib.hid (new_cell wd #[.int .u8 c] 5 0 (.int .u8 c) rfl)
      replace HC := Ms.hal HC (.cells #[.int .u8 c] 5)
      replace HU := Lib.hid (HU.out.al (.cells #[.int .u8 c] 5))
      generalize wd.alloc (.cells #[.int .u8 c] 5) = v28 at *
      generalize wd.heap.size = g1 at *
      refine hK.out _ _ trivial (fun _ => ?_)
      clear hK K
      try simp only [Act.put, List.getElem_toArray, List.getElem_cons_succ, List.getElem_cons_zero, List.setIfInBounds_toArray, List.set_cons_zero, List.set_cons_succ]
      refine wpAnyH_ready (rs := [1, 4]) (by kernel_rfl) (by simp) ?_
      refine AllReadyH.cons rfl (fun K hK => ?_) ?_
      · go_simp
        refine (clone_s _ L (by have := HLl.out; omega) HU.out HC).mono ?_; rintro e v29 ⟨vc, rfl, HO, hb, HC⟩
        replace HBc := Lib.hid (cell_bl hb HBc.out)
        clear hb
        refine hK.out _ _ trivial (fun _ => ?_)
        clear hK K
        try simp only [Act.put, List.getElem_toArray, List.getElem_cons_succ, List.getElem_cons_zero, List.setIfInBounds_toArray, List.set_cons_zero, List.set_cons_succ]
        refine wpAnyH_ready (rs := [4]) (by kernel_rfl) (by simp) ?_
        refine AllReadyH.cons rfl (fun K hK => ?_) ?_
        · have hcw := HCV.out g1 v29 HBc.out
          go_simp
          clear hcw
          refine hK.out _ _ trivial (fun _ => ?_)
          clear hK K
          try simp only [Act.put, List.getElem_toArray, List.getElem_cons_succ, List.getElem_cons_zero, List.setIfInBounds_toArray, List.set_cons_zero, List.set_cons_succ]
          refine wpAnyH_take (i := 5) (v := ?_) rfl (by kernel_rfl) (by kernel_rfl) (by kernel_rfl) (fun _ _ _ h => h) (Or.inl ⟨by rfl, ?_⟩) (by assumption) ?_
          rotate_left
          · (intro w hSw; clear hSw; go_simp; try (with_reducible rfl))
          try simp only [Act.put, List.getElem_toArray, List.getElem_cons_succ, List.getElem_cons_zero, List.setIfInBounds_toArray, List.set_cons_zero, List.set_cons_succ]
          refine wpAnyH_ready (rs := [6]) (by kernel_rfl) (by simp) ?_
          refine AllReadyH.cons rfl (fun K hK => ?_) ?_
          · go_simp
            clear HBc
            have HSr := Lib.hid (row_new (w := v29) (A := (.cells #[.string (⟨#[120]⟩ ++ B)] 9)) rfl)
            replace HC := Ms.hal HC (.cells #[.string (⟨#[120]⟩ ++ B)] 9)
            replace HO := Lib.hid (HO.out.alloc (.cells #[.string (⟨#[120]⟩ ++ B)] 9))
            generalize v29.alloc (.cells #[.string (⟨#[120]⟩ ++ B)] 9) = v31 at *
            generalize v29.heap.size = g2 at *
            refine hK.out _ _ trivial (fun _ => ?_)
            clear hK K
            try simp only [Act.put, List.getElem_toArray, List.getElem_cons_succ, List.getElem_cons_zero, List.setIfInBounds_toArray, List.set_cons_zero, List.set_cons_succ]
            refine wpAnyH_ready (rs := [7]) (by kernel_rfl) (by simp) ?_
            refine AllReadyH.cons rfl (fun K hK => ?_) ?_
            · refine step_append_lies _ (by rfl) _ _ _ (by rfl) W0.heap.size 9 i0 _ 1 16 Tryd.underlying23 hi0 hy0 hy1 hy2 rfl (by decide) vc L.length (strV L) (by rfl) HO.out ⟨g2, 0, none⟩ 1 1 [.string (⟨#[120]⟩ ++ B)] (by rfl) (by rfl) (World.news_of_block (cs := #[.string (⟨#[120]⟩ ++ B)]) (t := 9) (fr := (0, 0)) HSr.out) (by simp [Value.oneCell']) (by omega) (by have := HLl.out; unfold maxLen; omega) (by have := HLl.out; omega) HC.out.1.size v31.heap.size rfl ?_
              intro gg cap3 v32 hown1 hgrow hat hlt1
              have HST := Lib.hid (own_Strs (L := L ++ [(⟨#[120]⟩ ++ B)]) (by simpa [strV] using hown1))
              replace HC := Ms.hgrown HM0 HC HO.out hgrow
              clear hown1 hgrow hat hlt1
              refine hK.out _ _ trivial (fun _ => ?_)
              clear hK K
              try simp only [Act.put, List.getElem_toArray, List.getElem_cons_succ, List.getElem_cons_zero, List.setIfInBounds_toArray, List.set_cons_zero, List.set_cons_succ]
              refine wpAnyH_ready (rs := [8]) (by kernel_rfl) (by simp) ?_
              refine AllReadyH.cons rfl (fun K hK => ?_) ?_
              · go_simp
                refine (join_s _ (L ++ [(⟨#[120]⟩ ++ B)]) (by have := HLl.out; simp; omega) HZ2.out S5 _ HJ5 HST.out HC).mono ?_; rintro e v33 ⟨rfl, _, HC⟩
                refine hK.out _ _ trivial (fun _ => ?_)
                clear hK K
                try simp only [Act.put, List.getElem_toArray, List.getElem_cons_succ, List.getElem_cons_zero, List.setIfInBounds_toArray, List.set_cons_zero, List.set_cons_succ]
                refine wpAnyH_take (i := 9) (v := ?_) rfl (by kernel_rfl) (by kernel_rfl) (by kernel_rfl) (fun _ _ _ h => h) (Or.inl ⟨by rfl, ?_⟩) (by assumption) ?_
                rotate_left
                · (intro w hSw; clear hSw; go_simp; try (with_reducible rfl))
                try simp only [Act.put, List.getElem_toArray, List.getElem_cons_succ, List.getElem_cons_zero, List.setIfInBounds_toArray, List.set_cons_zero, List.set_cons_succ]
                refine wpAnyH_take (i := 10) (v := ?_) rfl (by kernel_rfl) (by kernel_rfl) (by kernel_rfl) (fun _ _ _ h => h) (Or.inl ⟨by rfl, ?_⟩) (by assumption) ?_
                rotate_left
                · (intro w hSw; clear hSw; go_simp; try (with_reducible rfl))
                try simp only [Act.put, List.getElem_toArray, List.getElem_cons_succ, List.getElem_cons_zero, List.setIfInBounds_toArray, List.set_cons_zero, List.set_cons_succ]
                refine wpAnyH_take (i := 11) (v := ?_) rfl (by kernel_rfl) (by kernel_rfl) (by kernel_rfl) (fun _ _ _ h => h) (Or.inl ⟨by rfl, ?_⟩) (by assumption) ?_
                rotate_left
                · (intro w hSw; clear hSw; go_simp; try (with_reducible rfl))
                try simp only [Act.put, List.getElem_toArray, List.getElem_cons_succ, List.getElem_cons_zero, List.setIfInBounds_toArray, List.set_cons_zero, List.set_cons_succ]
                refine wpAnyH_take (i := 12) (v := ?_) rfl (by kernel_rfl) (by kernel_rfl) (by kernel_rfl) (fun _ _ _ h => h) (Or.inl ⟨by rfl, ?_⟩) (by assumption) ?_
                rotate_left
                · (intro w hSw; clear hSw; go_simp; try (with_reducible rfl))
                try simp only [Act.put, List.getElem_toArray, List.getElem_cons_succ, List.getElem_cons_zero, List.setIfInBounds_toArray, List.set_cons_zero, List.set_cons_succ]
                refine wpAnyH_take (i := 13) (v := ?_) rfl (by kernel_rfl) (by kernel_rfl) (by kernel_rfl) (fun _ _ _ h => h) (Or.inl ⟨by rfl, ?_⟩) (by assumption) ?_
                rotate_left
                · (intro w hSw; clear hSw; go_simp; try (with_reducible rfl))
                try simp only [Act.put, List.getElem_toArray, List.getElem_cons_succ, List.getElem_cons_zero, List.setIfInBounds_toArray, List.set_cons_zero, List.set_cons_succ]
                refine wpAnyH_done (by kernel_rfl) ?_ _
                go_wp2_with fail
                refine (works_s HC).mono ?_; rintro e wz ⟨rfl, HC⟩
                go_wp2
                go_ret
                first | exact ⟨rfl, HC.out.1⟩ | exact ⟨ret_bool (by simp; omega), HC.out.1⟩
              exact AllReadyH.nil
            exact AllReadyH.nil
          exact AllReadyH.nil
        exact AllReadyH.nil
      refine AllReadyH.cons rfl (fun K hK => ?_) ?_
      · have hcw := HCV.out g1 v28 HBc.out
        go_simp
        clear hcw
        refine hK.out _ _ trivial (fun _ => ?_)
        clear hK K
        try simp only [Act.put, List.getElem_toArray, List.getElem_cons_succ, List.getElem_cons_zero, List.setIfInBounds_toArray, List.set_cons_zero, List.set_cons_succ]
        refine wpAnyH_take (i := 5) (v := ?_) rfl (by kernel_rfl) (by kernel_rfl) (by kernel_rfl) (fun _ _ _ h => h) (Or.inl ⟨by rfl, ?_⟩) (by assumption) ?_
        rotate_left
        · (intro w hSw; clear hSw; go_simp; try (with_reducible rfl))
        try simp only [Act.put, List.getElem_toArray, List.getElem_cons_succ, List.getElem_cons_zero, List.setIfInBounds_toArray, List.set_cons_zero, List.set_cons_succ]
        refine wpAnyH_ready (rs := [1, 6]) (by kernel_rfl) (by simp) ?_
        refine AllReadyH.cons rfl (fun K hK => ?_) ?_
        · go_simp
          refine (clone_s _ L (by have := HLl.out; omega) HU.out HC).mono ?_; rintro e v35 ⟨vc, rfl, HO, hb, HC⟩
          replace HBc := Lib.hid (cell_bl hb HBc.out)
          clear hb
          refine hK.out _ _ trivial (fun _ => ?_)
          clear hK K
          try simp only [Act.put, List.getElem_toArray, List.getElem_cons_succ, List.getElem_cons_zero, List.setIfInBounds_toArray, List.set_cons_zero, List.set_cons_succ]
          refine wpAnyH_ready (rs := [6]) (by kernel_rfl) (by simp) ?_
          refine AllReadyH.cons rfl (fun K hK => ?_) ?_
          · go_simp
            clear HBc
            have HSr := Lib.hid (row_new (w := v35) (A := (.cells #[.string (⟨#[120]⟩ ++ B)] 9)) rfl)
            replace HC := Ms.hal HC (.cells #[.string (⟨#[120]⟩ ++ B)] 9)
            replace HO := Lib.hid (HO.out.alloc (.cells #[.string (⟨#[120]⟩ ++ B)] 9))
            generalize v35.alloc (.cells #[.string (⟨#[120]⟩ ++ B)] 9) = v36 at *
            generalize v35.heap.size = g2 at *
            refine hK.out _ _ trivial (fun _ => ?_)
            clear hK K
            try simp only [Act.put, List.getElem_toArray, List.getElem_cons_succ, List.getElem_cons_zero, List.setIfInBounds_toArray, List.set_cons_zero, List.set_cons_succ]
            refine wpAnyH_ready (rs := [7]) (by kernel_rfl) (by simp) ?_
            refine AllReadyH.cons rfl (fun K hK => ?_) ?_
            · refine step_append_lies _ (by rfl) _ _ _ (by rfl) W0.heap.size 9 i0 _ 1 16 Tryd.underlying23 hi0 hy0 hy1 hy2 rfl (by decide) vc L.length (strV L) (by rfl) HO.out ⟨g2, 0, none⟩ 1 1 [.string (⟨#[120]⟩ ++ B)] (by rfl) (by rfl) (World.news_of_block (cs := #[.string (⟨#[120]⟩ ++ B)]) (t := 9) (fr := (0, 0)) HSr.out) (by simp [Value.oneCell']) (by omega) (by have := HLl.out; unfold maxLen; omega) (by have := HLl.out; omega) HC.out.1.size v36.heap.size rfl ?_
              intro gg cap3 v37 hown1 hgrow hat hlt1
              have HST := Lib.hid (own_Strs (L := L ++ [(⟨#[120]⟩ ++ B)]) (by simpa [strV] using hown1))
              replace HC := Ms.hgrown HM0 HC HO.out hgrow
              clear hown1 hgrow hat hlt1
              refine hK.out _ _ trivial (fun _ => ?_)
              clear hK K
              try simp only [Act.put, List.getElem_toArray, List.getElem_cons_succ, List.getElem_cons_zero, List.setIfInBounds_toArray, List.set_cons_zero, List.set_cons_succ]
              refine wpAnyH_ready (rs := [8]) (by kernel_rfl) (by simp) ?_
              refine AllReadyH.cons rfl (fun K hK => ?_) ?_
              · go_simp
                refine (join_s _ (L ++ [(⟨#[120]⟩ ++ B)]) (by have := HLl.out; simp; omega) HZ2.out S5 _ HJ5 HST.out HC).mono ?_; rintro e v38 ⟨rfl, _, HC⟩
                refine hK.out _ _ trivial (fun _ => ?_)
                clear hK K
                try simp only [Act.put, List.getElem_toArray, List.getElem_cons_succ, List.getElem_cons_zero, List.setIfInBounds_toArray, List.set_cons_zero, List.set_cons_succ]
                refine wpAnyH_take (i := 9) (v := ?_) rfl (by kernel_rfl) (by kernel_rfl) (by kernel_rfl) (fun _ _ _ h => h) (Or.inl ⟨by rfl, ?_⟩) (by assumption) ?_
                rotate_left
                · (intro w hSw; clear hSw; go_simp; try (with_reducible rfl))
                try simp only [Act.put, List.getElem_toArray, List.getElem_cons_succ, List.getElem_cons_zero, List.setIfInBounds_toArray, List.set_cons_zero, List.set_cons_succ]
                refine wpAnyH_take (i := 10) (v := ?_) rfl (by kernel_rfl) (by kernel_rfl) (by kernel_rfl) (fun _ _ _ h => h) (Or.inl ⟨by rfl, ?_⟩) (by assumption) ?_
                rotate_left
                · (intro w hSw; clear hSw; go_simp; try (with_reducible rfl))
                try simp only [Act.put, List.getElem_toArray, List.getElem_cons_succ, List.getElem_cons_zero, List.setIfInBounds_toArray, List.set_cons_zero, List.set_cons_succ]
                refine wpAnyH_take (i := 11) (v := ?_) rfl (by kernel_rfl) (by kernel_rfl) (by kernel_rfl) (fun _ _ _ h => h) (Or.inl ⟨by rfl, ?_⟩) (by assumption) ?_
                rotate_left
                · (intro w hSw; clear hSw; go_simp; try (with_reducible rfl))
                try simp only [Act.put, List.getElem_toArray, List.getElem_cons_succ, List.getElem_cons_zero, List.setIfInBounds_toArray, List.set_cons_zero, List.set_cons_succ]
                refine wpAnyH_take (i := 12) (v := ?_) rfl (by kernel_rfl) (by kernel_rfl) (by kernel_rfl) (fun _ _ _ h => h) (Or.inl ⟨by rfl, ?_⟩) (by assumption) ?_
                rotate_left
                · (intro w hSw; clear hSw; go_simp; try (with_reducible rfl))
                try simp only [Act.put, List.getElem_toArray, List.getElem_cons_succ, List.getElem_cons_zero, List.setIfInBounds_toArray, List.set_cons_zero, List.set_cons_succ]
                refine wpAnyH_take (i := 13) (v := ?_) rfl (by kernel_rfl) (by kernel_rfl) (by kernel_rfl) (fun _ _ _ h => h) (Or.inl ⟨by rfl, ?_⟩) (by assumption) ?_
                rotate_left
                · (intro w hSw; clear hSw; go_simp; try (with_reducible rfl))
                try simp only [Act.put, List.getElem_toArray, List.getElem_cons_succ, List.getElem_cons_zero, List.setIfInBounds_toArray, List.set_cons_zero, List.set_cons_succ]
                refine wpAnyH_done (by kernel_rfl) ?_ _
                go_wp2_with fail
                refine (works_s HC).mono ?_; rintro e wz ⟨rfl, HC⟩
                go_wp2
                go_ret
                first | exact ⟨rfl, HC.out.1⟩ | exact ⟨ret_bool (by simp; omega), HC.out.1⟩
              exact AllReadyH.nil
            exact AllReadyH.nil
          exact AllReadyH.nil
        refine AllReadyH.cons rfl (fun K hK => ?_) ?_
        · go_simp
          clear HBc
          have HSr := Lib.hid (row_new (w := v28) (A := (.cells #[.string (⟨#[120]⟩ ++ B)] 9)) rfl)
          replace HC := Ms.hal HC (.cells #[.string (⟨#[120]⟩ ++ B)] 9)
          replace HU := Lib.hid (HU.out.al (.cells #[.string (⟨#[120]⟩ ++ B)] 9))
          generalize v28.alloc (.cells #[.string (⟨#[120]⟩ ++ B)] 9) = v39 at *
          generalize v28.heap.size = g2 at *
          refine hK.out _ _ trivial (fun _ => ?_)
          clear hK K
          try simp only [Act.put, List.getElem_toArray, List.getElem_cons_succ, List.getElem_cons_zero, List.setIfInBounds_toArray, List.set_cons_zero, List.set_cons_succ]
          refine wpAnyH_ready (rs := [1]) (by kernel_rfl) (by simp) ?_
          refine AllReadyH.cons rfl (fun K hK => ?_) ?_
          · go_simp
            refine (clone_s _ L (by have := HLl.out; omega) HU.out HC).mono ?_; rintro e v40 ⟨vc, rfl, HO, hb, HC⟩
            replace HSr := Lib.hid ((hb.block g2 (Array.getElem?_eq_some_iff.1 HSr.out).1).trans HSr.out)
            clear hb
            refine hK.out _ _ trivial (fun _ => ?_)
            clear hK K
            try simp only [Act.put, List.getElem_toArray, List.getElem_cons_succ, List.getElem_cons_zero, List.setIfInBounds_toArray, List.set_cons_zero, List.set_cons_succ]
            refine wpAnyH_ready (rs := [7]) (by kernel_rfl) (by simp) ?_
            refine AllReadyH.cons rfl (fun K hK => ?_) ?_
            · refine step_append_lies _ (by rfl) _ _ _ (by rfl) W0.heap.size 9 i0 _ 1 16 Tryd.underlying23 hi0 hy0 hy1 hy2 rfl (by decide) vc L.length (strV L) (by rfl) HO.out ⟨g2, 0, none⟩ 1 1 [.string (⟨#[120]⟩ ++ B)] (by rfl) (by rfl) (World.news_of_block (cs := #[.string (⟨#[120]⟩ ++ B)]) (t := 9) (fr := (0, 0)) HSr.out) (by simp [Value.oneCell']) (by omega) (by have := HLl.out; unfold maxLen; omega) (by have := HLl.out; omega) HC.out.1.size v40.heap.size rfl ?_
              intro gg cap3 v41 hown1 hgrow hat hlt1
              have HST := Lib.hid (own_Strs (L := L ++ [(⟨#[120]⟩ ++ B)]) (by simpa [strV] using hown1))
              replace HC := Ms.hgrown HM0 HC HO.out hgrow
              clear hown1 hgrow hat hlt1
              refine hK.out _ _ trivial (fun _ => ?_)
              clear hK K
              try simp only [Act.put, List.getElem_toArray, List.getElem_cons_succ, List.getElem_cons_zero, List.setIfInBounds_toArray, List.set_cons_zero, List.set_cons_succ]
              refine wpAnyH_ready (rs := [8]) (by kernel_rfl) (by simp) ?_
              refine AllReadyH.cons rfl (fun K hK => ?_) ?_
              · go_simp
                refine (join_s _ (L ++ [(⟨#[120]⟩ ++ B)]) (by have := HLl.out; simp; omega) HZ2.out S5 _ HJ5 HST.out HC).mono ?_; rintro e v42 ⟨rfl, _, HC⟩
                refine hK.out _ _ trivial (fun _ => ?_)
                clear hK K
                try simp only [Act.put, List.getElem_toArray, List.getElem_cons_succ, List.getElem_cons_zero, List.setIfInBounds_toArray, List.set_cons_zero, List.set_cons_succ]
                refine wpAnyH_take (i := 9) (v := ?_) rfl (by kernel_rfl) (by kernel_rfl) (by kernel_rfl) (fun _ _ _ h => h) (Or.inl ⟨by rfl, ?_⟩) (by assumption) ?_
                rotate_left
                · (intro w hSw; clear hSw; go_simp; try (with_reducible rfl))
                try simp only [Act.put, List.getElem_toArray, List.getElem_cons_succ, List.getElem_cons_zero, List.setIfInBounds_toArray, List.set_cons_zero, List.set_cons_succ]
                refine wpAnyH_take (i := 10) (v := ?_) rfl (by kernel_rfl) (by kernel_rfl) (by kernel_rfl) (fun _ _ _ h => h) (Or.inl ⟨by rfl, ?_⟩) (by assumption) ?_
                rotate_left
                · (intro w hSw; clear hSw; go_simp; try (with_reducible rfl))
                try simp only [Act.put, List.getElem_toArray, List.getElem_cons_succ, List.getElem_cons_zero, List.setIfInBounds_toArray, List.set_cons_zero, List.set_cons_succ]
                refine wpAnyH_take (i := 11) (v := ?_) rfl (by kernel_rfl) (by kernel_rfl) (by kernel_rfl) (fun _ _ _ h => h) (Or.inl ⟨by rfl, ?_⟩) (by assumption) ?_
                rotate_left
                · (intro w hSw; clear hSw; go_simp; try (with_reducible rfl))
                try simp only [Act.put, List.getElem_toArray, List.getElem_cons_succ, List.getElem_cons_zero, List.setIfInBounds_toArray, List.set_cons_zero, List.set_cons_succ]
                refine wpAnyH_take (i := 12) (v := ?_) rfl (by kernel_rfl) (by kernel_rfl) (by kernel_rfl) (fun _ _ _ h => h) (Or.inl ⟨by rfl, ?_⟩) (by assumption) ?_
                rotate_left
                · (intro w hSw; clear hSw; go_simp; try (with_reducible rfl))
                try simp only [Act.put, List.getElem_toArray, List.getElem_cons_succ, List.getElem_cons_zero, List.setIfInBounds_toArray, List.set_cons_zero, List.set_cons_succ]
                refine wpAnyH_take (i := 13) (v := ?_) rfl (by kernel_rfl) (by kernel_rfl) (by kernel_rfl) (fun _ _ _ h => h) (Or.inl ⟨by rfl, ?_⟩) (by assumption) ?_
                rotate_left
                · (intro w hSw; clear hSw; go_simp; try (with_reducible rfl))
                try simp only [Act.put, List.getElem_toArray, List.getElem_cons_succ, List.getElem_cons_zero, List.setIfInBounds_toArray, List.set_cons_zero, List.set_cons_succ]
                refine wpAnyH_done (by kernel_rfl) ?_ _
                go_wp2_with fail
                refine (works_s HC).mono ?_; rintro e wz ⟨rfl, HC⟩
                go_wp2
                go_ret
                first | exact ⟨rfl, HC.out.1⟩ | exact ⟨ret_bool (by simp; omega), HC.out.1⟩
              exact AllReadyH.nil
            exact AllReadyH.nil
          exact AllReadyH.nil
        exact AllReadyH.nil
      exact AllReadyH.nil
    exact AllReadyH.nil
theorem slice_d (a : Option Addr) (n cp q : Nat) (hq : q ≤ cp) (ha : a = none → cp = 0 ∨ q = 0) (wx : World) : (Instr.slice 36 (.slice a n cp) none (some (.int .i64 (q : Int))) none).run Tryd.prog wx = .ok (.slice a q cp) wx := by
  have h0 : (0 : Int) ≤ (q : Int) := by omega
  have h1 : (q : Int) ≤ (cp : Int) := by omega
  cases a with
  | none =>
    clear ha
    go_simp
  | some a =>
    clear ha
    go_simp
theorem wrong_walk (W0 : World) (v : Value) (D : List (List UInt8)) (hI : Drf W0 v D) (_hz : ∀ l ∈ D, l.length ≤ maxLen) (_hl : D.length ≤ maxLen) (c : Int) (hc : (Lit.int .u8 c).wf = true) (a : Int) (ha : (Lit.int .u8 a).wf = true) (hM : MaxW W0) :
    Calls Tryd.prog 8 #[v, .int .u8 c, .int .u8 a] W0 fun e w' => e = .returned (.bool true) ∧ Below W0.heap.size W0 w' := by
  have h1 := bounds_u8 hc
  have h2 := bounds_u8 ha
  have hcb : (UInt8.ofNat c.toNat).toNat = c.toNat := by rw [UInt8.toNat_ofNat']; omega
  have hcase : ∀ D' : List (List UInt8), D'.length ≤ 6 → ∃ S5 g5, Lx.jn (Lx.made D' ++ [[120, UInt8.ofNat c.toNat]]) = (S5, g5) ∧ ((((c < 32 ∧ (c != 9) = true) ∨ 126 < c) ∧ S5.toList.isEmpty = true ∧ g5 = 2) ∨ ((c < 32 ∧ (c != 9) = false) ∧ S5.toList.isEmpty = true ∧ g5 = 2) ∨ ((32 ≤ c ∧ c ≤ 126 ∧ (c == 34) = true) ∧ S5.toList.isEmpty = true ∧ g5 = 2) ∨ ((32 ≤ c ∧ c ≤ 126 ∧ (c == 34) = false) ∧ S5.toList.isEmpty = false ∧ g5 = 0)) := by
    intro D' hD
    have hE : (⟨#[]⟩ : ByteArray).toList.isEmpty = true := by rw [isEmpty_list]; rfl
    by_cases k : c < 32 ∨ 126 < c ∨ c = 34
    · refine ⟨_, _, Lx.more_bad _ _ (by rw [hcb]; omega), ?_⟩
      by_cases k9 : c = 9
      · exact .inr (.inl ⟨⟨by omega, by rw [k9]; rfl⟩, hE, rfl⟩)
      · by_cases k34 : c = 34
        · exact .inr (.inr (.inl ⟨⟨by omega, by omega, by rw [k34]; rfl⟩, hE, rfl⟩))
        · refine .inl ⟨?_, hE, rfl⟩
          rcases k with k | k | k
          · exact .inl ⟨k, by simpa using k9⟩
          · exact .inr k
          · exact absurd k k34
    · have hm : (Lx.made D').length ≤ 6 := by unfold Lx.made; rw [List.length_map, List.length_take]; omega
      obtain ⟨e1, e2⟩ := Lx.more_fine (Lx.made D') (Lx.made_each D') hm (UInt8.ofNat c.toNat) (by rw [hcb]; omega)
      refine ⟨_, _, e1, .inr (.inr (.inr ⟨⟨by omega, by omega, by simp; omega⟩, ?_, rfl⟩))⟩
      rw [isEmpty_list, Lx.data_bs]
      cases h : Lx.line (Lx.made D' ++ [[120, UInt8.ofNat c.toNat]]) with
      | nil => exact absurd h e2
      | cons => rfl
  rcases hI with ⟨ao, cap, rfl, rfl⟩ | ⟨b, off, cap, rfl, hp, hb, hcl⟩
  · obtain ⟨S5, g5, e, hcs⟩ := hcase [] (by simp)
    exact wrong_core W0 ao 0 cap [] 0 rfl (slice_d ao 0 cap 0 (by omega) (fun _ => .inr rfl)) (.inl ⟨_, _, rfl, rfl⟩) (by simp) c a (by omega) (by omega) (by omega) (by omega) hM S5 g5 e hcs
  · have hD : (D.take (min D.length 6)).length ≤ 6 := by rw [List.length_take]; omega
    obtain ⟨S5, g5, e, hcs⟩ := hcase (D.take (min D.length 6)) hD
    exact wrong_core W0 (some ⟨b, off, none⟩) D.length cap (D.take (min D.length 6)) (min D.length 6) rfl (slice_d _ _ _ _ (by omega) (fun h => by cases h)) (Drf.take hb hcl hp.2 _ (by omega)) hD c a (by omega) (by omega) (by omega) (by omega) hM S5 g5 e hcs
end Go.Proofs.YtlekbbggbfhgaaaDoor
