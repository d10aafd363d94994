/- The document's Lines: contract. -/
import Derived.Test.YtlekbbggbfhgaaaDoorLr
import Derived.Test.YtlekbbggbfhgaaaDoorLxl
namespace Go.Proofs.YtlekbbggbfhgaaaDoor
open Go.RowKit
theorem ext_bs (s : ByteArray) (a b : Nat) : s.extract a b = Lx.bs ((s.data.toList.drop a).take (b - a)) := by
  have h : (s.extract a b).data.toList = (s.data.toList.drop a).take (b - a) := by
    rw [Lib.extract_data]
  rw [← h, Lx.bs_data]
theorem own_form {w : World} {B : Nat} {e : TypeId} {s n : Nat} {v : Value} {xs : List Value} (h : w.ownsRow B e s v n xs) : ∃ a c, v = .slice a n c := by
  rcases h.2 with ⟨rfl, rfl⟩ | ⟨g, cap, cur, rfl, _⟩
  · exact ⟨_, _, rfl⟩
  · exact ⟨_, _, rfl⟩
theorem strV_snoc (D : List (List UInt8)) (x : List UInt8) : strV (D.map Lx.bs) ++ [.string (Lx.bs x)] = strV ((D ++ [x]).map Lx.bs) := by simp [strV]
/-- what stands behind an append to one's own slice -/
theorem app_below {B : Nat} {W0 w w1 : World} {v : Value} {e : TypeId} {s n : Nat} {xs : List Value} {O : Obj} (hb : Below B W0 w) (hB : B ≤ w.heap.size) (ho : w.ownsRow B e s v n xs) (hg : (w.alloc O).grownBy w1 v.ownBlock) : Below B W0 w1 :=
  (hb.alloc hB O).grown hg (by simp; omega) (fun k hk => (ho.lt k hk).1)
set_option maxRecDepth 100000 in
set_option maxHeartbeats 4000000 in
theorem rlines_any (s : ByteArray) (hs : s.size ≤ 3000) (L : List ByteArray) (n c : Int) (h : Lx.lns s.data.toList = (L, n, c)) (W0 : World) :
    Calls Tryd.prog 13 #[.string s] W0 fun e w' => ∃ v, e = .returned (.tuple #[v, .int .i64 n, .int .i64 c]) ∧ Strs w' v L ∧ Below W0.heap.size W0 w' := by
  obtain ⟨i0, hi0, hy0, hy1, hy2⟩ := info_parts infoS
  have hlen : s.data.toList.length = s.size := by rw [Lib.size_eq]
  have HLEN := Lib.hid hlen
  have HH := Lib.hid h
  clear h hlen
  go_enter Tryd.func13, Tryd.ntmps13
  go_wp2
  go_loopw [5, 6, 7] (fun v bb i wr => ∃ (k b : Nat) (D : List (List UInt8)), i = .int .i64 k ∧ bb = .int .i64 b ∧ k ≤ s.size + 1 ∧ b ≤ k ∧ Below W0.heap.size W0 wr ∧ wr.ownsRow W0.heap.size 9 1 v D.length (strV (D.map Lx.bs)) ∧ D.length ≤ k ∧ (k ≤ s.size → D ++ Lx.split 10 (s.data.toList.drop b) = Lx.split 10 s.data.toList ∧ (10 : UInt8) ∉ (s.data.toList.drop b).take (k - b) ∧ (∀ d ∈ D, d.length ≤ 300)) ∧ (s.size < k → Lx.lns s.data.toList = (D.map Lx.bs, 0, 0))) (fun _ _ i _ => s.size + 1 - (intOf i).toNat)
  case atStart => exact ⟨0, 0, [], rfl, rfl, by omega, by omega, Below.refl _ _, World.ownsRow_nil _ _ _ _, by simp, fun _ => ⟨by simp, by simp, by simp⟩, fun hk => absurd hk (by omega)⟩
  case round =>
    obtain ⟨k, b, D, rfl, rfl, hk, hbk, hb, hown, hDk, hin, hout⟩ := hrel
    have hz := hb.size
    have HO := Lib.hid hown
    have HB := Lib.hid hb
    have HIN := Lib.hid hin
    have HOUT := Lib.hid hout
    clear hown hb hin hout
    have hk0 : (0 : Int) ≤ (k : Int) := by omega
    have hb0 : (0 : Int) ≤ (b : Int) := by omega
    have hbk1 : (b : Int) ≤ (k : Int) := by omega
    by_cases hkn : k < s.size
    · have hkl : k < s.data.toList.length := by rw [HLEN.out]; exact hkn
      have hget : s.data.toList[k] = s[k] := rfl
      have hk1 : (k : Int) < (s.size : Int) := by omega
      have hin := HIN.out (by omega)
      by_cases hc : s[k] = 10
      · have hne : ((s[k].toNat : Int) != 10) = false := by rw [hc]; rfl
        have hke : ((k : Int) == (s.size : Int)) = false := by simp; omega
        have hsb := Lx.step_b s.data.toList b k hbk hkl (hget.trans hc) hin.2.1
        have hex := ext_bs s b k
        have hxl : ((s.data.toList.drop b).take (k - b)).length = k - b := by rw [List.length_take, List.length_drop, HLEN.out]; omega
        by_cases h3 : 300 < k - b
        · have hl := Lx.lns_err s.data.toList (by rw [HLEN.out]; omega) D _ _ (by rw [← hsb]; exact hin.1) hin.2.2 (by rw [hxl]; exact h3)
          have hh := HH.out
          rw [hl] at hh
          obtain ⟨rfl, h2⟩ := Prod.mk.inj hh
          obtain ⟨rfl, rfl⟩ := Prod.mk.inj h2
          obtain ⟨va, vc, rfl⟩ := own_form HO.out
          have h4 : (300 : Int) < (k : Int) - (b : Int) := by omega
          clear hsb hex hxl hl hh h2 hin hc hget h3
          go_wp2
          refine bodyPost_ret (results_tmp3 rfl _ _ _) rfl ?_
          exact ⟨_, rfl, .inl ⟨_, _, rfl, rfl⟩, HB.out⟩
        · have h4 : ¬ (300 : Int) < (k : Int) - (b : Int) := by omega
          have H3 := Lib.hid h3
          have HI2 := Lib.hid hin
          have HSB := Lib.hid hsb
          have HEX := Lib.hid hex
          have HXL := Lib.hid hxl
          clear hsb hex hxl hin hc hget h3
          go_wp2_with (at_builtin; refine wpList_append_lies _ rfl _ _ 23 rfl W0.heap.size 9 i0 (.string ⟨#[]⟩) 1 16 undS hi0 hy0 hy1 hy2 rfl (by decide) _ D.length (strV (D.map Lx.bs)) rfl (HO.out.alloc _) ⟨wr.heap.size, 0, none⟩ 1 1 [.string (s.extract b k)] rfl rfl (World.news_of_block (cs := #[.string (s.extract b k)]) (t := 9) (fr := (0, 0)) (heap_alloc_new wr _)) (by simp [Value.oneCell']) (by omega) (by unfold maxLen; omega) (by omega) (by simp; omega) (wr.heap.size + 1) (by simp) ?_; intro gg cap w1 hown1 hgrow hat hlt1)
          have HB1 := Lib.hid (app_below HB.out hz HO.out hgrow)
          have HO1 := Lib.hid hown1
          clear hown1 hgrow hat hlt1
          go_wp2
          go_roundw

          case rel =>
            refine ⟨k + 1, k + 1, D ++ [(s.data.toList.drop b).take (k - b)], by go_num, by go_num, by omega, by omega, HB1.out, ?_, by simp; omega, fun _ => ⟨?_, by simp, ?_⟩, fun hk => absurd hk (by omega)⟩
            · have := HO1.out
              rw [HEX.out, strV_snoc] at this
              simpa using this
            · rw [← HI2.out.1, HSB.out]; simp
            · intro d hd
              rw [List.mem_append] at hd
              rcases hd with hd | hd
              · exact HI2.out.2.2 d hd
              · rw [List.mem_singleton.1 hd, HXL.out]; have := H3.out; omega
          case measure => simp [intOf] <;> omega
      · have hn0 : s[k].toNat ≠ 10 := fun e => hc (by rw [← UInt8.toNat_inj]; exact e)
        have hne : ((s[k].toNat : Int) != 10) = true := by simp; omega
        have hsa := Lx.step_a s.data.toList b k hbk hkl hc hin.2.1
        have HI2 := Lib.hid hin
        have HSA := Lib.hid hsa
        clear hsa hin hc hget hn0
        go_wp2
        go_roundw
        case rel => exact ⟨k + 1, b, D, by go_num, rfl, by omega, by omega, HB.out, HO.out, by omega, fun _ => ⟨HI2.out.1, HSA.out, HI2.out.2.2⟩, fun hk => absurd hk (by omega)⟩
        case measure => simp [intOf] <;> omega
    · by_cases hkn2 : k = s.size
      · subst hkn2
        have hin := HIN.out (Nat.le_refl _)
        have hke : ((s.size : Int) == (s.size : Int)) = true := beq_self_eq_true _
        have hsc := Lx.step_c s.data.toList b (by rw [HLEN.out]; exact hbk) (by rw [HLEN.out]; exact hin.2.1)
        have hex := ext_bs s b s.size
        have htk : (s.data.toList.drop b).take (s.size - b) = s.data.toList.drop b := List.take_of_length_le (by rw [List.length_drop, HLEN.out]; exact Nat.le_refl _)
        rw [htk] at hex
        have hxl : (s.data.toList.drop b).length = s.size - b := by rw [List.length_drop, HLEN.out]
        have hin1 := hin.1
        rw [hsc] at hin1
        have hlen2 : s.data.toList.length ≤ 8388608 := by rw [HLEN.out]; omega
        by_cases hbe : b = s.size ∧ 0 < s.size
        · obtain ⟨hbe, h0⟩ := hbe
          have hbb : ((b : Int) == (s.size : Int)) = true := by simp; omega
          have h01 : (0 : Int) < (s.size : Int) := by omega
          have hd0 : s.data.toList.drop b = [] := List.eq_nil_of_length_eq_zero (by omega)
          rw [hd0] at hin1
          have hl := Lx.lns_end1 s.data.toList hlen2 D hin1 (fun e => by have := HLEN.out; rw [e] at this; simp at this; omega) hin.2.2
          have HL := Lib.hid hl
          clear hl hin hin1 hsc hex htk hxl hlen2 hd0 hbe h0 hke
          go_wp2
          go_roundw
          case rel => exact ⟨s.size + 1, b, D, by go_num, rfl, by omega, by omega, HB.out, HO.out, by omega, fun hk => absurd hk (by omega), fun _ => HL.out⟩
          case measure => simp [intOf] <;> omega
        · have hxne : s.data.toList.drop b ≠ [] ∨ s.data.toList = [] := by
            by_cases h0 : 0 < s.size
            · left; intro e; rw [e] at hxl; simp at hxl; omega
            · right; exact List.eq_nil_of_length_eq_zero (by rw [HLEN.out]; omega)
          have hskip : ((b : Int) == (s.size : Int)) = false ∨ (¬ (0 : Int) < (s.size : Int)) := by
            by_cases h0 : 0 < s.size
            · left; simp; omega
            · right; omega
          by_cases h3 : 300 < s.size - b
          · have hl := Lx.lns_err s.data.toList hlen2 D _ _ hin1 hin.2.2 (by rw [hxl]; exact h3)
            have hh := HH.out
            rw [hl] at hh
            obtain ⟨rfl, h2⟩ := Prod.mk.inj hh
            obtain ⟨rfl, rfl⟩ := Prod.mk.inj h2
            obtain ⟨va, vc, rfl⟩ := own_form HO.out
            have h4 : (300 : Int) < (s.size : Int) - (b : Int) := by omega
            clear hl hh h2 hin hin1 hsc hex htk hxl hlen2 hxne h3 hke hbe
            have hbb : ((b : Int) == (s.size : Int)) = false := by simp; omega
            clear hskip
            go_wp2
            refine bodyPost_ret (results_tmp3 rfl _ _ _) rfl ?_
            exact ⟨_, rfl, .inl ⟨_, _, rfl, rfl⟩, HB.out⟩
          · have h4 : ¬ (300 : Int) < (s.size : Int) - (b : Int) := by omega
            have hl := Lx.lns_end2 s.data.toList hlen2 D _ hin1 hxne hin.2.2 (by rw [hxl]; omega)
            have HL := Lib.hid hl
            have HEX := Lib.hid hex
            clear hl hin hin1 hsc hex htk hxl hlen2 hxne h3 hke hbe
            rcases hskip with hbb | hbb
            · go_wp2_with (at_builtin; refine wpList_append_lies _ rfl _ _ 23 rfl W0.heap.size 9 i0 (.string ⟨#[]⟩) 1 16 undS hi0 hy0 hy1 hy2 rfl (by decide) _ D.length (strV (D.map Lx.bs)) rfl (HO.out.alloc _) ⟨wr.heap.size, 0, none⟩ 1 1 [.string (s.extract b s.size)] rfl rfl (World.news_of_block (cs := #[.string (s.extract b s.size)]) (t := 9) (fr := (0, 0)) (heap_alloc_new wr _)) (by simp [Value.oneCell']) (by omega) (by unfold maxLen; omega) (by omega) (by simp; omega) (wr.heap.size + 1) (by simp) ?_; intro gg cap w1 hown1 hgrow hat hlt1)
              have HB1 := Lib.hid (app_below HB.out hz HO.out hgrow)
              have HO1 := Lib.hid hown1
              clear hown1 hgrow hat hlt1
              go_wp2
              go_roundw

              case rel =>
                refine ⟨s.size + 1, s.size + 1, D ++ [s.data.toList.drop b], by go_num, by go_num, by omega, by omega, HB1.out, ?_, by simp; omega, fun hk => absurd hk (by omega), fun _ => HL.out⟩
                have := HO1.out
                rw [HEX.out, strV_snoc] at this
                simpa using this
              case measure => simp [intOf] <;> omega
            · have he0 : ByteArray.empty = Lx.bs (s.data.toList.drop b) := by
                rw [List.eq_nil_of_length_eq_zero (by rw [List.length_drop, HLEN.out]; omega : (s.data.toList.drop b).length = 0)]; rfl
              have HE0 := Lib.hid he0
              clear he0
              go_wp2_with (at_builtin; refine wpList_append_lies _ rfl _ _ 23 rfl W0.heap.size 9 i0 (.string ⟨#[]⟩) 1 16 undS hi0 hy0 hy1 hy2 rfl (by decide) _ D.length (strV (D.map Lx.bs)) rfl (HO.out.alloc _) ⟨wr.heap.size, 0, none⟩ 1 1 [.string (ByteArray.empty)] rfl rfl (World.news_of_block (cs := #[.string (ByteArray.empty)]) (t := 9) (fr := (0, 0)) (heap_alloc_new wr _)) (by simp [Value.oneCell']) (by omega) (by unfold maxLen; omega) (by omega) (by simp; omega) (wr.heap.size + 1) (by simp) ?_; intro gg cap w1 hown1 hgrow hat hlt1)
              have HB1 := Lib.hid (app_below HB.out hz HO.out hgrow)
              have HO1 := Lib.hid hown1
              clear hown1 hgrow hat hlt1
              go_wp2
              go_roundw

              case rel =>
                refine ⟨s.size + 1, s.size + 1, D ++ [s.data.toList.drop b], by go_num, by go_num, by omega, by omega, HB1.out, ?_, by simp; omega, fun hk => absurd hk (by omega), fun _ => HL.out⟩
                have := HO1.out
                rw [HE0.out, strV_snoc] at this
                simpa using this
              case measure => simp [intOf] <;> omega
      · have hke : k = s.size + 1 := by omega
        subst hke
        have hl := HOUT.out (by omega)
        have hh := HH.out
        rw [hl] at hh
        obtain ⟨rfl, h2⟩ := Prod.mk.inj hh
        obtain ⟨rfl, rfl⟩ := Prod.mk.inj h2
        clear hl hh h2
        go_wp2
        refine bodyPost_ret (results_tmp3 rfl _ _ _) rfl ?_
        exact ⟨_, rfl, own_Strs (by simpa using HO.out), HB.out⟩
end Go.Proofs.YtlekbbggbfhgaaaDoor
