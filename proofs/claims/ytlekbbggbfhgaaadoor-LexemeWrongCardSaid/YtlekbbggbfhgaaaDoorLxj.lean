/- Package lexeme: Join. -/
import Derived.Test.YtlekbbggbfhgaaaDoorLz
import Derived.Test.YtlekbbggbfhgaaaDoorLxl
import Derived.Laws.MakeOwn
namespace Go.Proofs.YtlekbbggbfhgaaaDoor
open Go.RowKit
set_option maxRecDepth 100000 in
theorem writable_any (s : ByteArray) (hs : s.size ≤ 100000000) (w : World) : Calls Tryd.prog 34 #[.string s] w fun e w' => e = .returned (.bool (Lx.wrt s.data.toList)) ∧ w = w' := by
  have HLEN := Lib.hid (Lib.size_eq s)
  go_enter Tryd.func34, Tryd.ntmps34
  go_wp2
  go_loopw [3] (fun i wr => ∃ k : Nat, k ≤ s.size ∧ i = .int .i64 k ∧ (s.data.toList.take k).all Lx.okb = true ∧ w = wr) (fun i _ => s.size - (intOf i).toNat)
  case atStart => exact ⟨0, by omega, rfl, by simp, by first | rfl | trivial⟩
  case round =>
    obtain ⟨k, hk, rfl, hall, rfl⟩ := hrel
    have HA := Lib.hid hall
    clear hall
    by_cases hkn : k < s.size
    · have hkl : k < s.data.toList.length := by rw [← HLEN.out]; exact hkn
      have hget : s.data.toList[k] = s[k] := rfl
      have htake : (s.data.toList.take (k + 1)).all Lx.okb = Lx.okb s[k] := by
        rw [List.take_succ_eq_append_getElem hkl, List.all_append, HA.out, hget]; simp
      have hno : Lx.okb s[k] = false → Lx.wrt s.data.toList = false := by
        intro h
        unfold Lx.wrt
        rw [List.all_eq_false]
        exact ⟨s[k], by rw [← hget]; exact List.getElem_mem hkl, by simp [h]⟩
      have hio := Lx.okb_iff s[k]
      have hbt := s[k].toNat_lt
      have HT := Lib.hid htake
      have HN := Lib.hid hno
      have HI := Lib.hid hio
      have hk0 : (0 : Int) ≤ (k : Int) := by omega
      have hk1 : (k : Int) < (s.size : Int) := by omega
      clear htake hno hio hget
      by_cases h1 : (s[k].toNat : Int) < 32
      · have hw := HN.out (by rw [Bool.eq_false_iff]; intro h; have := HI.out.1 h; omega)
        go_wp2
        go_ret
        first | exact ⟨rfl, rfl⟩ | (rw [hw]; exact ⟨rfl, rfl⟩)
      · by_cases h2 : (126 : Int) < (s[k].toNat : Int)
        · have hw := HN.out (by rw [Bool.eq_false_iff]; intro h; have := HI.out.1 h; omega)
          go_wp2
          go_ret
          first | exact ⟨rfl, rfl⟩ | (rw [hw]; exact ⟨rfl, rfl⟩)
        · by_cases h3 : ((s[k].toNat : Int) == 34) = true
          · have hw := HN.out (by rw [Bool.eq_false_iff]; intro h; have := HI.out.1 h; have := eq_of_beq h3; omega)
            go_wp2
            go_ret
            first | exact ⟨rfl, rfl⟩ | (rw [hw]; exact ⟨rfl, rfl⟩)
          · have h4 : ((s[k].toNat : Int) == 34) = false := by simpa using h3
            have hw := HT.out.trans (HI.out.2 ⟨by omega, by omega, by have := (beq_eq_false_iff_ne.1 h4); omega⟩)
            have HW := Lib.hid hw
            clear hw h3
            go_wp2
            go_roundw
            case rel => exact ⟨k + 1, by omega, by go_num, HW.out, by first | rfl | trivial⟩
            case measure => simp [intOf]; omega
    · obtain rfl : k = s.size := by omega
      have hw : Lx.wrt s.data.toList = true := by
        have := HA.out
        rwa [List.take_of_length_le (by rw [← HLEN.out]; exact Nat.le_refl _)] at this
      clear HA
      go_wp2
      go_ret
      first | exact ⟨rfl, rfl⟩ | (rw [hw]; exact ⟨rfl, rfl⟩)
/-- a field as it stands in a line -/
def wrB (s : ByteArray) : ByteArray := Lx.bs (Lx.write s.data.toList)
theorem app_bs (a b : List UInt8) : Lx.bs a ++ Lx.bs b = Lx.bs (a ++ b) := by
  show ByteArray.append _ _ = _
  simp [ByteArray.append, Lx.bs]
theorem isEmpty_list (s : ByteArray) : s.toList.isEmpty = s.data.toList.isEmpty := by rw [ByteArray.toList_eq]
theorem quoted_eq (s : ByteArray) : (⟨#[34]⟩ ++ s ++ ⟨#[34]⟩ : ByteArray) = Lx.bs (34 :: (s.data.toList ++ [34])) := by
  have h1 : (⟨#[34]⟩ : ByteArray) = Lx.bs [34] := rfl
  rw [h1, ← Lx.bs_data s, app_bs, app_bs, Lx.data_bs]; simp
theorem write_any (s : ByteArray) (hs : s.size ≤ 1000000) (hw : Lx.wrt s.data.toList = true) (w : World) : Calls Tryd.prog 35 #[.string s] w fun e w' => e = .returned (.string (wrB s)) ∧ Below w.heap.size w w' := by
  have hcon := fun w => Tryd.strings_ContainsAny_laid s ⟨#[32, 35]⟩ w (by omega) (by decide) (Lx.wrt_ascii hw) (by intro j b h; match j, h with
    | 0, h => simp at h; subst h; decide
    | 1, h => simp at h; subst h; decide)
  rw [show (ByteArray.data ⟨#[32, 35]⟩).toList = [32, 35] from rfl, Lx.containsAny_two] at hcon
  have HE := Lib.hid (isEmpty_list s)
  have q1 : ¬ 9223372036854775807 < 1 + s.size := by omega
  have q2 : ¬ 9223372036854775807 < 1 + s.size + 1 := by omega
  have hq := quoted_eq s
  by_cases he : s.data.toList.isEmpty = true
  · have hwr : wrB s = ⟨#[34]⟩ ++ s ++ ⟨#[34]⟩ := by rw [hq]; unfold wrB Lx.write Lx.wants; rw [he]; rfl
    have he2 : s.toList.isEmpty = true := HE.out.trans he
    rw [hwr]
    clear hcon hw hq hwr he
    go_enter Tryd.func35, Tryd.ntmps35
    go_wp2
    go_ret
    exact ⟨rfl, Below.refl _ _⟩
  · have he1 : s.data.toList.isEmpty = false := by simpa using he
    have he2 : s.toList.isEmpty = false := HE.out.trans he1
    by_cases hc : (s.data.toList.contains 32 || s.data.toList.contains 35) = true
    · have hwr : wrB s = ⟨#[34]⟩ ++ s ++ ⟨#[34]⟩ := by rw [hq]; unfold wrB Lx.write Lx.wants; rw [he1, Bool.false_or, hc]; rfl
      rw [hwr]
      rw [hc] at hcon
      clear hw hq hwr he he1 hc
      go_enter Tryd.func35, Tryd.ntmps35
      go_wp2_with fail
      refine (hcon _).mono ?_; rintro e w1 ⟨rfl, hb⟩
      go_wp2
      go_ret
      exact ⟨rfl, hb⟩
    · have hc1 : (s.data.toList.contains 32 || s.data.toList.contains 35) = false := by simpa using hc
      have hwr : wrB s = s := by unfold wrB Lx.write Lx.wants; rw [he1, Bool.false_or, hc1]; rfl
      rw [hwr]
      rw [hc1] at hcon
      clear hw hq hwr he he1 hc hc1
      go_enter Tryd.func35, Tryd.ntmps35
      go_wp2_with fail
      refine (hcon _).mono ?_; rintro e w1 ⟨rfl, hb⟩
      go_wp2
      go_ret
      exact ⟨rfl, hb⟩
/-- what the new slice holds behind k rounds -/
def mk (M : List ByteArray) (k : Nat) : List ByteArray := M.take k ++ List.replicate (M.length - k) ByteArray.empty
theorem mk_len (M : List ByteArray) (k : Nat) (h : k ≤ M.length) : (mk M k).length = M.length := by simp [mk]; omega
theorem mk_full (M : List ByteArray) : mk M M.length = M := by simp [mk]
theorem mk_next (M : List ByteArray) (k : Nat) (h : k < M.length) : (strV (mk M k)).set k (.string M[k]) = strV (mk M (k + 1)) := by
  unfold strV mk
  rw [← List.map_set]
  congr 1
  rw [List.set_append_right _ _ (by simp; omega), List.take_succ_eq_append_getElem h]
  have e : M.length - k = (M.length - (k + 1)) + 1 := by omega
  rw [e, List.replicate_succ]
  have : k - (M.take k).length = 0 := by simp; omega
  rw [this]
  simp only [List.set_cons_zero, List.append_assoc, List.singleton_append]
set_option maxRecDepth 100000 in
set_option maxHeartbeats 2000000 in
theorem join_core (b off cap : Nat) (L : List ByteArray) (hl0 : 0 < L.length) (hl : L.length ≤ 1000) (hz : ∀ s ∈ L, s.size ≤ 1000) (S : ByteArray) (c : Int) (h : Lx.jn (L.map (·.data.toList)) = (S, c)) (W0 : World) (hb : b < W0.heap.size) (hc : ∀ j s, L[j]? = some s → W0.cell? ⟨b, off + j, none⟩ = some (.string s)) :
    Calls Tryd.prog 19 #[.slice (some ⟨b, off, none⟩) L.length cap] W0 fun e w' => e = .returned (.tuple #[.string S, .int .i64 c]) ∧ Below W0.heap.size W0 w' := by
  have HC := Lib.hid hc
  have HZ := Lib.hid hz
  have HJ := Lib.hid h
  clear hc hz h
  have HL1 := Lib.hid hl
  obtain ⟨i0, hi0, hy0, hy1, hy2⟩ := info_parts infoS
  obtain ⟨w2, hmk, hown0, hgr0⟩ := run_makeSlice_full (P := Tryd.prog) W0 W0.heap.size 23 9 i0 (.string ⟨#[]⟩) 1 undS hi0 hy0 hy1 .i64 .i64 L.length (by omega) (by rw [hy2]; omega) (by unfold maxLen; omega) (Nat.le_refl _)
  have hmk0 : (madeCells (Value.string ⟨#[]⟩).cells (L.length * 1)).toList = strV (mk (L.map wrB) 0) := by
    rw [Nat.mul_one]
    have := toList_madeCells_one (.string ⟨#[]⟩) L.length
    rw [show (Value.string ⟨#[]⟩).cells = #[.string ⟨#[]⟩] from rfl, this]
    simp [strV, mk, ByteArray.empty, ByteArray.emptyWithCapacity]
    exact Or.inr rfl
  rw [hmk0] at hown0
  have HO := Lib.hid hown0
  have HB2 : Hid (Below W0.heap.size W0 w2) := Lib.hid ((Below.refl _ W0).grown hgr0 (Nat.le_refl _) (fun k hk => by cases hk))
  have HMK := Lib.hid hmk
  clear hown0 hgr0 hmk hmk0
  go_enter Tryd.func19, Tryd.ntmps19
  go_wp2
  go_loopw [12] (fun i wr => ∃ k : Nat, k ≤ L.length ∧ i = .int .i64 k ∧ (∀ j x, j < k → L[j]? = some x → Lx.wrt x.data.toList = true) ∧ W0 = wr) (fun i _ => L.length - (intOf i).toNat)
  case atStart => exact ⟨0, by omega, rfl, fun j x hj => absurd hj (by omega), by first | rfl | trivial⟩
  case round =>
    obtain ⟨k, hk, rfl, hall, rfl⟩ := hrel
    have HA := Lib.hid hall
    clear hall
    by_cases hkn : k < L.length
    · have c0 := HC.out k L[k] (List.getElem?_eq_getElem hkn)
      have hx : L[k].size ≤ 1000 := HZ.out _ (List.getElem_mem hkn)
      have hk0 : (0 : Int) ≤ (k : Int) := by omega
      have hk1 : (k : Int) < (L.length : Int) := by omega
      by_cases hw : Lx.wrt L[k].data.toList = true
      · have HW := Lib.hid hw
        have hwy := fun w => writable_any L[k] (by omega) w
        rw [hw] at hwy
        generalize hy : L[k] = y at *
        have HY := Lib.hid hy
        clear hw hy
        go_wp2_with fail
        refine (hwy _).mono ?_; rintro e w1 ⟨rfl, rfl⟩
        go_wp2
        go_roundw
        case rel =>
          refine ⟨k + 1, by omega, by go_num, fun j x hj hx => ?_, by first | rfl | trivial⟩
          by_cases e : j = k
          · subst e
            rw [List.getElem?_eq_getElem hkn, HY.out] at hx
            injection hx with hx
            subst hx
            exact HW.out
          · exact HA.out j x (by omega) hx
        case measure => simp [intOf]; omega
      · have hw1 : Lx.wrt L[k].data.toList = false := by simpa using hw
        have hno : Lx.jn (L.map (·.data.toList)) = (⟨#[]⟩, 2) := by
          unfold Lx.jn
          rw [if_neg]
          intro hall
          have := List.all_eq_true.1 hall L[k].data.toList (List.mem_map_of_mem (List.getElem_mem hkn))
          rw [hw1] at this; cases this
        have hjj := HJ.out
        rw [hno] at hjj
        obtain ⟨rfl, rfl⟩ := Prod.mk.inj hjj
        have hwy := fun w => writable_any L[k] (by omega) w
        rw [hw1] at hwy
        generalize L[k] = y at *
        clear hw hw1 hno hjj
        go_wp2_with fail
        refine (hwy _).mono ?_; rintro e w1 ⟨rfl, rfl⟩
        go_wp2
        go_ret2
        exact ⟨rfl, Below.refl _ _⟩
    · obtain rfl : k = L.length := by omega
      have hallw : (L.map (·.data.toList)).all Lx.wrt = true := by
        rw [List.all_eq_true]
        intro x hx
        obtain ⟨s, hs, rfl⟩ := List.mem_map.1 hx
        obtain ⟨j, hj, rfl⟩ := List.getElem_of_mem hs
        exact HA.out j _ hj (List.getElem?_eq_getElem hj)
      have hjj := HJ.out
      unfold Lx.jn at hjj
      rw [if_pos hallw] at hjj
      have HJJ := Lib.hid hjj
      clear hallw hjj
      have hmk := HMK.out
      go_wp2
      clear hmk
      go_loopw [25] (fun i wr' => ∃ k : Nat, k ≤ L.length ∧ i = .int .i64 k ∧ Below W0.heap.size W0 wr' ∧ wr'.ownsRow W0.heap.size 9 1 (.slice (some ⟨W0.heap.size, 0, none⟩) L.length L.length) L.length (strV (mk (L.map wrB) k))) (fun i _ => L.length - (intOf i).toNat)
      case atStart => exact ⟨0, by omega, rfl, HB2.out, HO.out⟩
      case round =>
        obtain ⟨k, hk, rfl, hbl, hown⟩ := hrel
        have HBL := Lib.hid hbl
        have HOW := Lib.hid hown
        have hzz := hbl.size
        clear hbl hown
        by_cases hkn : k < L.length
        · have c0 := (HBL.out.cell (p := ⟨b, off + k, none⟩) hb).trans (HC.out k L[k] (List.getElem?_eq_getElem hkn))
          have hx : L[k].size ≤ 1000 := HZ.out _ (List.getElem_mem hkn)
          have hk0 : (0 : Int) ≤ (k : Int) := by omega
          have hk1 : (k : Int) < (L.length : Int) := by omega
          have hwy := fun w => write_any L[k] (by omega) (HA.out k _ hkn (List.getElem?_eq_getElem hkn)) w
          have hMk : (L.map wrB)[k]'(by simpa using hkn) = wrB L[k] := by simp
          have hnx := mk_next (L.map wrB) k (by simpa using hkn)
          rw [hMk] at hnx
          have HNX := Lib.hid hnx
          clear hnx hMk
          generalize L[k] = y at *
          go_wp2_with fail
          refine (hwy _).mono ?_; rintro e w3 ⟨rfl, hb3⟩
          have HO3 := Lib.hid (own_bl HOW.out hb3)
          have HB3 := Lib.hid (HBL.out.trans (hb3.mono hzz))
          have hmkl := mk_len (L.map wrB) k (by simp; omega)
          have c1 : w3.cell? ⟨W0.heap.size, k, none⟩ = some ((strV (mk (L.map wrB) k))[k]'(by rw [strV_len, hmkl]; simpa using hkn)) := by
            rw [HO3.out.cellAt k (by omega)]; simp
          have f1 := HO3.out.frozenAt k
          generalize (strV (mk (L.map wrB) k))[k]'(by rw [strV_len, hmkl]; simpa using hkn) = u at c1
          clear hb3 hmkl
          generalize wrB y = z at *
          go_wp2
          go_roundw
          case rel =>
            refine ⟨k + 1, by omega, by go_num, HB3.out.setCell (p := ⟨W0.heap.size, k, none⟩) (Nat.le_refl _) _, ?_⟩
            have := (HO3.out.stored k (.string z)).1
            rw [HNX.out] at this
            exact this
          case measure => simp [intOf]; omega
        · obtain rfl : k = L.length := by omega
          have hML : (L.map wrB).length = L.length := by simp
          have hown := HOW.out
          rw [← hML, mk_full] at hown
          have hcells : ∀ (j : Nat) x, (L.map wrB)[j]? = some x → wr.cell? ⟨W0.heap.size, 0 + j, none⟩ = some (.string x) := by
            intro j x hj
            rw [Nat.zero_add, hown.cellAt j (by have := (List.getElem?_eq_some_iff.1 hj).1; omega)]
            exact strV_at _ j x hj
          have hmap : (L.map wrB).map (·.data.toList) = (L.map (·.data.toList)).map Lx.write := by
            rw [List.map_map, List.map_map]
            apply List.map_congr_left
            intro x _
            exact Lx.data_bs _
          have hline : Lib.join ((L.map wrB).map (·.data.toList)) (ByteArray.data ⟨#[32]⟩).toList = Lx.line (L.map (·.data.toList)) := by
            rw [hmap]; rfl
          have hll := Lx.line_len (L.map (·.data.toList)) (by
            intro q hq
            obtain ⟨s, hs, rfl⟩ := List.mem_map.1 hq
            rw [← Lib.size_eq]; exact HZ.out s hs)
          rw [List.length_map] at hll
          have hg : W0.heap.size < wr.heap.size := by
            have := (hown.lt W0.heap.size rfl).2
            exact this
          have hjn := Tryd.strings_Join W0.heap.size 0 L.length (L.map wrB) ⟨#[32]⟩ wr hcells hg (by omega) (by omega) (by rw [hline]; omega)
          rw [hline, hML] at hjn
          have HJN := Lib.hid hjn
          have hsz := Lx.size_bs (Lx.line (L.map (·.data.toList)))
          have hjj := HJJ.out
          clear hjn hline hmap hcells hown hML hll HJJ
          generalize hline : Lx.line (L.map (·.data.toList)) = ll at *
          rw [show Lx.bs ll = ⟨ll.toArray⟩ from rfl] at hsz hjj
          generalize (⟨ll.toArray⟩ : ByteArray) = SS at *
          by_cases h3 : 300 < ll.length
          · rw [if_pos h3] at hjj
            obtain ⟨rfl, rfl⟩ := Prod.mk.inj hjj
            have h4 : 300 < SS.size := by omega
            clear hjj h3 hsz
            go_wp2_with fail
            refine HJN.out.mono ?_; rintro e w4 ⟨rfl, hb4⟩
            have HB4 := Lib.hid (HBL.out.trans (hb4.mono hzz))
            clear hb4
            go_wp2
            go_ret2
            exact ⟨rfl, HB4.out⟩
          · rw [if_neg h3] at hjj
            obtain ⟨rfl, rfl⟩ := Prod.mk.inj hjj
            have h4 : ¬ 300 < SS.size := by omega
            clear hjj h3 hsz
            go_wp2_with fail
            refine HJN.out.mono ?_; rintro e w4 ⟨rfl, hb4⟩
            have HB4 := Lib.hid (HBL.out.trans (hb4.mono hzz))
            clear hb4
            go_wp2
            go_ret2
            exact ⟨rfl, HB4.out⟩
set_option maxRecDepth 100000 in
theorem join_nil (a : Option Addr) (cap : Nat) (W0 : World) :
    Calls Tryd.prog 19 #[.slice a 0 cap] W0 fun e w' => e = .returned (.tuple #[.string ⟨#[]⟩, .int .i64 0]) ∧ Below W0.heap.size W0 w' := by
  obtain ⟨i0, hi0, hy0, hy1, hy2⟩ := info_parts infoS
  obtain ⟨w2, hmk, hown0, hgr0⟩ := run_makeSlice_full (P := Tryd.prog) W0 W0.heap.size 23 9 i0 (.string ⟨#[]⟩) 1 undS hi0 hy0 hy1 .i64 .i64 0 (by omega) (by omega) (by unfold maxLen; omega) (Nat.le_refl _)
  have HB2 : Hid (Below W0.heap.size W0 w2) := Lib.hid ((Below.refl _ W0).grown hgr0 (Nat.le_refl _) (fun k hk => by cases hk))
  have hm2 : (Instr.makeSlice 23 (.int .i64 0) (.int .i64 0)).run Tryd.prog W0 = .ok (.slice (some ⟨W0.heap.size, 0, none⟩) 0 0) w2 := hmk
  clear hmk hown0 hgr0
  go_enter Tryd.func19, Tryd.ntmps19
  go_wp2
  go_loopw [12] (fun i wr => i = .int .i64 0 ∧ W0 = wr) (fun _ _ => 0)
  case atStart => exact ⟨rfl, by first | rfl | trivial⟩
  case round =>
    obtain ⟨rfl, rfl⟩ := hrel
    go_wp2
    go_loopw [25] (fun i wr => i = .int .i64 0 ∧ w2 = wr) (fun _ _ => 0)
    case atStart => exact ⟨rfl, by first | rfl | trivial⟩
    case round =>
      obtain ⟨rfl, rfl⟩ := hrel
      go_wp2_with fail
      refine (Tryd.strings_Join_none _ _ _ _).mono ?_; rintro e w4 ⟨rfl, rfl⟩
      go_wp2
      go_ret2
      exact ⟨rfl, HB2.out⟩
theorem join_any (v : Value) (L : List ByteArray) (hl : L.length ≤ 1000) (hz : ∀ s ∈ L, s.size ≤ 1000) (S : ByteArray) (c : Int) (h : Lx.jn (L.map (·.data.toList)) = (S, c)) (W0 : World) (hI : Strs W0 v L) :
    Calls Tryd.prog 19 #[v] W0 fun e w' => e = .returned (.tuple #[.string S, .int .i64 c]) ∧ Below W0.heap.size W0 w' := by
  rcases hI with ⟨a, cap, rfl, rfl⟩ | ⟨b, off, cap, rfl, hp, hb, hc⟩
  · have e : Lx.jn (([] : List ByteArray).map (·.data.toList)) = (⟨#[]⟩, 0) := rfl
    rw [e] at h
    obtain ⟨rfl, rfl⟩ := Prod.mk.inj h
    exact join_nil a cap W0
  · exact join_core b off cap L hp.1 hl hz S c h W0 hb hc
end Go.Proofs.YtlekbbggbfhgaaaDoor
