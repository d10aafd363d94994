/- The document's Join: contract. -/
import Derived.Test.YtlekbbggbfhgaaaDoorLxj
import Derived.Test.YtlekbbggbfhgaaaDoorLq
import Derived.Deep.LoopGhost
namespace Go.Proofs.YtlekbbggbfhgaaaDoor
open Go.RowKit
set_option maxRecDepth 100000 in
theorem bare_any (s : ByteArray) (hs : s.size ≤ 100000) (w : World) : Calls Tryd.prog 36 #[.string s] w fun e w' => e = .returned (.bool (!Lx.wants s.data.toList)) ∧ w = w' := by
  have HLEN := Lib.hid (Lib.size_eq s)
  have HE := Lib.hid (isEmpty_list s)
  go_enter Tryd.func36, Tryd.ntmps36
  go_wp2
  go_loopw [3] (fun i wr => ∃ k : Nat, k ≤ s.size ∧ i = .int .i64 k ∧ ((s.data.toList.take k).contains 32 = false ∧ (s.data.toList.take k).contains 35 = false) ∧ w = wr) (fun i _ => s.size - (intOf i).toNat)
  case atStart => exact ⟨0, by omega, rfl, by simp, by first | rfl | trivial⟩
  case round =>
    obtain ⟨k, hk, rfl, hall, rfl⟩ := hrel
    have HA := Lib.hid hall
    clear hall
    by_cases hkn : k < s.size
    · have hkl : k < s.data.toList.length := by rw [← HLEN.out]; exact hkn
      have hget : s.data.toList[k] = s[k] := rfl
      have hmem : s[k] ∈ s.data.toList := by rw [← hget]; exact List.getElem_mem hkl
      have hne : s.data.toList.isEmpty = false := by cases h : s.data.toList with
        | nil => rw [h] at hkl; simp at hkl
        | cons => rfl
      have hbt := s[k].toNat_lt
      have hk0 : (0 : Int) ≤ (k : Int) := by omega
      have hk1 : (k : Int) < (s.size : Int) := by omega
      by_cases h1 : s[k] = 32
      · have hw : (!Lx.wants s.data.toList) = false := by
          unfold Lx.wants
          rw [h1] at hmem
          have : s.data.toList.contains 32 = true := by simpa using hmem
          rw [this]; simp
        have hq : ((s[k].toNat : Int) == 32) = true := by rw [h1]; rfl
        have HW := Lib.hid hw
        clear h1 hmem hw hget
        go_wp2
        go_ret
        exact ⟨ret_bool HW.out.symm, rfl⟩
      · by_cases h2 : s[k] = 35
        · have hw : (!Lx.wants s.data.toList) = false := by
            unfold Lx.wants
            rw [h2] at hmem
            have : s.data.toList.contains 35 = true := by simpa using hmem
            rw [this]; simp
          have hq0 : ((s[k].toNat : Int) == 32) = false := by rw [h2]; rfl
          have hq : ((s[k].toNat : Int) == 35) = true := by rw [h2]; rfl
          have HW := Lib.hid hw
          clear h1 h2 hmem hw hget
          go_wp2
          go_ret
          exact ⟨ret_bool HW.out.symm, rfl⟩
        · have n1 : s[k].toNat ≠ 32 := fun e => h1 (by rw [← UInt8.toNat_inj]; exact e)
          have n2 : s[k].toNat ≠ 35 := fun e => h2 (by rw [← UInt8.toNat_inj]; exact e)
          have hq0 : ((s[k].toNat : Int) == 32) = false := by simp; omega
          have hq : ((s[k].toNat : Int) == 35) = false := by simp; omega
          have hn : (s.data.toList.take (k + 1)).contains 32 = false ∧ (s.data.toList.take (k + 1)).contains 35 = false := by
            have h3 := HA.out
            rw [List.take_succ_eq_append_getElem hkl, hget]
            simp only [List.contains_eq_mem, decide_eq_false_iff_not, List.mem_append, List.mem_singleton] at h3 ⊢
            exact ⟨fun h => h.elim h3.1 fun e => h1 e.symm, fun h => h.elim h3.2 fun e => h2 e.symm⟩
          have HN := Lib.hid hn
          clear h1 h2 n1 n2 hn hmem hget
          go_wp2
          go_roundw
          case rel => exact ⟨k + 1, by omega, by go_num, HN.out, by first | rfl | trivial⟩
          case measure => simp [intOf] <;> omega
    · obtain rfl : k = s.size := by omega
      have hall := HA.out
      rw [List.take_of_length_le (by rw [← HLEN.out]; exact Nat.le_refl _)] at hall
      have hw : Lx.wants s.data.toList = s.data.toList.isEmpty := by unfold Lx.wants; rw [hall.1, hall.2]; simp
      cases he : s.data.toList.isEmpty with
      | true =>
        have h1 : s.toList.isEmpty = true := HE.out.trans he
        have HW := Lib.hid (hw.trans he)
        clear hw hall he
        go_wp2
        go_ret
        exact ⟨ret_bool (by rw [HW.out]; simp [*]), rfl⟩
      | false =>
        have h1 : s.toList.isEmpty = false := HE.out.trans he
        have HW := Lib.hid (hw.trans he)
        clear hw hall he
        go_wp2
        go_ret
        exact ⟨ret_bool (by rw [HW.out]; simp [*]), rfl⟩
theorem bare_at (s : ByteArray) (hs : s.size ≤ 100000) (r : Bool) (h : (!Lx.wants s.data.toList) = r) (w : World) : Calls Tryd.prog 36 #[.string s] w fun e w' => e = .returned (.bool r) ∧ w = w' := by
  subst h; exact bare_any s hs w
theorem wr_quoted (s : ByteArray) (h : Lx.wants s.data.toList = true) : Lx.bs (Lx.write s.data.toList) = ⟨#[34]⟩ ++ s ++ ⟨#[34]⟩ := by
  rw [quoted_eq]; unfold Lx.write; rw [h]; rfl
theorem wr_plain (s : ByteArray) (h : Lx.wants s.data.toList = false) : Lx.bs (Lx.write s.data.toList) = s := by
  unfold Lx.write; rw [h]; rfl
theorem sp_bs (l : List UInt8) : (⟨#[32]⟩ ++ Lx.bs l : ByteArray) = Lx.bs (32 :: l) := app_bs [32] l
set_option maxRecDepth 100000 in
set_option maxHeartbeats 4000000 in
theorem rjoin_core (b off cap : Nat) (L : List ByteArray) (hl0 : 0 < L.length) (hl : L.length ≤ 1000) (hz : ∀ s ∈ L, s.size ≤ 1000) (S : ByteArray) (c : Int) (h : Lx.jn (L.map (·.data.toList)) = (S, c)) (W0 : World) (hc : ∀ j s, L[j]? = some s → W0.cell? ⟨b, off + j, none⟩ = some (.string s)) :
    Calls Tryd.prog 20 #[.slice (some ⟨b, off, none⟩) L.length cap] W0 fun e w' => e = .returned (.tuple #[.string S, .int .i64 c]) ∧ W0 = w' := by
  have HC := Lib.hid hc
  have HZ := Lib.hid hz
  have HJ := Lib.hid h
  clear hc hz h
  go_enter Tryd.func20, Tryd.ntmps20
  go_wp2
  go_loopw [5] (fun i wr => ∃ k : Nat, k ≤ L.length ∧ i = .int .i64 k ∧ (∀ j x, j < k → L[j]? = some x → Lx.wrt x.data.toList = true) ∧ W0 = wr) (fun i _ => L.length - (intOf i).toNat)
  case atStart => exact ⟨0, by omega, rfl, fun j x hj => absurd hj (by omega), by first | rfl | trivial⟩
  case round =>
    obtain ⟨k, hk, rfl, hall, rfl⟩ := hrel
    have HA := Lib.hid hall
    clear hall
    by_cases hkn : k < L.length
    · have c0 := HC.out k L[k] (List.getElem?_eq_getElem hkn)
      have hx : L[k].size ≤ 1000 := HZ.out _ (List.getElem_mem hkn)
      have hk0 : (0 : Int) ≤ (k : Int) := by omega
      have hk1 : (k : Int) < (L.length : Int) := by omega
      have hno : Lx.wrt L[k].data.toList = false → Lx.jn (L.map (·.data.toList)) = (⟨#[]⟩, 2) := by
        intro hw1
        unfold Lx.jn
        rw [if_neg]
        intro hall
        have := List.all_eq_true.1 hall L[k].data.toList (List.mem_map_of_mem (List.getElem_mem hkn))
        rw [hw1] at this; cases this
      have HNO := Lib.hid hno
      clear hno
      generalize hy : L[k] = y at *
      have HY := Lib.hid hy
      clear hy
      have HLEN := Lib.hid (Lib.size_eq y)
      go_wp2
      go_loopw [7] (fun i wr => ∃ m : Nat, m ≤ y.size ∧ i = .int .i64 m ∧ (y.data.toList.take m).all Lx.okb = true ∧ W0 = wr) (fun i _ => y.size - (intOf i).toNat)
      case atStart => exact ⟨0, by omega, rfl, by simp, by first | rfl | trivial⟩
      case round =>
        obtain ⟨m, hm, rfl, hall, rfl⟩ := hrel
        have HM := Lib.hid hall
        clear hall
        by_cases hmn : m < y.size
        · have hkl : m < y.data.toList.length := by rw [← HLEN.out]; exact hmn
          have hget : y.data.toList[m] = y[m] := rfl
          have htake : (y.data.toList.take (m + 1)).all Lx.okb = Lx.okb y[m] := by
            rw [List.take_succ_eq_append_getElem hkl, List.all_append, HM.out, hget]; simp
          have hno : Lx.okb y[m] = false → Lx.wrt y.data.toList = false := by
            intro h
            unfold Lx.wrt
            rw [List.all_eq_false]
            exact ⟨y[m], by rw [← hget]; exact List.getElem_mem hkl, by simp [h]⟩
          have hio := Lx.okb_iff y[m]
          have hbt := y[m].toNat_lt
          have HT := Lib.hid htake
          have HN := Lib.hid hno
          have HI := Lib.hid hio
          have hm0 : (0 : Int) ≤ (m : Int) := by omega
          have hm1 : (m : Int) < (y.size : Int) := by omega
          clear htake hno hio hget
          by_cases h1 : (y[m].toNat : Int) < 32
          · have hjj := HJ.out
            rw [HNO.out (HN.out (by rw [Bool.eq_false_iff]; intro h; have := HI.out.1 h; omega))] at hjj
            obtain ⟨rfl, rfl⟩ := Prod.mk.inj hjj
            clear hjj
            go_wp2
            go_ret2
            exact ⟨rfl, rfl⟩
          · by_cases h2 : (126 : Int) < (y[m].toNat : Int)
            · have hjj := HJ.out
              rw [HNO.out (HN.out (by rw [Bool.eq_false_iff]; intro h; have := HI.out.1 h; omega))] at hjj
              obtain ⟨rfl, rfl⟩ := Prod.mk.inj hjj
              clear hjj
              go_wp2
              go_ret2
              exact ⟨rfl, rfl⟩
            · by_cases h3 : ((y[m].toNat : Int) == 34) = true
              · have hjj := HJ.out
                rw [HNO.out (HN.out (by rw [Bool.eq_false_iff]; intro h; have := HI.out.1 h; have := eq_of_beq h3; omega))] at hjj
                obtain ⟨rfl, rfl⟩ := Prod.mk.inj hjj
                clear hjj
                go_wp2
                go_ret2
                exact ⟨rfl, rfl⟩
              · have h4 : ((y[m].toNat : Int) == 34) = false := by simpa using h3
                have hw := HT.out.trans (HI.out.2 ⟨by omega, by omega, by have := (beq_eq_false_iff_ne.1 h4); omega⟩)
                have HW := Lib.hid hw
                clear hw h3
                go_wp2
                go_roundw
                case rel => exact ⟨m + 1, by omega, by go_num, HW.out, by first | rfl | trivial⟩
                case measure => simp [intOf] <;> omega
        · obtain rfl : m = y.size := by omega
          have hw : Lx.wrt y.data.toList = true := by
            have := HM.out
            rwa [List.take_of_length_le (by rw [← HLEN.out]; exact Nat.le_refl _)] at this
          have HW := Lib.hid hw
          clear hw
          go_wp2
          go_roundw
          case rel =>
            refine ⟨k + 1, by omega, by go_num, fun j x hj hx => ?_, by first | rfl | trivial⟩
            by_cases e : j = k
            · subst e
              rw [List.getElem?_eq_getElem hkn, HY.out] at hx
              injection hx with hx
              subst hx
              exact HW.out
            · exact HA.out j x (by omega) hx
          case measure => simp [intOf] <;> omega
    · obtain rfl : k = L.length := by omega
      have hallw : (L.map (·.data.toList)).all Lx.wrt = true := by
        rw [List.all_eq_true]
        intro x hx
        obtain ⟨s, hs, rfl⟩ := List.mem_map.1 hx
        obtain ⟨j, hj, rfl⟩ := List.getElem_of_mem hs
        exact HA.out j _ hj (List.getElem?_eq_getElem hj)
      have hjj := HJ.out
      unfold Lx.jn at hjj
      rw [if_pos hallw] at hjj
      have HJJ := Lib.hid hjj
      have hQ : (L.map (·.data.toList)).length = L.length := by simp
      have hll := Lx.line_len (L.map (·.data.toList)) (by
        intro q hq
        obtain ⟨s, hs, rfl⟩ := List.mem_map.1 hq
        rw [← Lib.size_eq]; exact HZ.out s hs)
      rw [hQ] at hll
      have HLL := Lib.hid hll
      clear hallw hjj hll
      go_wp2
      go_loopw [4, 8] (fun o i wr => ∃ k : Nat, k ≤ L.length ∧ i = .int .i64 k ∧ o = .string (Lx.bs (Lx.line ((L.map (·.data.toList)).take k))) ∧ W0 = wr) (fun _ i _ => L.length - (intOf i).toNat)
      case atStart => exact ⟨0, by omega, rfl, rfl, by first | rfl | trivial⟩
      case round =>
        obtain ⟨k, hk, rfl, rfl, rfl⟩ := hrel
        have hos : (Lx.bs (Lx.line ((L.map (·.data.toList)).take k))).size = (Lx.line ((L.map (·.data.toList)).take k)).length := Lx.size_bs _
        have hle := Lx.line_take_le (L.map (·.data.toList)) k
        have hll := HLL.out
        by_cases hgo : k < L.length ∧ (Lx.line ((L.map (·.data.toList)).take k)).length ≤ 300
        · obtain ⟨hkn, h3⟩ := hgo
          have c0 := HC.out k L[k] (List.getElem?_eq_getElem hkn)
          have hx : L[k].size ≤ 1000 := HZ.out _ (List.getElem_mem hkn)
          have hk0 : (0 : Int) ≤ (k : Int) := by omega
          have hk1 : (k : Int) < (L.length : Int) := by omega
          have hlt := Lx.line_take (L.map (·.data.toList)) k (by rw [hQ]; exact hkn)
          have hgk : (L.map (·.data.toList))[k]'(by rw [hQ]; exact hkn) = L[k].data.toList := by simp
          rw [hgk] at hlt
          generalize L[k] = y at *
          have ho3 : (Lx.bs (Lx.line ((L.map (·.data.toList)).take k))).size ≤ 300 := by omega
          cases hw : Lx.wants y.data.toList with
          | true =>
            have hb := fun w => bare_at y (by omega) false (by rw [hw]; rfl) w
            have hq := wr_quoted y hw
            have hqs : (⟨#[34]⟩ ++ y ++ ⟨#[34]⟩ : ByteArray).size = 1 + y.size + 1 := by rw [ByteArray.size_append, ByteArray.size_append]; rfl
            have g1 : ¬ 9223372036854775807 < 1 + y.size := by omega
            have g2 : ¬ 9223372036854775807 < 1 + y.size + 1 := by omega
            by_cases hk00 : k = 0
            · have hkp : ¬ (0 : Int) < (k : Int) := by omega
              rw [if_pos hk00] at hlt
              have happ : Lx.bs (Lx.line ((L.map (·.data.toList)).take k)) ++ (⟨#[34]⟩ ++ y ++ ⟨#[34]⟩) = Lx.bs (Lx.line ((L.map (·.data.toList)).take (k + 1))) := by
                rw [hlt, hk00, ← hq]; exact app_bs [] _
              have HA1 := Lib.hid happ
              generalize Lx.bs (Lx.line ((L.map (·.data.toList)).take k)) = O at *
              have g3 : ¬ 9223372036854775807 < O.size + (1 + y.size + 1) := by omega
              clear happ hlt hq hk00 hw hgk hle hll hqs
              go_wp2_with fail
              refine (hb _).mono ?_; rintro e w1 ⟨rfl, rfl⟩
              go_wp2
              go_roundw
              case rel => exact ⟨k + 1, by omega, by go_num, by first | exact congrArg Value.string HA1.out | (rw [HA1.out]; done) | (rw [← HA1.out]; done), by first | rfl | trivial⟩
              case measure => simp [intOf] <;> omega

            · have hkp : (0 : Int) < (k : Int) := by omega
              rw [if_neg hk00] at hlt
              have happ : Lx.bs (Lx.line ((L.map (·.data.toList)).take k)) ++ (⟨#[32]⟩ ++ (⟨#[34]⟩ ++ y ++ ⟨#[34]⟩)) = Lx.bs (Lx.line ((L.map (·.data.toList)).take (k + 1))) := by
                rw [hlt, ← hq, sp_bs, app_bs]
              have HA1 := Lib.hid happ
              generalize Lx.bs (Lx.line ((L.map (·.data.toList)).take k)) = O at *
              have g3 : ¬ 9223372036854775807 < 1 + (1 + y.size + 1) := by omega
              have g4 : ¬ 9223372036854775807 < O.size + (1 + (1 + y.size + 1)) := by omega
              clear happ hlt hq hk00 hw hgk hle hll hqs
              go_wp2_with fail
              refine (hb _).mono ?_; rintro e w1 ⟨rfl, rfl⟩
              go_wp2
              go_roundw
              case rel => exact ⟨k + 1, by omega, by go_num, by first | exact congrArg Value.string HA1.out | (rw [HA1.out]; done) | (rw [← HA1.out]; done), by first | rfl | trivial⟩
              case measure => simp [intOf] <;> omega

          | false =>
            have hb := fun w => bare_at y (by omega) true (by rw [hw]; rfl) w
            have hq := wr_plain y hw
            by_cases hk00 : k = 0
            · have hkp : ¬ (0 : Int) < (k : Int) := by omega
              rw [if_pos hk00] at hlt
              have happ : Lx.bs (Lx.line ((L.map (·.data.toList)).take k)) ++ y = Lx.bs (Lx.line ((L.map (·.data.toList)).take (k + 1))) := by
                rw [hlt, hk00]; conv => lhs; rw [← hq]
                exact app_bs [] _
              have HA1 := Lib.hid happ
              generalize Lx.bs (Lx.line ((L.map (·.data.toList)).take k)) = O at *
              have g3 : ¬ 9223372036854775807 < O.size + y.size := by omega
              clear happ hlt hq hk00 hw hgk hle hll
              go_wp2_with fail
              refine (hb _).mono ?_; rintro e w1 ⟨rfl, rfl⟩
              go_wp2
              go_roundw
              case rel => exact ⟨k + 1, by omega, by go_num, by first | exact congrArg Value.string HA1.out | (rw [HA1.out]; done) | (rw [← HA1.out]; done), by first | rfl | trivial⟩
              case measure => simp [intOf] <;> omega

            · have hkp : (0 : Int) < (k : Int) := by omega
              rw [if_neg hk00] at hlt
              have happ : Lx.bs (Lx.line ((L.map (·.data.toList)).take k)) ++ (⟨#[32]⟩ ++ y) = Lx.bs (Lx.line ((L.map (·.data.toList)).take (k + 1))) := by
                rw [hlt]; conv => lhs; rw [← hq]
                rw [sp_bs, app_bs]
              have HA1 := Lib.hid happ
              generalize Lx.bs (Lx.line ((L.map (·.data.toList)).take k)) = O at *
              have g3 : ¬ 9223372036854775807 < 1 + y.size := by omega
              have g4 : ¬ 9223372036854775807 < O.size + (1 + y.size) := by omega
              clear happ hlt hq hk00 hw hgk hle hll
              go_wp2_with fail
              refine (hb _).mono ?_; rintro e w1 ⟨rfl, rfl⟩
              go_wp2
              go_roundw
              case rel => exact ⟨k + 1, by omega, by go_num, by first | exact congrArg Value.string HA1.out | (rw [HA1.out]; done) | (rw [← HA1.out]; done), by first | rfl | trivial⟩
              case measure => simp [intOf] <;> omega

        · have hfin : (Lx.line ((L.map (·.data.toList)).take k)).length ≤ 300 → k = L.length := by
            intro h; rcases Nat.lt_or_ge k L.length with h2 | h2
            · exact absurd ⟨h2, h⟩ hgo
            · omega
          have hjj := HJJ.out
          by_cases h3 : 300 < (Lx.line ((L.map (·.data.toList)).take k)).length
          · rw [if_pos (by omega)] at hjj
            obtain ⟨rfl, rfl⟩ := Prod.mk.inj hjj
            have h4 : 300 < (Lx.bs (Lx.line ((L.map (·.data.toList)).take k))).size := by omega
            clear hjj h3 hos hle hll hgo hfin
            generalize Lx.bs (Lx.line ((L.map (·.data.toList)).take k)) = O at *
            by_cases hkn : k < L.length
            · have hk1 : (k : Int) < (L.length : Int) := by omega
              go_wp2
              go_ret2
              exact ⟨rfl, rfl⟩
            · obtain rfl : k = L.length := by omega
              go_wp2
              go_ret2
              exact ⟨rfl, rfl⟩
          · obtain rfl := hfin (by omega)
            have htk : (L.map (·.data.toList)).take L.length = L.map (·.data.toList) := List.take_of_length_le (by omega)
            rw [htk] at h3 hos ⊢
            rw [if_neg h3] at hjj
            obtain ⟨rfl, rfl⟩ := Prod.mk.inj hjj
            have h4 : ¬ 300 < (Lx.bs (Lx.line (L.map (·.data.toList)))).size := by omega
            clear hjj h3 hos hle hll hgo hfin htk
            generalize hOO : Lx.bs (Lx.line (L.map (·.data.toList))) = O at *
            have HOO := Lib.hid hOO
            clear hOO
            go_wp2
            go_ret2
            have := HOO.out
            subst this
            exact ⟨rfl, rfl⟩

theorem rjoin_nil (a : Option Addr) (cap : Nat) (W0 : World) :
    Calls Tryd.prog 20 #[.slice a 0 cap] W0 fun e w' => e = .returned (.tuple #[.string ⟨#[]⟩, .int .i64 0]) ∧ W0 = w' := by
  go_enter Tryd.func20, Tryd.ntmps20
  go_wp2
  go_loopw [5] (fun i wr => i = .int .i64 0 ∧ W0 = wr) (fun _ _ => 0)
  case atStart => exact ⟨rfl, by first | rfl | trivial⟩
  case round =>
    obtain ⟨rfl, rfl⟩ := hrel
    go_wp2
    go_loopw [4, 8] (fun o i wr => o = .string ⟨#[]⟩ ∧ i = .int .i64 0 ∧ W0 = wr) (fun _ _ _ => 0)
    case atStart => exact ⟨rfl, rfl, by first | rfl | trivial⟩
    case round =>
      obtain ⟨rfl, rfl, rfl⟩ := hrel
      go_wp2
      go_ret2
      exact ⟨rfl, rfl⟩
theorem rjoin_any (v : Value) (L : List ByteArray) (hl : L.length ≤ 1000) (hz : ∀ s ∈ L, s.size ≤ 1000) (S : ByteArray) (c : Int) (h : Lx.jn (L.map (·.data.toList)) = (S, c)) (W0 : World) (hI : Strs W0 v L) :
    Calls Tryd.prog 20 #[v] W0 fun e w' => e = .returned (.tuple #[.string S, .int .i64 c]) ∧ W0 = w' := by
  rcases hI with ⟨a, cap, rfl, rfl⟩ | ⟨b, off, cap, rfl, hp, hb, hc⟩
  · have e : Lx.jn (([] : List ByteArray).map (·.data.toList)) = (⟨#[]⟩, 0) := rfl
    rw [e] at h
    obtain ⟨rfl, rfl⟩ := Prod.mk.inj h
    exact rjoin_nil a cap W0
  · exact rjoin_core b off cap L hp.1 hl hz S c h W0 hc
end Go.Proofs.YtlekbbggbfhgaaaDoor
