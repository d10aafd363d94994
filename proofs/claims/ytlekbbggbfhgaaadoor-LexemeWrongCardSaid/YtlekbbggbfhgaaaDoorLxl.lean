/- Package lexeme: Lines. -/
import Derived.Test.YtlekbbggbfhgaaaDoorLy
import Derived.Test.YtlekbbggbfhgaaaDoorStr
import Derived.Test.YtlekbbggbfhgaaaDoorShelf
import Derived.Lib.Strings
namespace Go.Proofs.YtlekbbggbfhgaaaDoor
open Go.RowKit
/-- the library's own variable holds some number -/
def MaxW (w : World) : Prop := ∃ m, w.cell? ⟨0, 0, none⟩ = some (.int .i64 m)
theorem MaxW.bl {w w1 : World} (h : MaxW w) (k : Below w.heap.size w w1) : MaxW w1 := by
  obtain ⟨m, hm⟩ := h; exact ⟨m, cell_bl k hm⟩
theorem ret_tuple3 {v : Value} {a b c d : Int} (h : a = b) (g : c = d) : Ending.returned (.tuple #[v, .int .i64 a, .int .i64 c]) = .returned (.tuple #[v, .int .i64 b, .int .i64 d]) := by rw [h, g]
theorem trim_any (s : ByteArray) (hs : s.size ≤ 9223372036854775807) (w : World) : Calls Tryd.prog 27 #[.string s, .string ⟨#[10]⟩] w fun e w' => e = .returned (.string (Lx.bs (Lib.trimSuffix s.data.toList [10]))) ∧ w = w' :=
  (Tryd.strings_TrimSuffix s ⟨#[10]⟩ w hs).mono fun _ _ ⟨he, hw⟩ => ⟨he, hw.symm⟩
theorem split_any (s : ByteArray) (P : List (List UInt8)) (hP : Lx.split 10 s.data.toList = P) (hs : s.size ≤ 100000000) (w : World) (hM : MaxW w) : Calls Tryd.prog 24 #[.string s, .string ⟨#[10]⟩] w fun e w' => e = .returned (.slice (some ⟨w.heap.size, 0, none⟩) P.length P.length) ∧ w.alloc (.cells ((P.map Lx.bs).map Value.string).toArray 9) = w' := by
  obtain ⟨m, hm⟩ := hM
  subst hP
  refine (Tryd.strings_Split s ⟨#[10]⟩ m w (by omega) hm (Nat.le_refl 1)).mono ?_
  rintro e w' ⟨rfl, rfl⟩
  rw [Lx.countB_split, Lx.splitB_split]
  exact ⟨rfl, rfl⟩
theorem results_tmp3 {fn : Func} {t u v : Tmp} (h : fn.results = #[.tmp t, .tmp u, .tmp v]) (tmps : Array Value) (P : Program) (w : World) :
    (results fn tmps).run P w = .ok (.tuple #[tmps.getD t undef, tmps.getD u undef, tmps.getD v undef]) w := by simp [results, h]
set_option maxRecDepth 100000 in
set_option maxHeartbeats 1000000 in
theorem lines_any (s : ByteArray) (hs : s.size ≤ 100000000) (L : List ByteArray) (n c : Int) (h : Lx.lns s.data.toList = (L, n, c)) (W0 : World) (hM : MaxW W0) :
    Calls Tryd.prog 12 #[.string s] W0 fun e w' => ∃ v, e = .returned (.tuple #[v, .int .i64 n, .int .i64 c]) ∧ Strs w' v L ∧ Below W0.heap.size W0 w' := by
  have HM := Lib.hid hM
  clear hM
  unfold Lx.lns at h
  by_cases hb : 8388608 < s.size
  · rw [if_pos (by rw [← Lib.size_eq]; exact hb)] at h
    obtain ⟨rfl, h'⟩ := Prod.mk.inj h
    obtain ⟨rfl, rfl⟩ := Prod.mk.inj h'
    clear h h'
    go_enter Tryd.func12, Tryd.ntmps12
    go_wp2
    refine bodyPost_ret (results_tmp3 rfl _ _ _) rfl ?_
    exact ⟨_, rfl, .inl ⟨_, _, rfl, rfl⟩, Below.refl _ _⟩
  · rw [if_neg (by rw [← Lib.size_eq]; exact hb)] at h
    have hT : (Lx.bs (Lib.trimSuffix s.data.toList [10])).size ≤ 100000000 := by
      rw [Lx.size_bs]
      have := Lib.trimSuffix_le s.data.toList [10]
      rw [← Lib.size_eq] at this
      omega
    have hD : (Lx.bs (Lib.trimSuffix s.data.toList [10])).data.toList = Lib.trimSuffix s.data.toList [10] := Lx.data_bs _
    have h1 := trim_any s (by omega) W0
    generalize hTT : Lx.bs (Lib.trimSuffix s.data.toList [10]) = T at *
    generalize Lib.trimSuffix s.data.toList [10] = l at *
    clear hTT
    have h2 := split_any T _ rfl hT W0 HM.out
    rw [hD] at h2
    have hl0 : l.length ≤ 100000000 := by rw [← hD, ← Lib.size_eq]; exact hT
    clear hD hT
    have hne := Lx.split_ne 10 l
    have hlen : (Lx.split 10 l).length ≤ 100000001 := by
      have := Lx.split_len 10 l
      omega
    generalize Lx.split 10 l = P at *
    have H1 := Lib.hid h1
    have H2 := Lib.hid h2
    have HP := Lib.hid h
    have hpos : 0 < P.length := by cases P with
      | nil => exact absurd rfl hne
      | cons => simp
    clear h h1 h2 hne hl0
    have HNEW : Hid (∀ j x, (P.map Lx.bs)[j]? = some x → (W0.alloc (.cells ((P.map Lx.bs).map Value.string).toArray 9)).cell? ⟨W0.heap.size, j, none⟩ = some (.string x)) := Lib.hid fun j x hj => new_cell _ _ _ _ _ (by simp at hj ⊢; exact hj)
    have HB : Hid (Below W0.heap.size W0 (W0.alloc (.cells ((P.map Lx.bs).map Value.string).toArray 9))) := Lib.hid ((Below.refl _ W0).alloc (Nat.le_refl _) _)
    have hsz : W0.heap.size < (W0.alloc (.cells ((P.map Lx.bs).map Value.string).toArray 9)).heap.size := by simp
    go_enter Tryd.func12, Tryd.ntmps12
    go_wp2_with fail
    refine H1.out.mono ?_; rintro e w1 ⟨rfl, rfl⟩
    go_wp2_with fail
    refine H2.out.mono ?_; rintro e w1 ⟨rfl, hw1⟩
    rw [hw1] at HNEW HB hsz
    clear hw1
    go_wp2
    go_loopw [16] (fun i wr => ∃ k : Nat, k ≤ P.length ∧ i = .int .i64 k ∧ (∀ j x, j < k → P[j]? = some x → x.length ≤ 300) ∧ w1 = wr) (fun i _ => P.length - (intOf i).toNat)
    case atStart => exact ⟨0, by omega, rfl, fun j x hj => absurd hj (by omega), rfl⟩
    case round =>
      obtain ⟨k, hk, rfl, hall, rfl⟩ := hrel
      have HA := Lib.hid hall
      clear hall
      by_cases hkn : k < P.length
      · have c0 := HNEW.out k (Lx.bs P[k]) (by simp [hkn])
        have hsx := Lx.size_bs P[k]
        by_cases hl : 300 < P[k].length
        · have hfi : P.findIdx? (fun x => decide (300 < x.length)) = some k := by
            rw [List.findIdx?_eq_some_iff_getElem]
            refine ⟨hkn, by simpa using hl, fun j hj => ?_⟩
            have := HA.out j P[j] hj (by simp)
            simp; omega
          have hpp := HP.out
          rw [hfi] at hpp
          obtain ⟨rfl, hp2⟩ := Prod.mk.inj hpp
          obtain ⟨rfl, rfl⟩ := Prod.mk.inj hp2
          clear hp2
          rw [← hsx] at hl
          clear hsx hfi hpp
          generalize Lx.bs P[k] = y at *
          go_wp2
          refine bodyPost_ret (results_tmp3 rfl _ _ _) rfl ?_
          exact ⟨_, rfl, .inl ⟨_, _, rfl, rfl⟩, HB.out⟩
        · have HL := Lib.hid hl
          rw [← hsx] at hl
          clear hsx
          generalize Lx.bs P[k] = y at *
          go_wp2
          go_roundw
          case rel =>
            refine ⟨k + 1, by omega, by go_num, fun j x hj hx => ?_, by first | rfl | trivial⟩
            by_cases e : j = k
            · subst e
              rw [List.getElem?_eq_getElem hkn] at hx
              injection hx with hx
              subst hx
              have := HL.out; omega
            · exact HA.out j x (by omega) hx
          case measure => simp [intOf]; omega
      · obtain rfl : k = P.length := by omega
        have hfi : P.findIdx? (fun x => decide (300 < x.length)) = none := by
          rw [List.findIdx?_eq_none_iff]
          intro x hx
          obtain ⟨j, hj, rfl⟩ := List.getElem_of_mem hx
          have := HA.out j P[j] hj (by simp)
          simp; omega
        have hpp := HP.out
        rw [hfi] at hpp
        obtain ⟨rfl, hp2⟩ := Prod.mk.inj hpp
        obtain ⟨rfl, rfl⟩ := Prod.mk.inj hp2
        clear hp2
        clear hfi hpp
        go_wp2
        refine bodyPost_ret (results_tmp3 rfl _ _ _) rfl ?_
        refine ⟨_, rfl, .inr ⟨W0.heap.size, 0, P.length, by simp, by simp; omega, by assumption, fun j x hj => ?_⟩, HB.out⟩
        rw [Nat.zero_add]; exact HNEW.out j x hj
end Go.Proofs.YtlekbbggbfhgaaaDoor
