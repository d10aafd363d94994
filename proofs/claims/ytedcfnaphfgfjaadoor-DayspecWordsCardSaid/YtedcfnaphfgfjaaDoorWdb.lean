/- The contracts of package word: the range-function begun and its iterator, meant. -/
import Derived.Test.YtedcfnaphfgfjaaDoorWda
namespace Go.Proofs.YtedcfnaphfgfjaaDoor
open Go.RowKit Go.Shelf
attribute [local go_sem] Oper.semAt_some

/-- the words of a list, as numbers of bytes -/
def wl (L : List ByteArray) : List (List Nat) := L.map fun x => Wd.nats x.data.toList
theorem wl_at (L : List ByteArray) (k : Nat) (x : ByteArray) (h : L[k]? = some x) : (wl L).getD k [] = Wd.nats x.data.toList := by
  rw [wl, List.getD_eq_getElem?_getD, List.getElem?_map, h]; rfl
theorem grown_dw {w w' : World} (h : Dw w w') : w.grownBy w' none := by
  obtain ⟨n, rfl⟩ := h; exact ⟨rfl, rfl, rfl, Nat.le_refl _, fun _ _ _ => rfl⟩
/-- a block is as it was -/
def KB (b : Nat) (W W' : World) : Prop := W'.heap[b]? = W.heap[b]?
theorem KB.refl (b : Nat) (W : World) : KB b W W := rfl
theorem KB.trans {b : Nat} {A B C : World} (h : KB b A B) (k : KB b B C) : KB b A C := Eq.trans k h
theorem KB.dw {b : Nat} {A B : World} (h : Dw A B) : KB b A B := by obtain ⟨n, rfl⟩ := h; rfl
theorem KB.cell {b o : Nat} {A B : World} (h : KB b A B) : B.cell? ⟨b, o, none⟩ = A.cell? ⟨b, o, none⟩ := World.cell?_of_block h
set_option maxRecDepth 100000 in
set_option maxHeartbeats 2000000 in
theorem begun1_in (n l bw bs B : Nat) (s : ByteArray) (L : List ByteArray) (hL : L.length = 13) (hsz : ∀ x ∈ L, x.size ≤ 1000) (hn : 1 ≤ n) (J Jx : List Nat → World → Prop) (hJ : AbidesFrom B J)
    (hY : ∀ pre x W, J pre W → pre.length < 13 → YieldAt Fence.wide (n - 1) Tryd.prog l #[.int .i64 ((x : Nat) : Int)] W fun e W' =>
      (e = .returned (.bool true) ∧ J (pre ++ [x]) W' ∧ KB bs W W') ∨ (e = .returned (.bool false) ∧ Jx (pre ++ [x]) W'))
    (W : World) (hcw : Cs W bw (strV L)) (hcs : W.cell? ⟨bs, 0, none⟩ = some (.string s)) (h0 : J [] W) :
    CallsIn Fence.wide n Tryd.prog 80 #[.func (.yield l) #[] #[], .pointer (some ⟨bw, 0, none⟩), .pointer (some ⟨bs, 0, none⟩)] W fun e W' => (∃ v, e = .returned v) ∧
      ((∃ ys, ys = Wd.hits (wl L) (Wd.low s.data.toList) 13 ∧ J ys W') ∨ (∃ pre, (∃ k, k ≤ 13 ∧ pre = Wd.hits (wl L) (Wd.low s.data.toList) k) ∧ Jx pre W')) := by
  refine callsIn_of_wp Tryd.func80 rfl trivial ?_ rfl
  simp only [Tryd.ntmps80, List.size_toArray, List.length_cons, List.length_nil, Nat.reduceAdd, Nat.reduceSub, Array.replicate_succ, Array.replicate_zero, List.push_toArray, List.append_toArray, List.nil_append, List.cons_append]
  have HCW := Lib.hid hcw
  clear hcw
  gi_wp2_with (refine wpListIn_load13 L hL rfl _ rfl bw rfl HCW.out ?_)
  gi_loopw [7] (fun i wr => ∃ k : Nat, k ≤ 13 ∧ i = .int .i64 k ∧ J (Wd.hits (wl L) (Wd.low s.data.toList) k) wr ∧ KB bs W wr) (fun i _ => 13 - (intOf i).toNat)
  case atStart => exact ⟨0, by omega, rfl, h0, KB.refl _ _⟩
  case round =>
    obtain ⟨k, hk, rfl, hJs, hnx⟩ := hrel
    have hcs' := hnx.cell.trans hcs
    by_cases hlt : k < 13
    · have hx : L[k]? = some (L[k]'(by omega)) := List.getElem?_eq_getElem (by omega)
      have hxs := hsz _ (List.getElem_mem (show k < L.length by omega))
      generalize L[k]'(by omega) = x at *
      have hix := ix13 L k hlt x hx
      have hw := wl_at L k x hx
      have hh : Wd.hits (wl L) (Wd.low s.data.toList) (k + 1) = Wd.hits (wl L) (Wd.low s.data.toList) k ++ (if Wd.pre (Wd.low s.data.toList) ((wl L).getD k []) then [k] else []) := rfl
      rw [hw] at hh
      have hlen : (Wd.hits (wl L) (Wd.low s.data.toList) k).length < 13 := by
        have : ∀ j, (Wd.hits (wl L) (Wd.low s.data.toList) j).length ≤ j := by
          intro j
          induction j with
          | zero => simp [Wd.hits]
          | succ j ih => rw [Wd.hits, List.length_append]; split <;> simp <;> omega
        have := this k
        omega
      have hk0 : (0 : Int) ≤ (k : Int) := by omega
      have hk1 : (k : Int) < 13 := by omega
      have HH := Lib.hid hh
      have HN := Lib.hid hnx
      have HL := Lib.hid hlen
      obtain ⟨r, hr⟩ : ∃ r, Wd.pre (Wd.low s.data.toList) (Wd.nats x.data.toList) = r := ⟨_, rfl⟩
      have HR := Lib.hid hr
      have HX := Lib.hid hxs
      clear hh hnx hlen hw hx hr hxs
      gi_wp2_with fail
      refine ⟨trivial, ?_⟩
      refine (callsIn_wide.2 (begins_any s x r HR HX.out wr)).mono ?_
      rintro e w1 ⟨rfl, hd⟩
      have hJ1 := hJ _ _ _ none hJs (grown_dw hd) (fun r e => by cases e)
      have HB1 := Lib.hid (HN.out.trans (KB.dw hd))
      have e1 := HH.out
      rw [HR.out] at e1
      clear hd
      cases r with
      | false =>
        rw [if_neg (by decide), List.append_nil] at e1
        rw [← e1] at hJ1
        clear e1
        gi_wp2
        refine ⟨fun _ h => (by cases h), ?_⟩
        gi_wp2
        go_roundw
        case rel => exact ⟨k + 1, by omega, by go_num, hJ1, HB1.out⟩
        case measure => simp [intOf] <;> omega
      | true =>
        rw [if_pos rfl] at e1
        obtain ⟨fn, tmps, assign, body, hy, hR⟩ := hY _ k w1 hJ1 HL.out
        have HRR := Lib.hid hR
        have E1 := Lib.hid e1
        clear e1 hR
        gi_wp2
        refine HRR.out.mono ?_
        rintro e W3 (⟨rfl, hJ3, hk3⟩ | ⟨rfl, hJx3⟩)
        · gi_wp2
          go_roundw
          case rel => exact ⟨k + 1, by omega, by go_num, by rw [E1.out]; exact hJ3, HB1.out.trans hk3⟩
          case measure => simp [intOf] <;> omega
        · gi_wp2
          refine bodyPost_ret (results_none rfl _ _ _) rfl ?_
          exact ⟨⟨_, rfl⟩, .inr ⟨_, ⟨k + 1, by omega, E1.out.symm⟩, hJx3⟩⟩
    · obtain rfl : k = 13 := by omega
      gi_wp2
      go_end0
      exact ⟨⟨_, rfl⟩, .inl ⟨_, rfl, hJs⟩⟩
theorem begun_stops (n : Nat) (hn : 1 ≤ n) (bw bs : Nat) (s : ByteArray) (L : List ByteArray) (hL : L.length = 13) (hsz : ∀ x ∈ L, x.size ≤ 1000) (w : World) (hcw : Cs w bw (strV L)) (hcs : w.cell? ⟨bs, 0, none⟩ = some (.string s)) :
    SeqStopsK Fence.wide n Tryd.prog 80 #[.pointer (some ⟨bw, 0, none⟩), .pointer (some ⟨bs, 0, none⟩)] (fun x : Nat => #[Value.int .i64 (x : Int)]) (KB bs) (fun ys => ys = Wd.hits (wl L) (Wd.low s.data.toList) 13)
      (fun pre => ∃ k, k ≤ 13 ∧ pre = Wd.hits (wl L) (Wd.low s.data.toList) k) 13 w := fun l J Jx W hW hJ _ hY h0 =>
  begun1_in n l bw bs _ s L hL hsz hn J Jx hJ hY W (hcw.bl hW) (cell_bl hW hcs) h0
theorem begun_in (n : Nat) (s : ByteArray) (L : List ByteArray) (w : World) :
    CallsIn Fence.wide n Tryd.prog 60 #[.string s, .agg (strV L).toArray] w fun e w' => e = .returned (.func (.func 80) #[] #[.pointer (some ⟨w.heap.size + 1, 0, none⟩), .pointer (some ⟨w.heap.size, 0, none⟩)]) ∧ w' = (w.alloc (.cells #[.string s] 9)).alloc (.cells (strV L).toArray 79) := by
  refine callsIn_of_wp Tryd.func60 rfl trivial ?_ rfl
  simp only [Tryd.ntmps60, List.size_toArray, List.length_cons, List.length_nil, Nat.reduceAdd, Nat.reduceSub, Array.replicate_succ, Array.replicate_zero, List.push_toArray, List.append_toArray, List.nil_append, List.cons_append]
  gi_wp2
  go_ret
  exact ⟨rfl, rfl⟩
end Go.Proofs.YtedcfnaphfgfjaaDoor
