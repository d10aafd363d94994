/- The contract of word.meant. -/
import Derived.Test.YtedcfnaphfgfjaaDoorWdb
namespace Go.Proofs.YtedcfnaphfgfjaaDoor
open Go.RowKit Go.Shelf
attribute [local go_sem] Oper.semAt_some
theorem isEmpty_of (s : ByteArray) : s.toList.isEmpty = s.data.toList.isEmpty := by rw [ByteArray.toList_eq]
theorem one_short (l : List Nat) (h : l.length ≤ 1) : (l = [] ∧ Wd.one l = (0, 8)) ∨ ∃ n : Nat, l = [n] ∧ Wd.one l = ((n : Int), 0) := by
  match l, h with
  | [], _ => exact .inl ⟨rfl, rfl⟩
  | [n], _ => exact .inr ⟨n, rfl, rfl⟩
theorem one_long (l : List Nat) (h : 2 ≤ l.length) : Wd.one l = (0, 8) := by
  match l, h with
  | _ :: _ :: _, _ => rfl
theorem hits_more (W : List (List Nat)) (s : List Nat) (k m : Nat) : (Wd.hits W s k).length ≤ (Wd.hits W s (k + m)).length := by
  induction m with
  | zero => exact Nat.le_refl _
  | succ m ih => rw [← Nat.add_assoc, Wd.hits, List.length_append]; omega
theorem boxed_stays {W W' : World} {row : Option Nat} {B : Nat} {t : TypeId} {v : Value} (h : Boxed W B t v) (hg : W.grownBy W' row) (hr : ∀ r, row = some r → ∃ o : Obj, W.heap[r]? = some o ∧ o.isCells = false) : Boxed W' B t v :=
  h.kept hg (fun e => by
    obtain ⟨o, ho, hc⟩ := hr B e.symm
    rw [show W.heap[B]? = _ from h] at ho
    cases ho
    cases hc)
theorem boxed_other {W : World} {B C : Nat} {t : TypeId} {v : Value} (h : Boxed W B t v) (u : Value) (hne : B ≠ C) : Boxed (W.setCell ⟨C, 0, none⟩ u) B t v := h.kept (grownBy_setCell' W C u) (by simpa using hne)
theorem KB.setCell {b c : Nat} (W : World) (u : Value) (h : b ≠ c) : KB b W (W.setCell ⟨c, 0, none⟩ u) := Below.heap_setCell W ⟨c, 0, none⟩ u b h
set_option maxRecDepth 100000 in
set_option maxHeartbeats 2000000 in
theorem meant_in (n : Nat) (hn : 3 ≤ n) (s : ByteArray) (L : List ByteArray) (hL : L.length = 13) (hsz : ∀ x ∈ L, x.size ≤ 1000) (r1 r2 : Int) (hr : Hid (Wd.fnd (wl L) (Wd.low s.data.toList) = (r1, r2))) (w : World) :
    CallsIn Fence.wide n Tryd.prog 42 #[.string s, .agg (strV L).toArray] w fun e W' => e = .returned (.tuple #[.int .i64 r1, .int .i64 r2]) ∧ Below w.heap.size w W' := by
  have h1 : 1 ≤ n := by omega
  refine callsIn_of_wp_marks Tryd.func42 rfl trivial ?_ rfl
  simp only [Tryd.ntmps42, List.size_toArray, List.length_cons, List.length_nil, Nat.reduceAdd, Nat.reduceSub, Array.replicate_succ, Array.replicate_zero, List.push_toArray, List.append_toArray, List.nil_append, List.cons_append]
  have hie := isEmpty_of s
  cases hd : s.data.toList with
  | nil =>
    rw [hd] at hie
    have hse : s.toList.isEmpty = true := hie
    have hq := hr.out
    rw [hd] at hq
    obtain ⟨rfl, rfl⟩ : r1 = 0 ∧ r2 = 8 := by
      have : ((0 : Int), (8 : Int)) = (r1, r2) := hq
      simpa [eq_comm] using this
    clear hq hr hie hd
    gi_wp2
    refine ⟨.tuple #[.int .i64 0, .int .i64 8], ?_, rfl, ((Below.refl _ w).alloc (Nat.le_refl _) _).alloc (by simp) _ |>.alloc (by simp; omega) _⟩
    simp [results, Tryd.f42, go_sem]
  | cons c0 t0 =>
    rw [hd] at hie
    have hse : s.toList.isEmpty = false := hie
    have hq := hr.out
    have hfn : Wd.fnd (wl L) (Wd.low s.data.toList) = Wd.one (Wd.hits (wl L) (Wd.low s.data.toList) 13) := by rw [hd]; rfl
    rw [hfn] at hq
    have HQ := Lib.hid hq
    clear hq hr hie hd hfn
    have HCW : Cs (((((w.alloc (.cells (strV L).toArray 79)).alloc (.cells #[.int .i64 0] 3)).alloc (.cells #[.int .i64 0] 25)).alloc (.cells #[.int .i64 0] 3)).alloc (.cells #[.int .i64 8] 25)) w.heap.size (strV L) := ((((Cs.new w (strV L) _).al _).al _).al _).al _
    gi_wp2_with (first | (refine wpListIn_load13 L hL rfl _ rfl _ rfl HCW ?_) | (refine ⟨trivial, ?_⟩; gi_at_call 60; refine (begun_in (n - 1) s L _).mono ?_; rintro e w' ⟨rfl, rfl⟩))
    clear HCW
    have bA := Boxed.new (w.alloc (.cells (strV L).toArray 79)) 3 (.int .i64 0)
    have bB := Boxed.new ((w.alloc (.cells (strV L).toArray 79)).alloc (.cells #[.int .i64 0] 3)) 25 (.int .i64 0)
    have bN := Boxed.new (((w.alloc (.cells (strV L).toArray 79)).alloc (.cells #[.int .i64 0] 3)).alloc (.cells #[.int .i64 0] 25)) 3 (.int .i64 0)
    have bE := Boxed.new ((((w.alloc (.cells (strV L).toArray 79)).alloc (.cells #[.int .i64 0] 3)).alloc (.cells #[.int .i64 0] 25)).alloc (.cells #[.int .i64 0] 3)) 25 (.int .i64 8)
    have bS := Boxed.new (((((w.alloc (.cells (strV L).toArray 79)).alloc (.cells #[.int .i64 0] 3)).alloc (.cells #[.int .i64 0] 25)).alloc (.cells #[.int .i64 0] 3)).alloc (.cells #[.int .i64 8] 25)) 9 (.string s)
    have bW := Cs.new ((((((w.alloc (.cells (strV L).toArray 79)).alloc (.cells #[.int .i64 0] 3)).alloc (.cells #[.int .i64 0] 25)).alloc (.cells #[.int .i64 0] 3)).alloc (.cells #[.int .i64 8] 25)).alloc (.cells #[.string s] 9)) (strV L) 79
    simp only [World.size_alloc] at bA bB bN bE bS bW
    have hB0 : Below w.heap.size w (((((((w.alloc (.cells (strV L).toArray 79)).alloc (.cells #[.int .i64 0] 3)).alloc (.cells #[.int .i64 0] 25)).alloc (.cells #[.int .i64 0] 3)).alloc (.cells #[.int .i64 8] 25)).alloc (.cells #[.string s] 9)).alloc (.cells (strV L).toArray 79)) := ((((((((Below.refl _ w).alloc (Nat.le_refl _) _).alloc (by simp) _).alloc (by simp; omega) _).alloc (by simp; omega) _).alloc (by simp; omega) _).alloc (by simp; omega) _).alloc (by simp; omega) _)
    have bA' := (((((bA.alloc (.cells #[.int .i64 0] 25)).alloc (.cells #[.int .i64 0] 3)).alloc (.cells #[.int .i64 8] 25)).alloc (.cells #[.string s] 9)).alloc (.cells (strV L).toArray 79))
    have bB' := ((((bB.alloc (.cells #[.int .i64 0] 3)).alloc (.cells #[.int .i64 8] 25)).alloc (.cells #[.string s] 9)).alloc (.cells (strV L).toArray 79))
    have bN' := (((bN.alloc (.cells #[.int .i64 8] 25)).alloc (.cells #[.string s] 9)).alloc (.cells (strV L).toArray 79))
    have bE' := ((bE.alloc (.cells #[.string s] 9)).alloc (.cells (strV L).toArray 79))
    have bS' := bS.alloc (.cells (strV L).toArray 79)
    clear bA bB bN bE bS
    have hsz0 : (((((((w.alloc (.cells (strV L).toArray 79)).alloc (.cells #[.int .i64 0] 3)).alloc (.cells #[.int .i64 0] 25)).alloc (.cells #[.int .i64 0] 3)).alloc (.cells #[.int .i64 8] 25)).alloc (.cells #[.string s] 9)).alloc (.cells (strV L).toArray 79)).heap.size = w.heap.size + 7 := by simp
    generalize (((((((w.alloc (.cells (strV L).toArray 79)).alloc (.cells #[.int .i64 0] 3)).alloc (.cells #[.int .i64 0] 25)).alloc (.cells #[.int .i64 0] 3)).alloc (.cells #[.int .i64 8] 25)).alloc (.cells #[.string s] 9)).alloc (.cells (strV L).toArray 79)) = W0 at *
    refine wpIn_rangeFunc_ownF rfl h1 (gf := 80) (lb := #[.pointer (some ⟨w.heap.size + 1 + 1 + 1 + 1 + 1 + 1, 0, none⟩), .pointer (some ⟨w.heap.size + 1 + 1 + 1 + 1 + 1, 0, none⟩)]) rfl trivial (enters_of Tryd.func80 (by kernel_rfl) rfl)
      (begun_stops (n - 1) (by omega) _ _ s L hL hsz W0 bW bS'.cell) (fun h k => h.trans k) (fun W l o o' hl _ _ _ => (World.putObj_heap_other (by omega))) (Below.refl _ _) (fun _ => rfl)
      (fun pre W => (pre.length ≤ 1 ∧ Boxed W (w.heap.size + 1) 3 (.int .i64 0) ∧ Boxed W (w.heap.size + 1 + 1) 25 (.int .i64 0) ∧ Boxed W (w.heap.size + 1 + 1 + 1) 3 (.int .i64 (Wd.one pre).1) ∧ Boxed W (w.heap.size + 1 + 1 + 1 + 1) 25 (.int .i64 (Wd.one pre).2)) ∧ Below w.heap.size w W)
      (fun c pre W => (c = .ret ∧ 2 ≤ pre.length ∧ Boxed W (w.heap.size + 1) 3 (.int .i64 0) ∧ Boxed W (w.heap.size + 1 + 1) 25 (.int .i64 8)) ∧ Below w.heap.size w W)
      (OwnFrom.and (Own.from (fun s A B row hs hg hr => ⟨hs.1, boxed_stays hs.2.1 hg hr, boxed_stays hs.2.2.1 hg hr, boxed_stays hs.2.2.2.1 hg hr, boxed_stays hs.2.2.2.2 hg hr⟩) _) (ownFrom_below (Nat.le_refl _) (by omega)))
      (fun c => OwnFrom.and (Own.from (fun s A B row hs hg hr => ⟨hs.1, hs.2.1, boxed_stays hs.2.2.1 hg hr, boxed_stays hs.2.2.2 hg hr⟩) _) (ownFrom_below (Nat.le_refl _) (by omega)))
      ⟨⟨by simp, bA', bB', bN', bE'⟩, hB0⟩
      (fun x => { tmps := #[.string s, .agg (strV L).toArray, undef, .pointer (some ⟨w.heap.size, 0, none⟩), .pointer (some ⟨w.heap.size + 1, 0, none⟩), .pointer (some ⟨w.heap.size + 1 + 1, 0, none⟩), .pointer (some ⟨w.heap.size + 1 + 1 + 1, 0, none⟩), .pointer (some ⟨w.heap.size + 1 + 1 + 1 + 1, 0, none⟩), .int .i64 ((x : Nat) : Int), .string s, .bool false, .string s, .agg (strV L).toArray, .func (.func 80) #[] #[.pointer (some ⟨w.heap.size + 1 + 1 + 1 + 1 + 1 + 1, 0, none⟩), .pointer (some ⟨w.heap.size + 1 + 1 + 1 + 1 + 1, 0, none⟩)], .int .i64 ((x : Nat) : Int), undef, undef, undef, undef, undef], defers := [] }) ?assign ?body ?done ?stop
    case assign =>
      intro l x W K hK
      gi_wp2
      exact hK
    case body =>
      rintro l pre x W ⟨⟨hp, bA, bB, bN, bE⟩, hB⟩ _
      clear bA' bB' bN' bE' bS' bW hB0
      rcases one_short pre hp with ⟨rfl, e⟩ | ⟨m, rfl, e⟩
      · rw [e] at bN bE
        have cA := bA.cell
        have cB := bB.cell
        have cN := bN.cell
        have cE := bE.cell
        have fN := bN.frozen
        have fE := bE.frozen
        gi_wp2
        refine ⟨(KeepsOthers.setCell _ _ _).trans (KeepsOthers.setCell _ _ _), ?_, ⟨by simp, ?_, ?_, ?_, ?_⟩, (hB.setCell (p := ⟨w.heap.size + 1 + 1 + 1, 0, none⟩) (by simp; omega) _).setCell (p := ⟨w.heap.size + 1 + 1 + 1 + 1, 0, none⟩) (by simp; omega) _⟩
        · exact KB.trans (KB.setCell _ _ (by omega)) (KB.setCell _ _ (by omega))
        · exact boxed_other (boxed_other bA _ (by omega)) _ (by omega)
        · exact boxed_other (boxed_other bB _ (by omega)) _ (by omega)
        · exact boxed_other (bN.set _) _ (by omega)
        · exact (boxed_other bE _ (by omega)).set _
      · rw [e] at bN bE
        have cA := bA.cell
        have cB := bB.cell
        have cN := bN.cell
        have cE := bE.cell
        have fA := bA.frozen
        have fB := bB.frozen
        gi_wp2
        refine ⟨(KeepsOthers.setCell _ _ _).trans (KeepsOthers.setCell _ _ _), ⟨rfl, by simp, ?_, ?_⟩, (hB.setCell (p := ⟨w.heap.size + 1, 0, none⟩) (by simp) _).setCell (p := ⟨w.heap.size + 1 + 1, 0, none⟩) (by simp; omega) _⟩
        · exact boxed_other (bA.set _) _ (by omega)
        · exact (boxed_other bB _ (by omega)).set _
    case done =>
      clear bA' bB' bN' bE' bS' bW hB0
      rintro D ys W hD rfl ⟨⟨hp, bA, bB, bN, bE⟩, hB⟩ hK
      rw [HQ.out] at bN bE
      have cA := bA.cell
      have cB := bB.cell
      have cN := bN.cell
      have cE := bE.cell
      have fA := bA.frozen
      have fB := bB.frozen
      gi_wp2
      gi_region
      have xA : Boxed ((W.setCell ⟨w.heap.size + 1, 0, none⟩ (.int .i64 r1)).setCell ⟨w.heap.size + 1 + 1, 0, none⟩ (.int .i64 r2)).drew (w.heap.size + 1) 3 (.int .i64 r1) := boxed_other (bA.set _) _ (by omega)
      have xB : Boxed ((W.setCell ⟨w.heap.size + 1, 0, none⟩ (.int .i64 r1)).setCell ⟨w.heap.size + 1 + 1, 0, none⟩ (.int .i64 r2)).drew (w.heap.size + 1 + 1) 25 (.int .i64 r2) := (boxed_other bB _ (by omega)).set _
      have hK' : ((W.setCell ⟨w.heap.size + 1, 0, none⟩ (.int .i64 r1)).setCell ⟨w.heap.size + 1 + 1, 0, none⟩ (.int .i64 r2)).drew.heap[D]? = some (Obj.deferred (some [])) := ((KeepsOthers.setCell W ⟨w.heap.size + 1, 0, none⟩ (.int .i64 r1)).trans (KeepsOthers.setCell _ ⟨w.heap.size + 1 + 1, 0, none⟩ (.int .i64 r2))).same D _ hK rfl
      have hB' : Below w.heap.size w ((W.setCell ⟨w.heap.size + 1, 0, none⟩ (.int .i64 r1)).setCell ⟨w.heap.size + 1 + 1, 0, none⟩ (.int .i64 r2)).drew := ((hB.setCell (p := ⟨w.heap.size + 1, 0, none⟩) (by simp) (.int .i64 r1)).setCell (p := ⟨w.heap.size + 1 + 1, 0, none⟩) (by simp; omega) (.int .i64 r2)).drew
      generalize ((W.setCell ⟨w.heap.size + 1, 0, none⟩ (.int .i64 r1)).setCell ⟨w.heap.size + 1 + 1, 0, none⟩ (.int .i64 r2)).drew = W2 at *
      have hc5 := cell_kept xA.cell (grownBy_putObj' _ D (.deferred none)) (fun r e => by cases e; exact ⟨_, hK', rfl⟩)
      have hc6 := cell_kept xB.cell (grownBy_putObj' _ D (.deferred none)) (fun r e => by cases e; exact ⟨_, hK', rfl⟩)
      gi_wp2
      refine ⟨by simp, .inl ⟨_, _, rfl, run_takeDeferred hK', ?_⟩⟩
      refine ⟨.tuple #[.int .i64 r1, .int .i64 r2], ?_, rfl, hB'.trans (belowK_b (w := w) (Nat.le_refl _) W2 D _ _ (by omega) hK' rfl rfl)⟩
      simp [results, Tryd.f42, go_sem, hc5, hc6]
    case stop =>
      clear bA' bB' bN' bE' bS' bW hB0
      rintro D c pre W hD ⟨k, hk, rfl⟩ ⟨⟨rfl, hp, bA, bB⟩, hB⟩ hK
      have hq := HQ.out
      rw [one_long _ (Nat.le_trans hp (by have := hits_more (wl L) (Wd.low s.data.toList) k (13 - k); rwa [Nat.add_sub_cancel' hk] at this))] at hq
      obtain ⟨rfl, rfl⟩ := Prod.mk.inj hq
      have hc5 := cell_kept bA.cell (grownBy_putObj' _ D (.deferred none)) (fun r e => by cases e; exact ⟨_, hK, rfl⟩)
      have hc6 := cell_kept bB.cell (grownBy_putObj' _ D (.deferred none)) (fun r e => by cases e; exact ⟨_, hK, rfl⟩)
      clear hq HQ
      gi_wp2
      refine ⟨by simp, .inl ⟨_, _, rfl, run_takeDeferred hK, ?_⟩⟩
      refine ⟨.tuple #[.int .i64 0, .int .i64 8], ?_, rfl, hB.trans (belowK_b (w := w) (Nat.le_refl _) W D _ _ (by omega) hK rfl rfl)⟩
      simp [results, Tryd.f42, go_sem, hc5, hc6]
theorem meant_any (s : ByteArray) (L : List ByteArray) (hL : L.length = 13) (hsz : ∀ x ∈ L, x.size ≤ 1000) (r1 r2 : Int) (hr : Hid (Wd.fnd (wl L) (Wd.low s.data.toList) = (r1, r2))) (w : World) :
    Calls Tryd.prog 42 #[.string s, .agg (strV L).toArray] w fun e W' => e = .returned (.tuple #[.int .i64 r1, .int .i64 r2]) ∧ Below w.heap.size w W' :=
  callsIn_wide.1 (meant_in 3 (by omega) s L hL hsz r1 r2 hr w)
end Go.Proofs.YtedcfnaphfgfjaaDoor
