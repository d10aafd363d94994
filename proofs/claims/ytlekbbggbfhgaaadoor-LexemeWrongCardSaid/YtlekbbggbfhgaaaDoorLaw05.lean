/- The examples of chapter 5 hold: the function works of the statements about layer 5 returns true. -/
import Derived.Test.YtlekbbggbfhgaaaDoorLxf
import Derived.Test.YtlekbbggbfhgaaaDoorLxl
import Derived.Test.YtlekbbggbfhgaaaDoorLxj
import Derived.Deep.LoopGhost
import Derived.Deep.WholeRow
namespace Go.Proofs.YtlekbbggbfhgaaaDoor
open Go.RowKit
/-- two slices of strings compared -/
theorem eq_any (u v : Value) (L M : List ByteArray) (hL : L.length ≤ 100000000) (hM : M.length ≤ 100000000) (w : World) (hI : Strs w u L) (hJ : Strs w v M) : Calls Tryd.prog 14 #[u, v] w fun e w' => e = .returned (.bool (decide (L = M))) ∧ Below w.heap.size w w' := by
  have hcell : ∀ (b off : Nat) (L : List ByteArray), (∀ j s, L[j]? = some s → w.cell? ⟨b, off + j, none⟩ = some (.string s)) → ∀ j, j < L.length → w.cell? ⟨b, off + j, none⟩ = some (.string (L.getD j ByteArray.empty)) := by
    intro b off L h j hj
    exact h j _ (by rw [List.getD_eq_getElem?_getD, List.getElem?_eq_getElem hj]; rfl)
  rcases hI with ⟨a, cap, rfl, rfl⟩ | ⟨b, off, cap, rfl, hp, hb, hc⟩
  · have hm : ∃ a2 c2, v = .slice a2 M.length c2 := by
      rcases hJ with ⟨a2, c2, rfl, rfl⟩ | ⟨b2, off2, c2, rfl, _⟩
      · exact ⟨_, _, rfl⟩
      · exact ⟨_, _, rfl⟩
    obtain ⟨a2, c2, rfl⟩ := hm
    refine (Tryd.slices_Equal_string_empty a a2 cap M.length c2 w (by omega)).mono ?_
    rintro e w' ⟨rfl, rfl⟩
    refine ⟨?_, Below.refl _ _⟩
    cases M <;> simp
  · rcases hJ with ⟨a2, c2, rfl, rfl⟩ | ⟨b2, off2, c2, rfl, hp2, hb2, hc2⟩
    · refine (Tryd.slices_Equal_string_lens _ a2 L.length cap 0 c2 w (by omega)).mono ?_
      rintro e w' ⟨rfl, rfl⟩
      refine ⟨?_, Below.refl _ _⟩
      cases L with
      | nil => simp at hp
      | cons => simp
    · refine (Tryd.slices_Equal_string b off L.length cap b2 off2 M.length c2 L M w (Nat.le_refl _) (Nat.le_refl _) (by omega) (by omega) (hcell b off L hc) (hcell b2 off2 M hc2)).mono ?_
      rintro e w' ⟨rfl, q, rfl⟩
      exact ⟨by rw [List.take_length, List.take_length], Dw.below ⟨q, rfl⟩⟩
theorem eq_at (u v : Value) (L M : List ByteArray) (r : Bool) (hr : decide (L = M) = r) (hL : L.length ≤ 100000000) (hM : M.length ≤ 100000000) (w : World) (hI : Strs w u L) (hJ : Strs w v M) : Calls Tryd.prog 14 #[u, v] w fun e w' => e = .returned (.bool r) ∧ Below w.heap.size w w' := by
  subst hr; exact eq_any u v L M hL hM w hI hJ
/-- the state of a walk: what was there is as it was, the library's variable holds a number -/
def Ms (w0 w : World) : Prop := Below w0.heap.size w0 w ∧ MaxW w
theorem Ms.mk0 {w : World} (h : MaxW w) : Ms w w := ⟨Below.refl _ w, h⟩
theorem Ms.bl {w0 w w1 : World} (h : Ms w0 w) (k : Below w.heap.size w w1) : Ms w0 w1 := ⟨Below.trans h.1 (k.mono h.1.size), h.2.bl k⟩
theorem Ms.hbl {w0 w w1 : World} (h : Hid (Ms w0 w)) (k : Below w.heap.size w w1) : Hid (Ms w0 w1) := Lib.hid (h.out.bl k)
theorem Ms.hal {w0 w : World} (h : Hid (Ms w0 w)) (A : Obj) : Hid (Ms w0 (w.alloc A)) := Lib.hid (h.out.bl (Below.alloc (Below.refl _ w) (Nat.le_refl _) A))
theorem Ms.hdr {w0 w : World} (h : Hid (Ms w0 w)) : Hid (Ms w0 w.drew) := Lib.hid (h.out.bl (Below.drew (Below.refl _ w)))
theorem strs_new {w : World} {b n : Nat} {cs : Array Value} {t : TypeId} (L : List ByteArray) (hb : b = w.heap.size) (hn : n = L.length) (hL : 0 < L.length) (hcs : cs = (strV L).toArray) : Strs (w.alloc (.cells cs t)) (.slice (some ⟨b, 0, none⟩) n n) L := by
  subst hb hn hcs
  refine .inr ⟨w.heap.size, 0, L.length, rfl, ⟨hL, Nat.le_refl _⟩, by simp, fun j s hj => ?_⟩
  rw [Nat.zero_add]
  exact new_cell _ _ _ _ _ (by simpa using strV_at L j s hj)
theorem Strs.al {w : World} {v : Value} {L : List ByteArray} (h : Strs w v L) (A : Obj) : Strs (w.alloc A) v L := h.bl ((Below.refl _ w).alloc (Nat.le_refl _) A)
theorem Strs.form {w : World} {v : Value} {L : List ByteArray} (h : Strs w v L) : ∃ a n c, v = .slice a n c := by
  rcases h with ⟨a, c, rfl, _⟩ | ⟨b, o, c, rfl, _⟩
  · exact ⟨_, _, _, rfl⟩
  · exact ⟨_, _, _, rfl⟩
/-- the examples of lines: a text, its lines -/
def ex1 (k : Nat) : List UInt8 × List (List UInt8) := match k with
  | 0 => ([97, 10, 98, 10], [[97], [98]])
  | 1 => ([97, 10, 10], [[97], []])
  | 2 => ([], [[]])
  | _ => ([10], [[]])
def vv1 (b k : Nat) : Value := match k with
  | 0 => .slice (some ⟨b, 0, none⟩) 2 2
  | 1 => .slice (some ⟨b + 1, 0, none⟩) 2 2
  | 2 => .slice (some ⟨b + 1 + 1, 0, none⟩) 1 1
  | _ => .slice (some ⟨b + 1 + 1 + 1, 0, none⟩) 1 1
theorem ex1_true (k : Nat) (hk : k < 4) : Lx.lns (ex1 k).1 = ((ex1 k).2.map Lx.bs, 0, 0) ∧ (ex1 k).1.length ≤ 10 ∧ (ex1 k).2.length ≤ 10 := by
  have : k = 0 ∨ k = 1 ∨ k = 2 ∨ k = 3 := by omega
  rcases this with rfl | rfl | rfl | rfl <;> decide +kernel
/-- the examples of fields: a line, its fields, the error -/
def ex2 (k : Nat) : List UInt8 × List (List UInt8) × Int := match k with
  | 0 => ([82, 117, 108, 101, 32, 32, 88, 32, 49, 32, 35, 32, 121], [[82, 117, 108, 101], [88], [49]], 0)
  | 1 => ([34, 97, 32, 98, 34, 99, 32, 34, 34], [[97, 32, 98, 99], []], 0)
  | 2 => ([32, 32, 35, 32, 120], [], 0)
  | 3 => ([97, 32, 34, 98], [], 5)
  | 4 => ([97, 7], [], 5)
  | _ => ([97, 35, 7], [[97]], 0)
def vv2 (b k : Nat) : Value := match k with
  | 0 => .slice (some ⟨b, 0, none⟩) 3 3
  | 1 => .slice (some ⟨b + 1, 0, none⟩) 2 2
  | 2 => .slice none 0 0
  | 3 => .slice none 0 0
  | 4 => .slice none 0 0
  | _ => .slice (some ⟨b + 1 + 1, 0, none⟩) 1 1
theorem ex2_true (k : Nat) (hk : k < 6) : flds (Lx.bs (ex2 k).1) = ((ex2 k).2.1.map Lx.bs, (ex2 k).2.2) ∧ (ex2 k).2.1.length ≤ 10 := by
  have : k = 0 ∨ k = 1 ∨ k = 2 ∨ k = 3 ∨ k = 4 ∨ k = 5 := by omega
  rcases this with rfl | rfl | rfl | rfl | rfl | rfl <;> decide +kernel
set_option maxRecDepth 100000 in
set_option maxHeartbeats 4000000 in
theorem works5_any (W0 : World) (hM : MaxW W0) : Calls Tryd.prog 11 #[] W0 fun e w' => e = .returned (.bool true) ∧ Below W0.heap.size W0 w' := by
  have HS := Lib.hid (Ms.mk0 hM)
  clear hM
  go_enter Tryd.func11, Tryd.ntmps11
  go_wp2
  generalize hW : World.alloc (World.alloc (World.alloc (World.alloc (World.alloc W0 _) _) _) _) _ = W1
  have hc : ∀ i, i < 4 → W1.cell? ⟨W0.heap.size + 1 + 1 + 1 + 1, i * 2, none⟩ = some (.string (Lx.bs (ex1 i).1)) ∧ W1.cell? ⟨W0.heap.size + 1 + 1 + 1 + 1, i * 2 + 1, none⟩ = some (vv1 W0.heap.size i) ∧ Strs W1 (vv1 W0.heap.size i) ((ex1 i).2.map Lx.bs) := by
    intro i hi
    rw [← hW]
    have h3 : i = 0 ∨ i = 1 ∨ i = 2 ∨ i = 3 := by omega
    rcases h3 with rfl | rfl | rfl | rfl
    · exact ⟨row_cell (row_new (by simp)) rfl, row_cell (row_new (by simp)) rfl, ((((strs_new [Lx.bs [97], Lx.bs [98]] rfl rfl (by decide) rfl).al _).al _).al _).al _⟩
    · exact ⟨row_cell (row_new (by simp)) rfl, row_cell (row_new (by simp)) rfl, (((strs_new [Lx.bs [97], Lx.bs []] (by simp) rfl (by decide) rfl).al _).al _).al _⟩
    · exact ⟨row_cell (row_new (by simp)) rfl, row_cell (row_new (by simp)) rfl, ((strs_new [Lx.bs []] (by simp) rfl (by decide) rfl).al _).al _⟩
    · exact ⟨row_cell (row_new (by simp)) rfl, row_cell (row_new (by simp)) rfl, (strs_new [Lx.bs []] (by simp) rfl (by decide) rfl).al _⟩
  have HS1 : Hid (Ms W0 W1) := by rw [← hW]; exact Ms.hal (Ms.hal (Ms.hal (Ms.hal (Ms.hal HS _) _) _) _) _
  have hz : W0.heap.size + 1 + 1 + 1 + 1 < W1.heap.size := by rw [← hW]; simp
  have HC := Lib.hid hc
  clear hc hW HS
  generalize W0.heap.size + 1 + 1 + 1 + 1 = g at *
  go_loopw [24] (fun i wr => ∃ k : Nat, k ≤ 4 ∧ i = .int .i64 k ∧ Below W1.heap.size W1 wr) (fun i _ => 4 - (intOf i).toNat)
  case atStart => exact ⟨0, by omega, rfl, Below.refl _ _⟩
  case round =>
    obtain ⟨k, hk, rfl, hb⟩ := hrel
    have HP := Lib.hid (HS1.out.bl hb)
    by_cases hk3 : k < 4
    · obtain ⟨x0, x1, x2⟩ := HC.out k hk3
      have c0 := (hb.cell (p := ⟨g, k * 2, none⟩) hz).trans x0
      have c1 := (hb.cell (p := ⟨g, k * 2 + 1, none⟩) hz).trans x1
      have HST := Lib.hid (x2.bl hb)
      obtain ⟨hx, hl, hl2⟩ := ex1_true k hk3
      have hls : (Lx.bs (ex1 k).1).size ≤ 100000000 := by rw [Lx.size_bs]; omega
      have hx2 : Lx.lns (Lx.bs (ex1 k).1).data.toList = ((ex1 k).2.map Lx.bs, 0, 0) := by rw [Lx.data_bs]; exact hx
      have HX := Lib.hid hx2
      have HL := Lib.hid hls
      have hll : ((ex1 k).2.map Lx.bs).length ≤ 10 := by simpa using hl2
      have HLL := Lib.hid hll
      clear x0 x1 x2 hx hl hl2 hx2 hls hll
      generalize Lx.bs (ex1 k).1 = S at *
      generalize vv1 W0.heap.size k = v at *
      generalize (ex1 k).2.map Lx.bs = L at *
      obtain ⟨va, vn, vc, rfl⟩ := HST.out.form
      have HB2 := Lib.hid hb
      clear hb
      go_wp2_with fail
      refine (lines_any S HL.out L 0 0 HX.out _ (Ms.hal HP _).out.2).mono ?_
      rintro e w2 ⟨y, rfl, hst, hb⟩
      have d1 : w2.cell? ⟨wr.heap.size, 1, none⟩ = some (.slice va vn vc) := cell_bl hb (new_cell _ _ _ _ _ rfl)
      have HY := Lib.hid hst
      have HST2 := Lib.hid ((HST.out.al (.cells #[.string S, .slice va vn vc] 49)).bl hb)
      have HP2 := Ms.hbl (Ms.hal HP (.cells #[.string S, .slice va vn vc] 49)) hb
      have HB3 := Lib.hid (((HB2.out.alloc HB2.out.size _).trans (hb.mono (by have := HB2.out.size; simp; omega)) : Below W1.heap.size W1 w2))
      clear hb hst
      go_wp2_with fail
      refine (eq_at y _ L L true (by simp) (by have := HLL.out; omega) (by have := HLL.out; omega) _ HY.out HST2.out).mono ?_
      rintro e w3 ⟨rfl, hb⟩
      have HB4 := Lib.hid ((HB3.out.trans (hb.mono HB3.out.size) : Below W1.heap.size W1 w3))
      clear hb
      go_wp2
      go_roundw
      case rel => exact ⟨k + 1, by omega, by go_num, HB4.out⟩
      case measure => simp [intOf]; omega
    · obtain rfl : k = 4 := by omega
      clear hb HC hz HS1
      go_wp2
      generalize hW : World.alloc (World.alloc (World.alloc (World.alloc wr _) _) _) _ = W2
      generalize hwb : wr.heap.size = wb at *
      have hc : ∀ i, i < 6 → W2.cell? ⟨wb + 1 + 1 + 1, i * 3, none⟩ = some (.string (Lx.bs (ex2 i).1)) ∧ W2.cell? ⟨wb + 1 + 1 + 1, i * 3 + 1, none⟩ = some (vv2 wb i) ∧ W2.cell? ⟨wb + 1 + 1 + 1, i * 3 + 2, none⟩ = some (.int .i64 (ex2 i).2.2) ∧ Strs W2 (vv2 wb i) ((ex2 i).2.1.map Lx.bs) := by
        intro i hi
        rw [← hW]
        have h3 : i = 0 ∨ i = 1 ∨ i = 2 ∨ i = 3 ∨ i = 4 ∨ i = 5 := by omega
        rcases h3 with rfl | rfl | rfl | rfl | rfl | rfl
        · exact ⟨row_cell (row_new (by simp [hwb])) rfl, row_cell (row_new (by simp [hwb])) rfl, row_cell (row_new (by simp [hwb])) rfl, (((strs_new [Lx.bs [82, 117, 108, 101], Lx.bs [88], Lx.bs [49]] (by simp [hwb]) rfl (by decide) rfl).al _).al _).al _⟩
        · exact ⟨row_cell (row_new (by simp [hwb])) rfl, row_cell (row_new (by simp [hwb])) rfl, row_cell (row_new (by simp [hwb])) rfl, ((strs_new [Lx.bs [97, 32, 98, 99], Lx.bs []] (by simp [hwb]) rfl (by decide) rfl).al _).al _⟩
        · exact ⟨row_cell (row_new (by simp [hwb])) rfl, row_cell (row_new (by simp [hwb])) rfl, row_cell (row_new (by simp [hwb])) rfl, .inl ⟨_, _, rfl, rfl⟩⟩
        · exact ⟨row_cell (row_new (by simp [hwb])) rfl, row_cell (row_new (by simp [hwb])) rfl, row_cell (row_new (by simp [hwb])) rfl, .inl ⟨_, _, rfl, rfl⟩⟩
        · exact ⟨row_cell (row_new (by simp [hwb])) rfl, row_cell (row_new (by simp [hwb])) rfl, row_cell (row_new (by simp [hwb])) rfl, .inl ⟨_, _, rfl, rfl⟩⟩
        · exact ⟨row_cell (row_new (by simp [hwb])) rfl, row_cell (row_new (by simp [hwb])) rfl, row_cell (row_new (by simp [hwb])) rfl, (strs_new [Lx.bs [97]] (by simp [hwb]) rfl (by decide) rfl).al _⟩
      have HS1 : Hid (Ms W0 W2) := by rw [← hW]; exact Ms.hal (Ms.hal (Ms.hal (Ms.hal HP _) _) _) _
      have hz : wb + 1 + 1 + 1 < W2.heap.size := by rw [← hW]; simp [hwb]
      have HC := Lib.hid hc
      clear hc hW HP hwb
      generalize wb + 1 + 1 + 1 = g2 at *
      go_loopw [60] (fun i wr => ∃ k : Nat, k ≤ 6 ∧ i = .int .i64 k ∧ Below W2.heap.size W2 wr) (fun i _ => 6 - (intOf i).toNat)
      case atStart => exact ⟨0, by omega, rfl, Below.refl _ _⟩
      case round =>
        obtain ⟨k, hk, rfl, hb⟩ := hrel
        have HP := Lib.hid (HS1.out.bl hb)
        by_cases hk3 : k < 6
        · obtain ⟨x0, x1, x3, x2⟩ := HC.out k hk3
          have c0 := (hb.cell (p := ⟨g2, k * 3, none⟩) hz).trans x0
          have c1 := (hb.cell (p := ⟨g2, k * 3 + 1, none⟩) hz).trans x1
          have c2 := (hb.cell (p := ⟨g2, k * 3 + 2, none⟩) hz).trans x3
          have HST := Lib.hid (x2.bl hb)
          obtain ⟨hx, hl2⟩ := ex2_true k hk3
          have HX := Lib.hid hx
          have hll : ((ex2 k).2.1.map Lx.bs).length ≤ 10 := by simpa using hl2
          have HLL := Lib.hid hll
          clear x0 x1 x2 x3 hx hl2 hll
          generalize Lx.bs (ex2 k).1 = S at *
          generalize vv2 wb k = v at *
          generalize (ex2 k).2.1.map Lx.bs = L at *
          generalize (ex2 k).2.2 = f at *
          obtain ⟨va, vn, vc, rfl⟩ := HST.out.form
          have HB2 := Lib.hid hb
          clear hb
          go_wp2_with fail
          refine (fields_any S L f HX.out _).mono ?_
          rintro e w2 ⟨y, rfl, hst, hb⟩
          have d1 : w2.cell? ⟨wr.heap.size, 1, none⟩ = some (.slice va vn vc) := cell_bl hb (new_cell _ _ _ _ _ rfl)
          have d2 : w2.cell? ⟨wr.heap.size, 2, none⟩ = some (.int .i64 f) := cell_bl hb (new_cell _ _ _ _ _ rfl)
          have HY := Lib.hid hst
          have HST2 := Lib.hid ((HST.out.al (.cells #[.string S, .slice va vn vc, .int .i64 f] 51)).bl hb)
          have HB3 := Lib.hid (((HB2.out.alloc HB2.out.size _).trans (hb.mono (by have := HB2.out.size; simp; omega)) : Below W2.heap.size W2 w2))
          clear hb hst
          go_wp2_with fail
          refine (eq_at y _ L L true (by simp) (by have := HLL.out; omega) (by have := HLL.out; omega) _ HY.out HST2.out).mono ?_
          rintro e w3 ⟨rfl, hb⟩
          have HB4 := Lib.hid ((HB3.out.trans (hb.mono HB3.out.size) : Below W2.heap.size W2 w3))
          have d2b : w3.cell? ⟨wr.heap.size, 2, none⟩ = some (.int .i64 f) := cell_bl hb d2
          clear hb
          go_wp2
          go_roundw
          case rel => (repeat apply Exists.intro); exact ⟨⟨k + 1, by omega, by go_num, HB4.out⟩, rfl⟩
          case measure => simp [intOf]; omega
        · obtain rfl : k = 6 := by omega
          clear hb HC hz HS1
          have hj1 : Lx.jn (([Lx.bs [97], Lx.bs [98, 32, 99], Lx.bs [], Lx.bs [120, 35]] : List ByteArray).map (·.data.toList)) = (⟨#[97, 32, 34, 98, 32, 99, 34, 32, 34, 34, 32, 34, 120, 35, 34]⟩, 0) := by decide +kernel
          have hj2 : Lx.jn (([Lx.bs [97, 34]] : List ByteArray).map (·.data.toList)) = (⟨#[]⟩, 2) := by decide +kernel
          have HJ1 := Lib.hid hj1
          have HJ2 := Lib.hid hj2
          clear hj1 hj2
          go_wp2_with fail
          refine (join_any _ [Lx.bs [97], Lx.bs [98, 32, 99], Lx.bs [], Lx.bs [120, 35]] (by decide) (by decide) _ _ HJ1.out _ (strs_new _ rfl rfl (by decide) rfl)).mono ?_
          rintro e w2 ⟨rfl, hb⟩
          have HP2 := Ms.hbl (Ms.hal HP _) hb
          clear hb
          go_wp2_with fail
          refine (join_any _ [Lx.bs [97, 34]] (by decide) (by decide) _ _ HJ2.out _ (strs_new _ rfl rfl (by decide) rfl)).mono ?_
          rintro e w3 ⟨rfl, hb⟩
          have HP3 := Ms.hbl (Ms.hal HP2 _) hb
          clear hb
          go_wp2
          go_ret
          exact ⟨rfl, HP3.out.1⟩
end Go.Proofs.YtlekbbggbfhgaaaDoor
