/- The examples of chapter 7 hold: the function works of the statements about layer 7 returns true; the walk of NameStrings. -/
import Derived.Test.YtndpoijmkdephaaDoorNb
import Derived.Test.YtndpoijmkdephaaDoorRef07c
namespace Go.Proofs.YtndpoijmkdephaaDoor
open Go.RowKit
/-- the state of a walk -/
def Ns (w0 w : World) : Prop := Below w0.heap.size w0 w ∧ KdW w
theorem Ns.mk0 {w : World} (h : KdW w) : Ns w w := ⟨Below.refl _ w, h⟩
theorem Ns.bl {w0 w w1 : World} (h : Ns w0 w) (k : Below w.heap.size w w1) : Ns w0 w1 := ⟨Below.trans h.1 (k.mono h.1.size), h.2.bl k⟩
theorem Ns.hbl {w0 w w1 : World} (h : Hid (Ns w0 w)) (k : Below w.heap.size w w1) : Hid (Ns w0 w1) := Lib.hid (h.out.bl k)
theorem Ns.hal {w0 w : World} (h : Hid (Ns w0 w)) (A : Obj) : Hid (Ns w0 (w.alloc A)) := Lib.hid (h.out.bl (Below.alloc (Below.refl _ w) (Nat.le_refl _) A))
theorem Ns.hdr {w0 w : World} (h : Hid (Ns w0 w)) : Hid (Ns w0 w.drew) := Lib.hid (h.out.bl (Below.drew (Below.refl _ w)))
theorem nzone_s {W0 w : World} (s : ByteArray) (r : Bool) (hr : Hid (Nm.zone s.data.toList = r)) (HC : Hid (Ns W0 w)) : Calls Tryd.prog 8 #[.string s] w fun e w' => e = .returned (.bool r) ∧ Below w.heap.size w w' ∧ Hid (Ns W0 w') :=
  (nzone_any s r hr.out w HC.out.2).mono fun _ _ ⟨he, hb⟩ => ⟨he, hb, Ns.hbl HC hb⟩
theorem nset_s {W0 w : World} (s : ByteArray) (hs : s.size ≤ 100000000000) (r : Bool) (hr : Hid (Nm.set s.data.toList = r)) (HC : Hid (Ns W0 w)) : Calls Tryd.prog 10 #[.string s] w fun e w' => e = .returned (.bool r) ∧ Below w.heap.size w w' ∧ Hid (Ns W0 w') :=
  (nset_any s hs r hr.out w HC.out.2).mono fun _ _ ⟨he, hb⟩ => ⟨he, hb, Ns.hbl HC hb⟩
theorem nletter_s {W0 w : World} (s : ByteArray) (hs : s.size ≤ 100000000000) (r : Bool) (hr : Hid (Nm.lets 1 4 s.data.toList = r)) (HC : Hid (Ns W0 w)) : Calls Tryd.prog 12 #[.string s] w fun e w' => e = .returned (.bool r) ∧ Below w.heap.size w w' ∧ Hid (Ns W0 w') :=
  (nletter_any s hs r hr.out w HC.out.2).mono fun _ _ ⟨he, hb⟩ => ⟨he, hb, Ns.hbl HC hb⟩
theorem nabbr_s {W0 w : World} (s : ByteArray) (hs : s.size ≤ 100000000000) (r : Bool) (hr : Hid (Nm.lets 3 6 s.data.toList = r)) (HC : Hid (Ns W0 w)) : Calls Tryd.prog 14 #[.string s] w fun e w' => e = .returned (.bool r) ∧ Below w.heap.size w w' ∧ Hid (Ns W0 w') :=
  (nabbr_any s hs r hr.out w HC.out.2).mono fun _ _ ⟨he, hb⟩ => ⟨he, hb, Ns.hbl HC hb⟩
theorem enters_nzone (args : Array Value) (w : World) : (callFunc 8 args).run Tryd.prog w = .ok (.enter 8 args) w := enters_of Tryd.func8 (by kernel_rfl) rfl args w
theorem enters_nset (args : Array Value) (w : World) : (callFunc 10 args).run Tryd.prog w = .ok (.enter 10 args) w := enters_of Tryd.func10 (by kernel_rfl) rfl args w
theorem enters_nletter (args : Array Value) (w : World) : (callFunc 12 args).run Tryd.prog w = .ok (.enter 12 args) w := enters_of Tryd.func12 (by kernel_rfl) rfl args w
theorem enters_nabbr (args : Array Value) (w : World) : (callFunc 14 args).run Tryd.prog w = .ok (.enter 14 args) w := enters_of Tryd.func14 (by kernel_rfl) rfl args w
theorem beq_bb (a : Bool) : (a != a) = false := by cases a <;> rfl
theorem all07 (F : FuncId) (hF : ∀ args w, (callFunc F args).run Tryd.prog w = .ok (.enter F args) w) (want : Bool) (L : List ByteArray) (hl : L.length ≤ 100000)
    (hc : ∀ s, s ∈ L → ∀ wx, KdW wx → Calls Tryd.prog F #[.string s] wx fun e w' => e = .returned (.bool want) ∧ Below wx.heap.size wx w')
    (b n : Nat) (hn : n = L.length) (w : World) (hcell : ∀ j s, L[j]? = some s → w.cell? ⟨b, 0 + j, none⟩ = some (.string s)) (W0 : World) (HC : Hid (Ns W0 w)) :
    Calls Tryd.prog 20 #[.func (.func F) #[] #[], .bool want, .slice (some ⟨b, 0, none⟩) n n] w fun e w' => e = .returned (.bool true) ∧ Hid (Ns W0 w') := by
  subst hn
  have H := Lib.hid hc
  have HL := Lib.hid hcell
  have hw := beq_bb want
  clear hc hcell
  go_enter Tryd.func20, Tryd.ntmps20
  go_wp2
  go_loopw [11] (fun i wr => ∃ k : Nat, k ≤ L.length ∧ i = .int .i64 k ∧ Below w.heap.size w wr) (fun i _ => L.length - (intOf i).toNat)
  case atStart => exact ⟨0, by omega, rfl, Below.refl _ _⟩
  case round =>
    obtain ⟨k, hk, rfl, hb⟩ := hrel
    have HB := Lib.hid hb
    clear hb
    by_cases hkl : k < L.length
    · have c0 := HL.out k L[k] (List.getElem?_eq_getElem hkl)
      have c1 := cell_bl HB.out c0
      rw [Nat.zero_add] at c1
      have hcall := H.out L[k] (List.getElem_mem hkl) wr (HC.out.2.bl HB.out)
      have HA := Lib.hid hcall
      have hk0 : (0 : Int) ≤ (k : Int) := by omega
      have hk1 : (k : Int) < (L.length : Int) := by omega
      clear hcall c0
      generalize L[k] = s at *
      go_wp2_with (go_at_fn F; refine HA.out.mono ?_; rintro e w1 ⟨rfl, h3⟩)
      go_roundw
      case rel => exact ⟨k + 1, by omega, by go_num, HB.out.trans (h3.mono HB.out.size)⟩
      case measure => simp [intOf] <;> omega
    · obtain rfl : k = L.length := by omega
      go_wp2
      go_ret
      exact ⟨rfl, Ns.hbl HC HB.out⟩
theorem strs_at (L : List ByteArray) {w : World} {b : Nat} {cs : Array Value} {t : TypeId} (h : w.heap[b]? = some (.cells cs t (0, 0))) (hcs : cs = (strV L).toArray) : ∀ j s, L[j]? = some s → w.cell? ⟨b, 0 + j, none⟩ = some (.string s) := by
  subst hcs
  intro j s hj
  rw [Nat.zero_add]
  exact row_cell h (by simpa using strV_at L j s hj)
set_option maxRecDepth 100000 in
set_option maxHeartbeats 4000000 in
theorem works7_s {W0 w : World} (HC : Hid (Ns W0 w)) : Calls Tryd.prog 7 #[] w fun e w' => e = .returned (.bool true) ∧ Hid (Ns W0 w') := by
  go_enter Tryd.func7, Tryd.ntmps7
  go_wp2_with fail
  have h : ∀ s ∈ ([⟨#[69, 117, 114, 111, 112, 101, 47, 68, 117, 98, 108, 105, 110]⟩, ⟨#[69, 116, 99, 47, 71, 77, 84, 43, 49]⟩, ⟨#[65]⟩, ⟨#[65, 109, 101, 114, 105, 99, 97, 47, 80, 111, 114, 116, 45, 97, 117, 45, 80, 114, 105, 110, 99, 101]⟩] : List ByteArray), Nm.zone s.data.toList = true := by decide +kernel
  refine (all07 _ enters_nzone true [⟨#[69, 117, 114, 111, 112, 101, 47, 68, 117, 98, 108, 105, 110]⟩, ⟨#[69, 116, 99, 47, 71, 77, 84, 43, 49]⟩, ⟨#[65]⟩, ⟨#[65, 109, 101, 114, 105, 99, 97, 47, 80, 111, 114, 116, 45, 97, 117, 45, 80, 114, 105, 110, 99, 101]⟩] (by decide) (fun s hs wx hk => nzone_any s true (h s hs) wx hk) _ _ rfl _ (strs_at _ (row_new rfl) rfl) W0 (Ns.hal HC _)).mono ?_; rintro e w1 ⟨rfl, HC⟩; clear h
  go_wp2_with fail
  have h : ∀ s ∈ ([⟨#[]⟩, ⟨#[47, 65]⟩, ⟨#[65, 47, 47, 66]⟩, ⟨#[65, 47]⟩, ⟨#[46, 65]⟩, ⟨#[65, 47, 45, 66]⟩, ⟨#[65, 32, 66]⟩, ⟨#[69, 117, 114, 111, 112, 101, 47, 83, 97, 105, 110, 116, 95, 80, 101, 116, 101, 114, 115, 98, 117, 114, 103, 95]⟩] : List ByteArray), Nm.zone s.data.toList = false := by decide +kernel
  refine (all07 _ enters_nzone false [⟨#[]⟩, ⟨#[47, 65]⟩, ⟨#[65, 47, 47, 66]⟩, ⟨#[65, 47]⟩, ⟨#[46, 65]⟩, ⟨#[65, 47, 45, 66]⟩, ⟨#[65, 32, 66]⟩, ⟨#[69, 117, 114, 111, 112, 101, 47, 83, 97, 105, 110, 116, 95, 80, 101, 116, 101, 114, 115, 98, 117, 114, 103, 95]⟩] (by decide) (fun s hs wx hk => nzone_any s false (h s hs) wx hk) _ _ rfl _ (strs_at _ (row_new rfl) rfl) W0 (Ns.hal HC _)).mono ?_; rintro e w1 ⟨rfl, HC⟩; clear h
  go_wp2_with fail
  have h : ∀ s ∈ ([⟨#[69, 105, 114, 101]⟩, ⟨#[67, 45, 69, 117, 114]⟩, ⟨#[69, 95, 50]⟩] : List ByteArray), Nm.set s.data.toList = true := by decide +kernel
  have hz : ∀ s ∈ ([⟨#[69, 105, 114, 101]⟩, ⟨#[67, 45, 69, 117, 114]⟩, ⟨#[69, 95, 50]⟩] : List ByteArray), s.size ≤ 1000 := by decide +kernel
  refine (all07 _ enters_nset true [⟨#[69, 105, 114, 101]⟩, ⟨#[67, 45, 69, 117, 114]⟩, ⟨#[69, 95, 50]⟩] (by decide) (fun s hs wx hk => nset_any s (by have := hz s hs; omega) true (h s hs) wx hk) _ _ rfl _ (strs_at _ (row_new rfl) rfl) W0 (Ns.hal HC _)).mono ?_; rintro e w1 ⟨rfl, HC⟩; clear h hz
  go_wp2_with fail
  have h : ∀ s ∈ ([⟨#[50, 69]⟩, ⟨#[45, 69]⟩, ⟨#[69, 46, 85]⟩, ⟨#[]⟩] : List ByteArray), Nm.set s.data.toList = false := by decide +kernel
  have hz : ∀ s ∈ ([⟨#[50, 69]⟩, ⟨#[45, 69]⟩, ⟨#[69, 46, 85]⟩, ⟨#[]⟩] : List ByteArray), s.size ≤ 1000 := by decide +kernel
  refine (all07 _ enters_nset false [⟨#[50, 69]⟩, ⟨#[45, 69]⟩, ⟨#[69, 46, 85]⟩, ⟨#[]⟩] (by decide) (fun s hs wx hk => nset_any s (by have := hz s hs; omega) false (h s hs) wx hk) _ _ rfl _ (strs_at _ (row_new rfl) rfl) W0 (Ns.hal HC _)).mono ?_; rintro e w1 ⟨rfl, HC⟩; clear h hz
  go_wp2_with fail
  have h : ∀ s ∈ ([⟨#[83]⟩, ⟨#[71, 77, 84, 84]⟩] : List ByteArray), Nm.lets 1 4 s.data.toList = true := by decide +kernel
  have hz : ∀ s ∈ ([⟨#[83]⟩, ⟨#[71, 77, 84, 84]⟩] : List ByteArray), s.size ≤ 1000 := by decide +kernel
  refine (all07 _ enters_nletter true [⟨#[83]⟩, ⟨#[71, 77, 84, 84]⟩] (by decide) (fun s hs wx hk => nletter_any s (by have := hz s hs; omega) true (h s hs) wx hk) _ _ rfl _ (strs_at _ (row_new rfl) rfl) W0 (Ns.hal HC _)).mono ?_; rintro e w1 ⟨rfl, HC⟩; clear h hz
  go_wp2_with fail
  have h : ∀ s ∈ ([⟨#[]⟩, ⟨#[45]⟩, ⟨#[83, 85, 77, 77, 69]⟩, ⟨#[83, 49]⟩] : List ByteArray), Nm.lets 1 4 s.data.toList = false := by decide +kernel
  have hz : ∀ s ∈ ([⟨#[]⟩, ⟨#[45]⟩, ⟨#[83, 85, 77, 77, 69]⟩, ⟨#[83, 49]⟩] : List ByteArray), s.size ≤ 1000 := by decide +kernel
  refine (all07 _ enters_nletter false [⟨#[]⟩, ⟨#[45]⟩, ⟨#[83, 85, 77, 77, 69]⟩, ⟨#[83, 49]⟩] (by decide) (fun s hs wx hk => nletter_any s (by have := hz s hs; omega) false (h s hs) wx hk) _ _ rfl _ (strs_at _ (row_new rfl) rfl) W0 (Ns.hal HC _)).mono ?_; rintro e w1 ⟨rfl, HC⟩; clear h hz
  go_wp2_with fail
  have h : ∀ s ∈ ([⟨#[71, 77, 84]⟩, ⟨#[78, 90, 77, 84, 83, 84]⟩] : List ByteArray), Nm.lets 3 6 s.data.toList = true := by decide +kernel
  have hz : ∀ s ∈ ([⟨#[71, 77, 84]⟩, ⟨#[78, 90, 77, 84, 83, 84]⟩] : List ByteArray), s.size ≤ 1000 := by decide +kernel
  refine (all07 _ enters_nabbr true [⟨#[71, 77, 84]⟩, ⟨#[78, 90, 77, 84, 83, 84]⟩] (by decide) (fun s hs wx hk => nabbr_any s (by have := hz s hs; omega) true (h s hs) wx hk) _ _ rfl _ (strs_at _ (row_new rfl) rfl) W0 (Ns.hal HC _)).mono ?_; rintro e w1 ⟨rfl, HC⟩; clear h hz
  go_wp2_with fail
  have h : ∀ s ∈ ([⟨#[71, 77]⟩, ⟨#[71, 77, 84, 71, 77, 84, 71]⟩, ⟨#[43, 48, 49]⟩, ⟨#[37, 122]⟩] : List ByteArray), Nm.lets 3 6 s.data.toList = false := by decide +kernel
  have hz : ∀ s ∈ ([⟨#[71, 77]⟩, ⟨#[71, 77, 84, 71, 77, 84, 71]⟩, ⟨#[43, 48, 49]⟩, ⟨#[37, 122]⟩] : List ByteArray), s.size ≤ 1000 := by decide +kernel
  refine (all07 _ enters_nabbr false [⟨#[71, 77]⟩, ⟨#[71, 77, 84, 71, 77, 84, 71]⟩, ⟨#[43, 48, 49]⟩, ⟨#[37, 122]⟩] (by decide) (fun s hs wx hk => nabbr_any s (by have := hz s hs; omega) false (h s hs) wx hk) _ _ rfl _ (strs_at _ (row_new rfl) rfl) W0 (Ns.hal HC _)).mono ?_; rintro e w1 ⟨rfl, HC⟩; clear h hz
  go_wp2
  go_ret
  exact ⟨rfl, HC⟩
theorem beq_rr (a : Bool) : (a == a) = true := by cases a <;> rfl
set_option maxRecDepth 100000 in
set_option maxHeartbeats 4000000 in
/-- which strings can be which names is as the document says -/
theorem strings_walk (s : ByteArray) (hs : s.size ≤ maxLen) (W0 : World) (hT : KdW W0) : Calls Tryd.prog 3 #[.string s] W0 fun e w' => e = .returned (.bool true) ∧ Below W0.heap.size W0 w' := by
  have HC := Lib.hid (Ns.mk0 hT)
  unfold maxLen at hs
  clear hT
  by_cases h : s.size ≤ 1000
  · have h1 : ¬ (1000 : Int) < (s.size : Int) := by omega
    obtain ⟨a, ha⟩ : ∃ a, Nm.zone s.data.toList = a := ⟨_, rfl⟩
    obtain ⟨b, hb⟩ : ∃ a, Nm.set s.data.toList = a := ⟨_, rfl⟩
    obtain ⟨c, hc⟩ : ∃ a, Nm.lets 1 4 s.data.toList = a := ⟨_, rfl⟩
    obtain ⟨d, hd⟩ : ∃ a, Nm.lets 3 6 s.data.toList = a := ⟨_, rfl⟩
    have HA := Lib.hid ha
    have HB := Lib.hid hb
    have HCC := Lib.hid hc
    have HD := Lib.hid hd
    have e1 := beq_rr a
    have e2 := beq_rr b
    have e3 := beq_rr c
    have e4 := beq_rr d
    clear ha hb hc hd
    go_enter Tryd.func3, Tryd.ntmps3
    go_wp2_with fail
    refine (nzone_s s a HA HC).mono ?_; rintro e w1 ⟨rfl, _, HC⟩
    go_wp2_with fail
    refine (rZone_any s (by omega) a HA.out _).mono ?_; rintro e w1 ⟨rfl, rfl⟩
    go_wp2_with fail
    refine (nset_s s (by omega) b HB HC).mono ?_; rintro e w1 ⟨rfl, _, HC⟩
    go_wp2_with fail
    refine (rSet_any s (by omega) b HB.out _).mono ?_; rintro e w1 ⟨rfl, rfl⟩
    go_wp2_with fail
    refine (nletter_s s (by omega) c HCC HC).mono ?_; rintro e w1 ⟨rfl, _, HC⟩
    go_wp2_with fail
    refine (rLetter_any s (by omega) c HCC.out _).mono ?_; rintro e w1 ⟨rfl, rfl⟩
    go_wp2_with fail
    refine (nabbr_s s (by omega) d HD HC).mono ?_; rintro e w1 ⟨rfl, _, HC⟩
    go_wp2_with fail
    refine (rAbbr_any s (by omega) d HD.out _).mono ?_; rintro e w1 ⟨rfl, rfl⟩
    go_wp2_with fail
    refine (works7_s HC).mono ?_; rintro e w2 ⟨rfl, HC⟩
    go_wp2
    go_ret
    exact ⟨rfl, HC.out.1⟩
  · have h1 : (1000 : Int) < (s.size : Int) := by omega
    go_enter Tryd.func3, Tryd.ntmps3
    go_wp2_with fail
    refine (works7_s HC).mono ?_; rintro e w2 ⟨rfl, HC⟩
    go_wp2
    go_ret
    exact ⟨rfl, HC.out.1⟩
end Go.Proofs.YtndpoijmkdephaaDoor
