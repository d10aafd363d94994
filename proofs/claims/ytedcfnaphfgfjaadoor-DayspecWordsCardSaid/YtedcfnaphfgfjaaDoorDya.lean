/- strings.IndexRune and strings.IndexAny of the two operators' bytes, at any string. -/
import Derived.Test.YtedcfnaphfgfjaaDoorDyp
import Derived.Test.YtedcfnaphfgfjaaDoorShelf
import Derived.Laws.RangeAny
import Derived.LoopN
import Derived.WalkMore
import Derived.BigRegion
import Derived.Deep.RegionWith
import Derived.Lib.OthersKept
import Derived.Deep.LoopGhost
namespace Go.Proofs.YtedcfnaphfgfjaaDoor
open Go.RowKit Go.Shelf
theorem below_iter (w : World) (s : ByteArray) (p : Nat) : Below w.heap.size w (w.iter s p) := (Below.refl _ w).alloc (Nat.le_refl _) _
def opB : ByteArray := ⟨#[60, 62]⟩
theorem nx0 (w : World) (ty : TypeId) : (Instr.next (.pointer (some ⟨w.heap.size, 0, none⟩)) true ty).run Tryd.prog (w.iter ⟨#[60, 62]⟩ 0) = .ok (.tuple #[.bool true, .int .i64 0, .int .i32 60]) (w.iter ⟨#[60, 62]⟩ 1) := run_next_ascii w ⟨#[60, 62]⟩ 0 ty (by decide) (by decide)
theorem nx1 (w : World) (ty : TypeId) : (Instr.next (.pointer (some ⟨w.heap.size, 0, none⟩)) true ty).run Tryd.prog (w.iter ⟨#[60, 62]⟩ 1) = .ok (.tuple #[.bool true, .int .i64 1, .int .i32 62]) (w.iter ⟨#[60, 62]⟩ 2) := run_next_ascii w ⟨#[60, 62]⟩ 1 ty (by decide) (by decide)
theorem nx2 (w : World) (ty : TypeId) : (Instr.next (.pointer (some ⟨w.heap.size, 0, none⟩)) true ty).run Tryd.prog (w.iter ⟨#[60, 62]⟩ 2) = .ok (.tuple #[.bool false]) (w.iter ⟨#[60, 62]⟩ 2) := run_next_end w ⟨#[60, 62]⟩ 2 ty (by decide)
set_option maxRecDepth 100000 in
set_option maxHeartbeats 4000000 in
theorem irune_bad (w : World) : Calls Tryd.prog 73 #[.string ⟨#[60, 62]⟩, .int .i32 65533] w fun e w' => e = .returned (.int .i64 (-1)) ∧ Below w.heap.size w w' := by
  have n0 := nx0
  have n1 := nx1
  have n2 := nx2
  go_enter Tryd.func73, Tryd.ntmps73
  go_wp2
  refine wp_loop_rounds 4 ?_
  rw [rounds_succ]
  go_wp2
  rw [rounds_succ]
  go_wp2
  rw [rounds_succ]
  go_wp2
  go_ret
  exact ⟨rfl, below_iter _ _ _⟩
set_option maxRecDepth 100000 in
set_option maxHeartbeats 4000000 in
theorem irune_high (r : Int) (h1 : 128 ≤ r) (h2 : r ≤ 1114111) (h3 : (r == 65533) = false) (hv : Utf8.valid r = true) (w : World) : Calls Tryd.prog 73 #[.string ⟨#[60, 62]⟩, .int .i32 r] w fun e w' => e = .returned (.int .i64 (-1)) ∧ Below w.heap.size w w' := by
  obtain ⟨z1, z2, z3⟩ := encode_facts r hv h1
  have hvr : Lib.validRune r = true := by
    simp only [Utf8.valid, Bool.or_eq_true, Bool.and_eq_true, decide_eq_true_eq] at hv
    unfold Lib.validRune
    simp only [decide_eq_true_eq]
    omega
  have HV := Lib.hid hvr
  have q1 : (0 : Int) ≤ r := by omega
  have q2 : ¬ r < 128 := by omega
  have hl : (Utf8.encode r).size - 1 < (Utf8.encode r).size := by omega
  have z4 := z3 hl
  have hcv : ∀ w : World, (convert 21 9 (.int .i32 r)).run Tryd.prog w = .ok (.string (Utf8.encode r)) w := fun w => run_convert_int_string w _ _ .i32 r (by rw [Tryd.underlying21]; rfl) Tryd.underlying9
  generalize Utf8.encode r = E at *
  have he : (⟨#[60, 62]⟩ : ByteArray).extract 2 2 = ⟨#[]⟩ := rfl
  clear z3 hv hvr
  by_cases hE : E.size = 2
  · have h12 : 1 < E.size := by rw [hE]; decide
    have z5 : 128 ≤ (E[1]'h12).toNat := by simpa [hE] using z4
    have hlt := (E[1]'h12).toNat_lt
    clear z4 hl
    go_enter Tryd.func73, Tryd.ntmps73
    go_wp2_with (go_at_call 89; refine (Tryd.utf8_ValidRune _ _).mono ?_; rintro e w1 ⟨rfl, rfl⟩; rw [HV.out])
    go_step3
    go_wp2
    refine wp_loop_rounds 2 ?_
    rw [rounds_succ]
    have hl1 : ((⟨#[60, 62]⟩ : ByteArray)[1]'(by decide)).toNat = 62 := rfl
    have hne : ((((⟨#[60, 62]⟩ : ByteArray)[1]'(by decide)).toNat : Int) != ((E[1]'h12).toNat : Int)) = true := by rw [hl1]; simp; omega
    clear hl1
    have hib : ∀ (c : Int) (wx : World), Calls Tryd.prog 88 #[.string ⟨#[]⟩, .int .u8 c] wx fun e w' => e = .returned (.int .i64 (-1)) ∧ wx = w' := fun c wx => (Tryd.strings_IndexByte ⟨#[]⟩ c wx).mono fun e w' ⟨h1, h2⟩ => ⟨h1, h2.symm⟩
    have HI := Lib.hid hib
    clear hib
    go_wp2
    go_step3
    go_wp2
    go_region
    go_wp2
    go_region_with (first | (go_at_call 88; refine (HI.out _ _).mono ?_; rintro e w1 ⟨rfl, rfl⟩))
    go_wp2
    all_goals
      rw [Exit.noGoto_ret]
      go_wp2
      rw [Exit.noGoto_ret]
      go_ret
      exact ⟨rfl, (Below.refl _ _).drew.drew⟩
  · have q3 : (3 : Int) ≤ (E.size : Int) := by omega
    have q4 : (E.size : Int) ≤ 4 := by omega
    have q5 : (2 : Int) ≤ (E.size : Int) - 1 := by omega
    have hw := wrap64_of (x := (E.size : Int) - 1) (by omega)
    clear z4 hl
    go_enter Tryd.func73, Tryd.ntmps73
    go_wp2_with (go_at_call 89; refine (Tryd.utf8_ValidRune _ _).mono ?_; rintro e w1 ⟨rfl, rfl⟩; rw [HV.out])
    go_step3
    go_wp2
    refine wp_loop_rounds 2 ?_
    rw [rounds_succ]
    go_wp2
    rw [Exit.noGoto_ret]
    go_ret
    exact ⟨rfl, Below.refl _ _⟩
theorem irune_any (r : Int) (h1 : 128 ≤ r) (h2 : r ≤ 1114111) (hv : Utf8.valid r = true) (w : World) : Calls Tryd.prog 73 #[.string ⟨#[60, 62]⟩, .int .i32 r] w fun e w' => e = .returned (.int .i64 (-1)) ∧ Below w.heap.size w w' := by
  cases e : (r == 65533) with
  | true => obtain rfl := eq_of_beq e; exact irune_bad w
  | false => exact irune_high r h1 h2 e hv w
theorem irune_low (r : Nat) (h1 : r < 128) (w : World) : Calls Tryd.prog 73 #[.string ⟨#[60, 62]⟩, .int .i32 r] w fun e w' => e = .returned (.int .i64 (if r = 60 then 0 else if r = 62 then 1 else -1)) ∧ w = w' := by
  refine (Tryd.strings_IndexRune_ascii ⟨#[60, 62]⟩ r w (by omega) (by omega)).mono fun e w' ⟨h2, h3⟩ => ⟨?_, h3.symm⟩
  rw [h2]
  have : ∀ r : Nat, r < 128 → Lib.indexByte [60, 62] (r : Int).toNat.toUInt8 = if r = 60 then 0 else if r = 62 then 1 else -1 := by decide +kernel
  exact congrArg (fun x => Ending.returned (.int .i64 x)) (this r h1)
theorem iany_all : ∀ l : List UInt8, Lib.indexAny l [60, 62] = Dy.sgnI l
  | [] => rfl
  | c :: l => by
    have ih := iany_all l
    have hc : ([60, 62] : List UInt8).contains c = (Nat.beq c.toNat 60 || Nat.beq c.toNat 62) := by
      rw [Bool.eq_iff_iff]
      simp only [List.contains_cons, List.contains_nil, Bool.or_false, Bool.or_eq_true, beq_iff_eq, Nat.beq_eq, ← UInt8.toNat_inj]
      rfl
    unfold Lib.indexAny Dy.sgnI Dy.sgn
    rw [hc, ih]
    cases h : (Nat.beq c.toNat 60 || Nat.beq c.toNat 62) with
    | true => rfl
    | false =>
      simp only [Bool.false_eq_true, if_false]
      unfold Dy.sgnI
      cases e : Dy.sgn l with
      | none => rfl
      | some k =>
        simp only [Option.map_some]
        have : ((k : Int) == -1) = false := beq_eq_false_iff_ne.2 (by omega)
        rw [this]
        rfl
theorem zeroAs (w : World) : (zeroValue 109).run Tryd.prog w = .ok (.agg (Array.replicate 256 (.bool false))) w := by kernel_rfl
theorem iany_long (s : ByteArray) (h8 : 8 < s.size) (hs : s.size < 4294967281) (w : World) : Calls Tryd.prog 57 #[.string s, .string ⟨#[60, 62]⟩] w fun e w' => e = .returned (.int .i64 (Dy.sgnI s.data.toList)) ∧ Below w.heap.size w w' := by
  refine (Tryd.strings_IndexAny_long zeroAs s ⟨#[60, 62]⟩ w (by decide) h8 hs (by decide) ?_).mono fun e w' ⟨h1, h2⟩ => ⟨?_, ?_⟩
  · intro j b hb
    match j, hb with
    | 0, hb => exact Option.some.inj hb ▸ (by decide)
    | 1, hb => exact Option.some.inj hb ▸ (by decide)
  · rw [h1]; exact congrArg (fun x => Ending.returned (.int .i64 x)) (iany_all _)
  · rw [h2]
    exact ((Below.refl _ w).alloc (Nat.le_refl _) _).alloc (by simp) _
set_option maxHeartbeats 8000000 in
set_option maxRecDepth 1000000 in
theorem iany_short (s : ByteArray) (h8 : s.size ≤ 8) (w : World) : Calls Tryd.prog 57 #[.string s, .string ⟨#[60, 62]⟩] w fun e w' => e = .returned (.int .i64 (Dy.sgnI s.data.toList)) ∧ Below w.heap.size w w' := by
  have hemp : (⟨#[60, 62]⟩ : ByteArray).toList.isEmpty = false := by rw [Lib.toList_data]; rfl
  have h8z : decide ((8 : Int) < (s.size : Int)) = false := decide_eq_false (by omega)
  go_enter Tryd.func57, Tryd.ntmps57
  go_wp2_with (go_at_call 74; refine (Tryd.strings_shouldUseASCIISet _ _).mono ?_; rintro e w' ⟨rfl, hw⟩; rw [hw, h8z])
  go_loopw [9, 10] (fun _ _ wx => ∃ i : Nat, i ≤ s.size ∧ Hid (Below w.heap.size w wx) ∧ Hid (wx.heap[w.heap.size]? = some (.stringIter s i)) ∧ Hid (∀ (j : Nat) (d : UInt8), j < i → s.data.toList[j]? = some d → d.toNat ≠ 60 ∧ d.toNat ≠ 62)) (fun _ _ wx => s.size - wx.iterPos w.heap.size)
  case atStart => exact ⟨0, by omega, Lib.hid (below_iter _ _ _), Lib.hid (World.iter_heap _ _ _), Lib.hid (fun j d h => by omega)⟩
  case round =>
    obtain ⟨i, hi, HB, HI, HN⟩ := hrel
    have hpos : wr.iterPos w.heap.size = i := by unfold World.iterPos; rw [HI.out]
    have HP := Lib.hid hpos
    clear hpos
    by_cases hl : i < s.size
    · obtain ⟨x, hx⟩ : ∃ x : UInt8, s[i]'hl = x := ⟨_, rfl⟩
      have hxl : s.data.toList[i]? = some x := by rw [← hx]; exact Lib.data_getElem? s i hl
      by_cases ha : x.toNat < 128
      · have hnx := fun ty => Lib.run_next_ascii_at (P := Tryd.prog) wr w.heap.size s i ty HI.out hl (by rw [hx]; exact ha)
        have hb2 := Lib.below_iterAt HB.out (Nat.le_refl _) s (i + 1)
        have hh2 := Lib.iterAt_heap wr w.heap.size s i (i + 1) HI.out
        rw [hx] at hnx
        have HB2 := Lib.hid hb2
        have HI2 := Lib.hid hh2
        have HX := Lib.hid hxl
        clear hx hxl hb2 hh2
        by_cases h6 : x.toNat = 60 ∨ x.toNat = 62
        · have hq : (0 : Int) ≤ (if x.toNat = 60 then 0 else if x.toNat = 62 then 1 else -1) := by
            rcases h6 with e | e <;> rw [e] <;> decide
          have hir := irune_low x.toNat ha
          generalize (if x.toNat = 60 then 0 else if x.toNat = 62 then 1 else -1 : Int) = q at *
          have HR := Lib.hid hir
          have H6 := Lib.hid h6
          clear hir h6
          go_wp2_with (go_at_call 73; refine (HR.out _).mono ?_; rintro e w' ⟨rfl, rfl⟩)
          go_ret
          refine ⟨?_, HB2.out⟩
          have := Dy.sgn_hit _ i x HX.out H6.out HN.out
          unfold Dy.sgnI
          rw [this]
          rfl
        · have hir := irune_low x.toNat ha
          rw [if_neg (fun e => h6 (.inl e)), if_neg (fun e => h6 (.inr e))] at hir
          have HR := Lib.hid hir
          have H6 := Lib.hid h6
          clear hir h6
          go_wp2_with (go_at_call 73; refine (HR.out _).mono ?_; rintro e w' ⟨rfl, rfl⟩)
          go_roundw
          case rel =>
            refine ⟨i + 1, by omega, HB2, HI2, Lib.hid fun j d hj hd => ?_⟩
            by_cases e : j = i
            · subst e
              have := hd.symm.trans HX.out
              injection this with this
              subst this
              exact ⟨fun e => H6.out (.inl e), fun e => H6.out (.inr e)⟩
            · exact HN.out j d (by omega) hd
          case measure =>
            have e2 : (wr.iterAt w.heap.size s (i + 1)).iterPos w.heap.size = i + 1 := by unfold World.iterPos; rw [HI2.out]
            rw [HP.out, e2]; omega
      · have hd := Dy.dec_facts s i hl (by rw [hx]; omega)
        have hnx := fun ty => Lib.run_next_any_at (P := Tryd.prog) wr w.heap.size s i ty HI.out hl
        generalize hD : Utf8.decode s i = D at *
        obtain ⟨r, n⟩ := D
        simp only at hd hnx
        obtain ⟨d1, d2, d3, d4, d5, _, d7⟩ := hd
        have hb2 := Lib.below_iterAt HB.out (Nat.le_refl _) s (i + n)
        have hh2 := Lib.iterAt_heap wr w.heap.size s i (i + n) HI.out
        have HB2 := Lib.hid hb2
        have HI2 := Lib.hid hh2
        have H7 := Lib.hid d7
        have HR := Lib.hid (irune_any (r : Int) (by omega) (by omega) d3)
        clear hx hxl hb2 hh2 d7 hD d3
        go_wp2_with (go_at_call 73; refine (HR.out _).mono ?_; rintro e w' ⟨rfl, hb⟩)
        have hsz : w.heap.size < (wr.iterAt w.heap.size s (i + n)).heap.size := (Array.getElem?_eq_some_iff.1 HI2.out).1
        have hh3 : w'.heap[w.heap.size]? = some (.stringIter s (i + n)) := (hb.block _ hsz).trans HI2.out
        go_roundw
        case rel =>
          refine ⟨i + n, by omega, Lib.hid (Below.trans HB2.out (hb.mono HB2.out.size)), Lib.hid hh3, Lib.hid fun j d hj hd => ?_⟩
          by_cases e : j < i
          · exact HN.out j d e hd
          · have := H7.out j d (by omega) hj hd
            omega
        case measure =>
          have e2 : w'.iterPos w.heap.size = i + n := by unfold World.iterPos; rw [hh3]
          rw [HP.out, e2]; omega
    · obtain rfl : i = s.size := by omega
      have hnx := fun ty => Lib.run_next_end_at (P := Tryd.prog) wr w.heap.size s s.size ty HI.out (by omega)
      have hno : Dy.sgn s.data.toList = none := Dy.sgn_no _ fun j d hj => HN.out j d (by have := (List.getElem?_eq_some_iff.1 hj).1; rw [Array.length_toList] at this; exact this) hj
      have HO := Lib.hid hno
      clear hno
      go_wp2
      go_ret
      refine ⟨?_, HB.out⟩
      unfold Dy.sgnI
      rw [HO.out]
      rfl
theorem iany_any (s : ByteArray) (hs : s.size < 4294967281) (w : World) : Calls Tryd.prog 57 #[.string s, .string ⟨#[60, 62]⟩] w fun e w' => e = .returned (.int .i64 (Dy.sgnI s.data.toList)) ∧ Below w.heap.size w w' := by
  by_cases h : s.size ≤ 8
  · exact iany_short s h w
  · exact iany_long s (by omega) hs w
end Go.Proofs.YtedcfnaphfgfjaaDoor
