/- Package lexeme: Fields. -/
import Derived.Test.YtlekbbggbfhgaaaDoorLx
import Derived.Test.YtlekbbggbfhgaaaDoorLy
import Derived.Test.YtlekbbggbfhgaaaDoorLxw
import Derived.Deep.LoopGhost
import Derived.Deep.DeepCutAuto
import Derived.Lib.Strings
import Derived.WalkMore
namespace Go.Proofs.YtlekbbggbfhgaaaDoor
open Go.RowKit
theorem sorted_core (n : Int) (q : Bool) (k : Int) (h0 : 0 ≤ n) (h1 : n < 256) (hk : (n = 34 ∧ k = 2) ∨ (n = 35 ∧ k = if q then 1 else 4) ∨ (n = 9 ∧ k = if q then 0 else 3) ∨ (n = 32 ∧ k = if q then 1 else 3) ∨ ((n ≠ 34 ∧ n ≠ 35 ∧ n ≠ 9 ∧ n ≠ 32) ∧ ((n < 32 ∧ k = 0) ∨ (126 < n ∧ k = 0) ∨ (32 < n ∧ n ≤ 126 ∧ k = 1)))) (w : World) :
    Calls Tryd.prog 30 #[.int .u8 n, .bool q] w fun e w' => e = .returned (.int .i64 k) ∧ w = w' := by
  rcases hk with ⟨rfl, rfl⟩ | ⟨rfl, rfl⟩ | ⟨rfl, rfl⟩ | ⟨rfl, rfl⟩ | ⟨⟨e1, e2, e3, e4⟩, ⟨h2, rfl⟩ | ⟨h2, rfl⟩ | ⟨h2, h3, rfl⟩⟩
  all_goals cases q
  all_goals
    (try have b1 : (n == 34) = false := by simpa using e1)
    (try have b2 : (n == 35) = false := by simpa using e2)
    (try have b3 : (n == 9) = false := by simpa using e3)
    (try have b4 : (n == 32) = false := by simpa using e4)
    (try clear e1 e2 e3 e4)
    go_enter Tryd.func30, Tryd.ntmps30
    go_wp2
    go_ret
    exact ⟨rfl, rfl⟩
theorem sorted_any (b : UInt8) (q : Bool) (w : World) : Calls Tryd.prog 30 #[.int .u8 (b.toNat : Int), .bool q] w fun e w' => e = .returned (.int .i64 (Lx.kind b q : Int)) ∧ w = w' := by
  have hb := b.toNat_lt
  refine sorted_core _ _ _ (by omega) (by omega) ?_ w
  unfold Lx.kind
  cases q <;> (repeat' split) <;> simp <;> omega
theorem sorted_at (b : UInt8) (q : Bool) (m : Int) (h : (Lx.kind b q : Int) = m) (w : World) : Calls Tryd.prog 30 #[.int .u8 (b.toNat : Int), .bool q] w fun e w' => e = .returned (.int .i64 m) ∧ w = w' := by
  subst h; exact sorted_any b q w

abbrev bs := Lx.bs
/-- fields and an error out of what was read -/
def fres : Option (List (List UInt8)) → List ByteArray × Int
  | none => ([], 5)
  | some F => (F.map bs, 0)
/-- what Fields returns -/
def flds (s : ByteArray) : List ByteArray × Int := if 300 < s.size then ([], 6) else fres (Lx.scan s.data.toList [] [] false false)
/-- what stands behind the append of a byte to the field -/
theorem part_grow {B : Nat} {W0 w w1 : World} {rb : Nat} {fv lv : Value} {o q : Bool} {F : List ByteArray} {L : List UInt8} {O : Obj} (hbel : Below B W0 w) (hB : B ≤ w.heap.size) (hr : Rr w rb fv lv o q) (hF : w.ownsRow B 9 1 fv F.length (strV F)) (hL : w.ownsRow B 5 1 lv L.length (bytV L)) (hg : (w.alloc O).drew.grownBy w1 lv.ownBlock) :
    Rr w1 rb fv lv o q ∧ w1.ownsRow B 9 1 fv F.length (strV F) ∧ Below B W0 w1 := by
  have hra : Rr (w.alloc O).drew rb fv lv o q := row_al hr
  have hfa : (w.alloc O).drew.ownsRow B 9 1 fv F.length (strV F) := hF.alloc O
  have hla : (w.alloc O).drew.ownsRow B 5 1 lv L.length (bytV L) := hL.alloc O
  have hba : Below B W0 (w.alloc O).drew := (hbel.alloc hB O).drew
  refine ⟨hra.grow hg (own_type hla hra (by decide)), hfa.kept hg (own_apart hfa hla (by decide)), hba.grown hg ?_ (fun k hk => (hL.lt k hk).1)⟩
  show B ≤ (w.alloc O).heap.size
  simp; omega
set_option maxRecDepth 100000 in
set_option maxHeartbeats 4000000 in
theorem fields_core (s : ByteArray) (hs : s.size ≤ 300) (R : Option (List (List UInt8))) (hR : Lx.scan s.data.toList [] [] false false = R) (W0 : World) :
    Calls Tryd.prog 17 #[.string s] W0 fun e w' => ∃ v, e = .returned (.tuple #[v, .int .i64 (fres R).2]) ∧ Strs w' v (fres R).1 ∧ Below W0.heap.size W0 w' := by
  have hlen : s.data.toList.length = s.size := by rw [Lib.size_eq]
  obtain ⟨i0, hi0, hy0, hy1, hy2⟩ := info_parts infoB
  have HLEN := Lib.hid hlen
  have HRR := Lib.hid hR
  clear hlen hR
  go_enter Tryd.func17, Tryd.ntmps17
  go_wp2_with fail
  go_step3
  go_wp2_with fail
  go_step3
  go_wp2_with fail
  have H0 : Hid (Rd W0.heap.size (W0.alloc (.cells #[.slice none 0 0, .slice none 0 0, .bool false, .bool false] 54)) W0.heap.size [] [] false false) := Lib.hid ⟨_, _, row_new rfl, World.ownsRow_nil _ _ _ _, World.ownsRow_nil _ _ _ _⟩
  have HB0 : Hid (Below W0.heap.size W0 (W0.alloc (.cells #[.slice none 0 0, .slice none 0 0, .bool false, .bool false] 54))) := Lib.hid ((Below.refl _ W0).alloc (Nat.le_refl _) _)
  generalize W0.alloc (.cells #[.slice none 0 0, .slice none 0 0, .bool false, .bool false] 54) = w1 at *
  generalize hrb : W0.heap.size = rb at *
  go_loopw [5] (fun i wr => ∃ (k : Nat) (F : List (List UInt8)) (L : List UInt8) (o q : Bool), k ≤ s.size ∧ i = .int .i64 k ∧ F.length ≤ k ∧ L.length ≤ k ∧ Lx.scan (s.data.toList.drop k) F L o q = R ∧ Below rb W0 wr ∧ Rd rb wr rb (F.map bs) L o q) (fun i _ => s.size - (intOf i).toNat)
  case atStart => exact ⟨0, [], [], false, false, by omega, rfl, by simp, by simp, HRR.out, HB0.out, H0.out⟩
  case round =>
    obtain ⟨k, F, L, o, q, hk, rfl, hFk, hLk, hsc, hb, hrd⟩ := hrel
    obtain ⟨fv, lv, hr, hof, hol⟩ := hrd
    have hz := hb.size
    have HFK := Lib.hid hFk
    have HLL := Lib.hid hLk
    have HSC := Lib.hid hsc
    have HB := Lib.hid hb
    have HR := Lib.hid hr
    have HF := Lib.hid hof
    have HL := Lib.hid hol
    have c3 := hr.c3
    have hlt := cell_lt c3
    clear hFk hLk hsc hb hr hof hol
    by_cases hkn : k < s.size
    · have hcons : s.data.toList.drop k = s[k] :: s.data.toList.drop (k + 1) := by
        rw [List.drop_eq_getElem_cons (by rw [HLEN.out]; exact hkn)]; rfl
      have hsc := HSC.out
      rw [hcons] at hsc
      have hk0 : (0 : Int) ≤ (k : Int) := by omega
      have hk1 : (k : Int) < (s.size : Int) := by omega
      rcases Lx.kind_le s[k] q with h | h | h | h | h
      · rw [Lx.scan0 h] at hsc
        have HK := Lib.hid (show (Lx.kind s[k] q : Int) = 0 by rw [h]; rfl)
        subst hsc
        clear h hcons
        go_wp2_with fail
        go_region_held3 (fun w' => w'.cell? ⟨rb, 3, none⟩ = some (.bool q)) (first | exact c3)
          (first | (go_at_call 30; refine (sorted_at _ _ _ HK.out _).mono ?_; rintro e w3 ⟨rfl, rfl⟩))
        replace HR : Hid (Rr wr.drew rb fv lv o q) := Lib.hid HR.out
        replace HF : Hid (wr.drew.ownsRow rb 9 1 fv (F.map bs).length (strV (F.map bs))) := Lib.hid HF.out
        replace HL : Hid (wr.drew.ownsRow rb 5 1 lv L.length (bytV L)) := Lib.hid HL.out
        replace HB : Hid (Below rb W0 wr.drew) := Lib.hid HB.out.drew
        replace c3 : wr.drew.cell? ⟨rb, 3, none⟩ = some (.bool q) := c3
        generalize wr.drew = wq at *
        go_wp2
        (try rw [Exit.noGoto_ret])
        go_ret2
        exact ⟨_, rfl, .inl ⟨_, _, rfl, rfl⟩, hrb ▸ HB.out⟩
      · rw [Lx.scan1 h] at hsc
        have HK := Lib.hid (show (Lx.kind s[k] q : Int) = 1 by rw [h]; rfl)
        have HS := Lib.hid hsc
        clear h hcons hsc
        go_wp2_with fail
        go_region_held3 (fun w' => w'.cell? ⟨rb, 3, none⟩ = some (.bool q)) (first | exact c3)
          (first | (go_at_call 30; refine (sorted_at _ _ _ HK.out _).mono ?_; rintro e w3 ⟨rfl, rfl⟩))
        replace HR : Hid (Rr wr.drew rb fv lv o q) := Lib.hid HR.out
        replace HF : Hid (wr.drew.ownsRow rb 9 1 fv (F.map bs).length (strV (F.map bs))) := Lib.hid HF.out
        replace HL : Hid (wr.drew.ownsRow rb 5 1 lv L.length (bytV L)) := Lib.hid HL.out
        replace HB : Hid (Below rb W0 wr.drew) := Lib.hid HB.out.drew
        replace c3 : wr.drew.cell? ⟨rb, 3, none⟩ = some (.bool q) := c3
        generalize wr.drew = wq at *
        have c2 := HR.out.c2
        have f2 := HR.out.fz 2
        go_wp2_with fail
        have HR5 := Lib.hid (HR.out.s2 true)
        have HF5 := Lib.hid (HR.out.kept HF.out (by decide) 2 (.bool true))
        have HL5 := Lib.hid (HR.out.kept HL.out (by decide) 2 (.bool true))
        have HB5 := Lib.hid (HB.out.setCell (p := ⟨rb, 2, none⟩) (Nat.le_refl _) (.bool true))
        have hz5 : W0.heap.size ≤ (wq.setCell ⟨rb, 2, none⟩ (.bool true)).heap.size := by have := HB5.out.size; simpa using this
        clear HR HF HL HB c2 f2 c3
        generalize wq.setCell ⟨rb, 2, none⟩ (.bool true) = w5 at *
        have k1 := HR5.out.c1
        have ka1 : (w5.alloc (.cells #[.int .u8 (s[k].toNat : Int)] 5)).cell? ⟨rb, 1, none⟩ = some lv := cell_al k1
        go_region_law (
          (refine step_append_lies _ (by rfl) _ _ _ (by rfl) rb 5 i0 _ 1 1 Tryd.underlying45 hi0 hy0 hy1 hy2 rfl (by decide) lv L.length (bytV L) (by rfl) ((HL5.out.alloc _).drew) ⟨w5.heap.size, 0, none⟩ 1 1 [.int .u8 (s[k].toNat : Int)] (by rfl) (by rfl) (World.news_of_block (cs := #[.int .u8 (s[k].toNat : Int)]) (t := 5) (fr := (0, 0)) (heap_alloc_new w5 _)) (by simp [Value.oneCell']) (by omega) (by have := HLL.out; unfold maxLen; omega) (by have := HLL.out; omega) (by simp; omega) (w5.heap.size + 1) (by simp) ?_
           intro gg cap w6 hown1 hgrow hat hlt1
           have HE := Lib.hid (part_grow HB5.out (by omega) HR5.out HF5.out HL5.out hgrow)
           have j1 := HE.out.1.c1
           have j2 := HE.out.1.fz 1
           have HO1 := Lib.hid hown1
           clear hown1 hgrow hat))
        all_goals
          go_wp2
          go_roundw
          case rel =>
            refine ⟨k + 1, F, L ++ [s[k]], true, q, by omega, by go_num, by have := HFK.out; omega, by have := HLL.out; simp; omega, HS.out, HE.out.2.2.setCell (p := ⟨rb, 1, none⟩) (Nat.le_refl _) _, fv, .slice (some ⟨gg, 0, none⟩) (L.length + 1) cap, HE.out.1.s1 _, HE.out.1.kept HE.out.2.1 (by decide) 1 _, ?_⟩
            have := HE.out.1.kept HO1.out (by decide) 1 (.slice (some ⟨gg, 0, none⟩) (L.length + 1) cap)
            simpa [bytV] using this
          case measure => simp [intOf]; omega
      · rw [Lx.scan2 h] at hsc
        have HK := Lib.hid (show (Lx.kind s[k] q : Int) = 2 by rw [h]; rfl)
        have HS := Lib.hid hsc
        clear h hcons hsc
        go_wp2_with fail
        go_region_held3 (fun w' => w'.cell? ⟨rb, 3, none⟩ = some (.bool q)) (first | exact c3)
          (first | (go_at_call 30; refine (sorted_at _ _ _ HK.out _).mono ?_; rintro e w3 ⟨rfl, rfl⟩))
        replace HR : Hid (Rr wr.drew rb fv lv o q) := Lib.hid HR.out
        replace HF : Hid (wr.drew.ownsRow rb 9 1 fv (F.map bs).length (strV (F.map bs))) := Lib.hid HF.out
        replace HL : Hid (wr.drew.ownsRow rb 5 1 lv L.length (bytV L)) := Lib.hid HL.out
        replace HB : Hid (Below rb W0 wr.drew) := Lib.hid HB.out.drew
        replace c3 : wr.drew.cell? ⟨rb, 3, none⟩ = some (.bool q) := c3
        generalize wr.drew = wq at *
        have c2 := HR.out.c2
        have f2 := HR.out.fz 2
        have f3 := HR.out.fz 3
        go_wp2
        go_roundw
        case rel =>
          refine ⟨k + 1, F, L, true, !q, by omega, by go_num, by have := HFK.out; omega, by have := HLL.out; omega, HS.out, (HB.out.setCell (p := ⟨rb, 2, none⟩) (Nat.le_refl _) _).setCell (p := ⟨rb, 3, none⟩) (Nat.le_refl _) _, fv, lv, (HR.out.s2 true).s3 _, ?_, ?_⟩
          · exact (HR.out.s2 true).kept (HR.out.kept HF.out (by decide) 2 _) (by decide) 3 _
          · exact (HR.out.s2 true).kept (HR.out.kept HL.out (by decide) 2 _) (by decide) 3 _
        case measure => simp [intOf]; omega
      · rw [Lx.scan3 h] at hsc
        have HK := Lib.hid (show (Lx.kind s[k] q : Int) = 3 by rw [h]; rfl)
        have HS := Lib.hid hsc
        clear h hcons hsc
        go_wp2_with fail
        go_region_held3 (fun w' => w'.cell? ⟨rb, 3, none⟩ = some (.bool q)) (first | exact c3)
          (first | (go_at_call 30; refine (sorted_at _ _ _ HK.out _).mono ?_; rintro e w3 ⟨rfl, rfl⟩))
        replace HR : Hid (Rr wr.drew rb fv lv o q) := Lib.hid HR.out
        replace HF : Hid (wr.drew.ownsRow rb 9 1 fv (F.map bs).length (strV (F.map bs))) := Lib.hid HF.out
        replace HL : Hid (wr.drew.ownsRow rb 5 1 lv L.length (bytV L)) := Lib.hid HL.out
        replace HB : Hid (Below rb W0 wr.drew) := Lib.hid HB.out.drew
        replace c3 : wr.drew.cell? ⟨rb, 3, none⟩ = some (.bool q) := c3
        generalize wr.drew = wq at *
        go_wp2_with fail
        refine (end_at W0 _ rb hrb _ _ _ _ (by have := HFK.out; simp; omega) HB.out ⟨fv, lv, HR.out, HF.out, HL.out⟩).mono ?_
        rintro e w4 ⟨rfl, hb4, hrd4⟩
        have HB4 := Lib.hid hb4
        have HR4 := Lib.hid hrd4
        clear hb4 hrd4
        go_wp2
        go_roundw
        case rel =>
          refine ⟨k + 1, _, _, false, q, by omega, by go_num, ?_, ?_, HS.out, HB4.out, ?_⟩
          · have := HFK.out
            cases o <;> simp <;> omega
          · have := HLL.out
            cases o <;> simp <;> omega
          · have := HR4.out
            revert this
            cases o <;> simp [bs, Lx.bs]
        case measure => simp [intOf]; omega
      · have hq := Lx.kind4 h
        rw [Lx.scan4 h] at hsc
        have HK := Lib.hid (show (Lx.kind s[k] q : Int) = 4 by rw [h]; rfl)
        subst hq
        subst hsc
        clear h hcons
        go_wp2_with fail
        go_region_held3 (fun w' => w'.cell? ⟨rb, 3, none⟩ = some (.bool false)) (first | exact c3)
          (first | (go_at_call 30; refine (sorted_at _ _ _ HK.out _).mono ?_; rintro e w3 ⟨rfl, rfl⟩))
        replace HR : Hid (Rr wr.drew rb fv lv o false) := Lib.hid HR.out
        replace HF : Hid (wr.drew.ownsRow rb 9 1 fv (F.map bs).length (strV (F.map bs))) := Lib.hid HF.out
        replace HL : Hid (wr.drew.ownsRow rb 5 1 lv L.length (bytV L)) := Lib.hid HL.out
        replace HB : Hid (Below rb W0 wr.drew) := Lib.hid HB.out.drew
        replace c3 : wr.drew.cell? ⟨rb, 3, none⟩ = some (.bool false) := c3
        generalize wr.drew = wq at *
        go_wp2_with fail
        refine (end_at W0 _ rb hrb _ _ _ _ (by have := HFK.out; simp; omega) HB.out ⟨fv, lv, HR.out, HF.out, HL.out⟩).mono ?_
        rintro e w4 ⟨rfl, hb4, fv4, lv4, hr4, hof4, _⟩
        have d0 := hr4.c0
        have HB4 := Lib.hid hb4
        have HF4 := Lib.hid hof4
        clear hb4 hr4 hof4
        go_wp2
        (try rw [Exit.noGoto_ret])
        go_ret2
        refine ⟨fv4, rfl, ?_, hrb ▸ HB4.out⟩
        have := own_Strs HF4.out
        revert this
        cases o <;> simp [fres, bs, Lx.bs]
    · obtain rfl : k = s.size := by omega
      have hsc := HSC.out
      rw [List.drop_of_length_le (by rw [HLEN.out]; exact Nat.le_refl _), Lx.scan] at hsc
      cases q with
      | true =>
        subst hsc
        go_wp2
        (try rw [Exit.noGoto_ret])
        go_ret2
        exact ⟨_, rfl, .inl ⟨_, _, rfl, rfl⟩, hrb ▸ HB.out⟩
      | false =>
        subst hsc
        go_wp2_with fail
        refine (end_at W0 _ rb hrb _ _ _ _ (by have := HFK.out; simp; omega) HB.out ⟨fv, lv, HR.out, HF.out, HL.out⟩).mono ?_
        rintro e w4 ⟨rfl, hb4, fv4, lv4, hr4, hof4, _⟩
        have d0 := hr4.c0
        have HB4 := Lib.hid hb4
        have HF4 := Lib.hid hof4
        clear hb4 hr4 hof4
        go_wp2
        (try rw [Exit.noGoto_ret])
        go_ret2
        refine ⟨fv4, rfl, ?_, hrb ▸ HB4.out⟩
        have := own_Strs HF4.out
        revert this
        cases o <;> simp [fres, bs, Lx.bs]

theorem fields_long (s : ByteArray) (hs : 300 < s.size) (W0 : World) : Calls Tryd.prog 17 #[.string s] W0 fun e w' => e = .returned (.tuple #[.slice none 0 0, .int .i64 6]) ∧ W0 = w' := by
  go_enter Tryd.func17, Tryd.ntmps17
  go_wp2
  go_step3
  go_wp2
  (try rw [Exit.noGoto_ret])
  go_ret2
  exact ⟨rfl, rfl⟩
theorem fields_any (s : ByteArray) (F : List ByteArray) (c : Int) (h : flds s = (F, c)) (W0 : World) :
    Calls Tryd.prog 17 #[.string s] W0 fun e w' => ∃ v, e = .returned (.tuple #[v, .int .i64 c]) ∧ Strs w' v F ∧ Below W0.heap.size W0 w' := by
  unfold flds at h
  by_cases hs : 300 < s.size
  · rw [if_pos hs] at h
    obtain ⟨rfl, rfl⟩ := Prod.mk.inj h
    refine (fields_long s hs W0).mono ?_
    rintro e w' ⟨rfl, rfl⟩
    exact ⟨_, rfl, .inl ⟨_, _, rfl, rfl⟩, Below.refl _ _⟩
  · rw [if_neg hs] at h
    have := fields_core s (by omega) _ rfl W0
    rw [h] at this
    exact this
end Go.Proofs.YtlekbbggbfhgaaaDoor
