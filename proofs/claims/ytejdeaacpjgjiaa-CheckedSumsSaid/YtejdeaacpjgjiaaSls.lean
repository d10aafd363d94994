/- slices.Clone and slices.Equal at []int64: contracts. -/
import Derived.Test.YtejdeaacpjgjiaaKit
import Derived.Maps.AppendAt
import Derived.Laws.OwnMore
import Derived.OwnWalk
namespace Go.Proofs.Ytejdeaacpjgjiaa
open Go.RowKit

theorem undI : Try.prog.underlying 29 = some (.slice 2) := by kernel_rfl
theorem infoI : (Try.prog.info? 2).map (fun i => (i.zero, i.size, i.bytes)) = some (some (.int .i64 0), 1, 8) := by kernel_rfl
/-- numbers as values -/
def numV (zs : List Int) : List Value := zs.map fun n => .int .i64 n
theorem numV_at (zs : List Int) (j : Nat) (h : j < zs.length) : (numV zs)[j]? = some (.int .i64 (nth zs j)) := by simp [numV, nth, h]
theorem own_ints {w : World} {B : Nat} {v : Value} {zs : List Int} (h : w.ownsRow B 2 1 v zs.length (numV zs)) : Ints w v zs := by
  rcases h.2 with ⟨hv, e⟩ | ⟨g, cap, cur, hv, hB, hg, hcap, _⟩
  · exact .inl ⟨_, _, hv, List.eq_nil_of_length_eq_zero e⟩
  · by_cases h0 : zs.length = 0
    · exact .inl ⟨_, _, by rw [hv, h0], List.eq_nil_of_length_eq_zero h0⟩
    · have hc : ∀ j, j < zs.length → w.cell? ⟨g, 0 + j, none⟩ = some (.int .i64 (nth zs j)) := by
        intro j hj
        have := h.cells (g := g) (by rw [hv]; rfl) j _ (numV_at zs j hj)
        rw [Nat.zero_add]
        by_cases e0 : j = 0
        · subst e0; exact this
        · simpa [Addr.add, e0] using this
      exact .inr ⟨g, 0, cap, hv, by omega, cell_lt (hc 0 (by omega)), hc⟩
/-- a new slice with these numbers; what was there is as it was -/
def Made (w : World) (zs : List Int) (e : Ending) (w' : World) : Prop := ∃ v, e = .returned v ∧ Ints w' v zs ∧ Below w.heap.size w w'
theorem clone_any (sv : Value) (zs : List Int) (hl : zs.length ≤ 1000) (w : World) (hI : Ints w sv zs) : Calls Try.prog 21 #[sv] w (Made w zs) := by
  obtain ⟨i0, hi0, hy0, hy1, hy2⟩ := info_parts infoI
  have hnil : ∀ (w : World) (a : Option Addr) (n c : Nat), (binOp .eql 29 (.slice a n c) (.slice none 0 0)).run Try.prog w = .ok (.bool a.isNone) w := fun w a n c => Lib.run_eql_slice_nil w _ _ a n c 0 0 undI
  have hb0 : Below w.heap.size w (w.alloc (.cells #[] 2)) := (Below.refl _ w).alloc (Nat.le_refl _) _
  have own0 : (w.alloc (.cells #[] 2)).ownsRow w.heap.size 2 1 (.slice (some ⟨w.heap.size, 0, none⟩) 0 0) 0 [] := World.ownsRow_made w #[] 0 (Nat.le_refl _) (by decide) rfl
  have HO := Lib.hid own0
  have HB := Lib.hid hb0
  clear own0 hb0
  rcases hI with ⟨a, cap, rfl, rfl⟩ | ⟨b, off, cap, rfl, hp, hb, hc⟩
  · cases a with
    | none =>
      go_enter Try.func21, Try.ntmps21
      go_wp2
      go_ret
      exact ⟨_, rfl, .inl ⟨_, _, rfl, rfl⟩, Below.refl _ _⟩
    | some a =>
      clear hl
      go_enter Try.func21, Try.ntmps21
      go_wp2_with (at_builtin; refine wpList_append_own _ rfl _ _ 29 rfl w.heap.size 2 i0 (.int .i64 0) 1 8 undI hi0 hy0 hy1 hy2 rfl (by decide) _ _ _ rfl HO.out a 0 cap [] rfl rfl ?c1 ?c2 ?c3 ?c4 ?c5 ?_)
      case c1 => intro j u hj; simp at hj
      case c2 => intro u hu; simp at hu
      case c3 => decide
      case c4 => decide
      case c5 => simp
      intro v' w4 hown' hgrow _
      have hB := HB.out.grown hgrow HB.out.size (fun k hk => (HO.out.lt k hk).1)
      have hI2 : Ints w4 v' [] := own_ints hown'
      clear hown' hgrow
      have HI := Lib.hid hI2
      have HB2 := Lib.hid hB
      clear hI2 hB
      go_wp2
      go_ret
      exact ⟨_, rfl, HI.out, HB2.out⟩
  · have HL := Lib.hid hl
    have HC := Lib.hid hc
    clear hl hc
    go_enter Try.func21, Try.ntmps21
    go_wp2_with (at_builtin; refine wpList_append_own _ rfl _ _ 29 rfl w.heap.size 2 i0 (.int .i64 0) 1 8 undI hi0 hy0 hy1 hy2 rfl (by decide) _ _ _ rfl HO.out ⟨b, off, none⟩ zs.length cap (numV zs) rfl (by simp [numV]) ?d1 ?d2 ?d3 ?d4 ?d5 ?_)
    case d1 =>
      intro j u hj
      have hlt : j < zs.length := by
        have := (List.getElem?_eq_some_iff.1 hj).1
        simpa [numV] using this
      rw [numV_at zs j hlt] at hj
      injection hj with hj
      subst hj
      have := cell_al (A := .cells #[] 2) (HC.out j hlt)
      by_cases e0 : j = 0
      · subst e0; exact this
      · simpa [Addr.add, e0] using this
    case d2 =>
      intro u hu
      simp only [numV, List.mem_map] at hu
      obtain ⟨n, _, rfl⟩ := hu
      rfl
    case d3 => have := HL.out; unfold maxLen; omega
    case d4 => have := HL.out; omega
    case d5 => simp
    intro v' w4 hown' hgrow _
    have hB := HB.out.grown hgrow HB.out.size (fun k hk => (HO.out.lt k hk).1)
    have hI2 : Ints w4 v' zs := own_ints (by simpa using hown')
    clear hown' hgrow
    have HI := Lib.hid hI2
    have HB2 := Lib.hid hB
    clear hI2 hB
    go_wp2
    go_ret
    exact ⟨_, rfl, HI.out, HB2.out⟩
set_option maxHeartbeats 1000000 in
/-- equal numbers: true -/
theorem equal_any (u v : Value) (zs : List Int) (hl : zs.length ≤ 1000) (w : World) (hI : Ints w u zs) (hJ : Ints w v zs) : Calls Try.prog 24 #[u, v] w fun e w' => e = .returned (.bool true) ∧ Dw w w' := by
  rcases hI with ⟨a, cap, rfl, rfl⟩ | ⟨b, off, cap, rfl, hp, hb, hc⟩
  · rcases hJ with ⟨a2, cap2, rfl, _⟩ | ⟨b2, off2, cap2, rfl, hp2, _⟩
    · clear hl
      go_enter Try.func24, Try.ntmps24
      go_wp2
      go_loop [13] (fun i => i = .int .i64 0) (fun _ => 0)
      case atStart => rfl
      case round =>
        obtain rfl := hrel
        go_wp2
        go_ret
        exact ⟨rfl, Dw.refl _⟩
    · simp at hp2
  · rcases hJ with ⟨a2, cap2, rfl, h0⟩ | ⟨b2, off2, cap2, rfl, hp2, hb2, hc2⟩
    · subst h0; simp at hp
    · have HC := Lib.hid hc
      have HC2 := Lib.hid hc2
      clear hc hc2
      generalize hn : zs.length = n at *
      have HN := Lib.hid hn
      clear hn
      go_enter Try.func24, Try.ntmps24
      go_wp2
      go_loopw [13] (fun i wr => ∃ k : Nat, k ≤ n ∧ i = .int .i64 k ∧ Dw w wr) (fun i _ => n - (intOf i).toNat)
      case atStart => exact ⟨0, by omega, rfl, Dw.refl _⟩
      case round =>
        obtain ⟨k, hk, rfl, hd⟩ := hrel
        by_cases hlt : k < n
        · have x1 : wr.cell? ⟨b, off + k, none⟩ = some (.int .i64 (nth zs k)) := by rw [hd.cell]; exact HC.out k hlt
          have x2 : wr.cell? ⟨b2, off2 + k, none⟩ = some (.int .i64 (nth zs k)) := by rw [hd.cell]; exact HC2.out k hlt
          generalize nth zs k = x at *
          have HD := Lib.hid hd
          clear hd
          go_wp2
          go_quiet (fail)
          go_wp2
          go_roundw
          case rel => exact ⟨k + 1, by omega, by go_num, HD.out.drewN _⟩
          case measure => simp [intOf]; omega
        · obtain rfl : k = n := by omega
          have HD := Lib.hid hd
          clear hd
          go_wp2
          go_ret
          exact ⟨rfl, HD.out⟩
end Go.Proofs.Ytejdeaacpjgjiaa
