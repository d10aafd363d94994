/- The document's Fields: contract. -/
import Derived.Test.YtlekbbggbfhgaaaDoorRef05b
namespace Go.Proofs.YtlekbbggbfhgaaaDoor
open Go.RowKit
set_option maxRecDepth 100000 in
set_option maxHeartbeats 4000000 in
theorem rfields_core (s : ByteArray) (hs : s.size ≤ 300) (L : List ByteArray) (c : Int) (h : fres (Lx.scan s.data.toList [] [] false false) = (L, c)) (W0 : World) :
    Calls Tryd.prog 18 #[.string s] W0 fun e w' => ∃ v, e = .returned (.tuple #[v, .int .i64 c]) ∧ Strs w' v L ∧ Below W0.heap.size W0 w' := by
  obtain ⟨i0, hi0, hy0, hy1, hy2⟩ := info_parts infoS
  have hlen : s.data.toList.length = s.size := by rw [Lib.size_eq]
  have HLEN := Lib.hid hlen
  have HH := Lib.hid h
  clear h hlen
  go_enter Tryd.func18, Tryd.ntmps18
  go_wp2
  go_loopw [4, 5] (fun v i wr => ∃ (k : Nat) (D : List (List UInt8)), i = .int .i64 k ∧ k ≤ s.size ∧ Below W0.heap.size W0 wr ∧ wr.ownsRow W0.heap.size 9 1 v D.length (strV (D.map Lx.bs)) ∧ D.length ≤ k ∧ Lx.scan s.data.toList [] [] false false = Lx.scan (s.data.toList.drop k) D [] false false) (fun _ i _ => s.size - (intOf i).toNat)
  case atStart => exact ⟨0, [], rfl, by omega, Below.refl _ _, World.ownsRow_nil _ _ _ _, by simp, rfl⟩
  case round =>
    obtain ⟨k, D, rfl, hk, hb, hown, hDk, hsc⟩ := hrel
    have hz := hb.size
    have HO := Lib.hid hown
    have HB := Lib.hid hb
    have HSC := Lib.hid hsc
    clear hown hb hsc
    by_cases hkn : k < s.size
    · have hcons := Lib.hid (Lx.drop_cons s k hkn HLEN.out)
      have hk0 : (0 : Int) ≤ (k : Int) := by omega
      have hk1 : (k : Int) < (s.size : Int) := by omega
      have hbt := s[k].toNat_lt
      rcases Lx.kindF s[k] with ⟨h, e⟩ | ⟨h, e⟩ | ⟨h, e⟩ | ⟨h, e⟩ | ⟨⟨e1, e2, e3, e4⟩, ⟨h2, e⟩ | ⟨h2, e⟩ | ⟨h2, h3, e⟩⟩
      · have b1 : ((s[k].toNat : Int) != 35) = true := by simp; omega
        have b2 : ((s[k].toNat : Int) == 32) = false := by simp; omega
        have b3 : ((s[k].toNat : Int) == 9) = false := by simp; omega
        have b4 : ((s[k].toNat : Int) != 34) = false := by simp; omega
        have hp := fun w => plain_at s[k] false (by unfold Lx.pl; rw [e]; rfl) w
        have hf := fun w => field_at s (by omega) (k : Int) k rfl (by omega) w
        have HK12 : Hid (Lx.kind s[k] false = 1 ∨ Lx.kind s[k] false = 2) := Lib.hid (.inr e)
        clear h e
        go_wp2_with fail
        refine (hp _).mono ?_; rintro e w1 ⟨rfl, rfl⟩
        go_wp2_with fail
        refine (hf _).mono ?_; rintro e w1 ⟨p, nx, ok, rfl, rfl, hres⟩
        rcases hres with ⟨rfl, g1, g2, g3, g4, g5⟩ | ⟨rfl, rfl, rfl, g4⟩
        · have hnx : k < nx := by
            rcases Nat.lt_or_ge k nx with h | h
            · exact h
            · exfalso
              have : nx = k := by omega
              subst this
              have := g4 _ _ hcons.out
              have hk12 := HK12.out
              omega
          have hn : Lx.scan s.data.toList [] [] false false = Lx.scan (s.data.toList.drop nx) (D ++ [p]) [] false false := by
            rw [HSC.out, hcons.out, Lx.scan_o HK12.out, ← hcons.out, g5, Lx.scan_end _ g4]
          have HN := Lib.hid hn
          clear hn g4 g5
          go_wp2_with (at_builtin; refine wpList_append_lies _ rfl _ _ 23 rfl W0.heap.size 9 i0 (.string ⟨#[]⟩) 1 16 undS hi0 hy0 hy1 hy2 rfl (by decide) _ D.length (strV (D.map Lx.bs)) rfl (HO.out.alloc _) ⟨wr.heap.size, 0, none⟩ 1 1 [.string (Lx.bs p)] rfl rfl (World.news_of_block (cs := #[.string (Lx.bs p)]) (t := 9) (fr := (0, 0)) (heap_alloc_new wr _)) (by simp [Value.oneCell']) (by omega) (by unfold maxLen; omega) (by omega) (by simp; omega) (wr.heap.size + 1) (by simp) ?_; intro gg cap w1 hown1 hgrow hat hlt1)
          have HB1 := Lib.hid (app_below HB.out hz HO.out hgrow)
          have HO1 := Lib.hid hown1
          clear hown1 hgrow hat hlt1
          go_wp2
          go_roundw
          case rel =>
            refine ⟨nx, D ++ [p], by go_num, by omega, HB1.out, ?_, by simp; omega, HN.out⟩
            have := HO1.out
            rw [strV_snoc] at this
            simpa using this
          case measure => simp [intOf] <;> omega
        · have hn : Lx.scan s.data.toList [] [] false false = none := by
            rw [HSC.out, hcons.out, Lx.scan_o HK12.out, ← hcons.out, g4]
          have hh := HH.out
          rw [hn] at hh
          obtain ⟨rfl, rfl⟩ := Prod.mk.inj hh
          clear hn hh g4
          go_wp2
          go_ret2
          exact ⟨_, rfl, .inl ⟨_, _, rfl, rfl⟩, HB.out⟩
      · have b1 : ((s[k].toNat : Int) != 35) = false := by simp; omega
        have hn : Lx.scan s.data.toList [] [] false false = some D := by
          rw [HSC.out, hcons.out, Lx.scan4 e]; rfl
        have hh := HH.out
        rw [hn] at hh
        obtain ⟨rfl, rfl⟩ := Prod.mk.inj hh
        clear hn hh h e
        go_wp2
        go_ret2
        exact ⟨_, rfl, own_Strs (by simpa using HO.out), HB.out⟩
      · have b1 : ((s[k].toNat : Int) != 35) = true := by simp; omega
        have b2 : ((s[k].toNat : Int) == 32) = false := by simp; omega
        have b3 : ((s[k].toNat : Int) == 9) = true := by simp; omega
        have hn : Lx.scan s.data.toList [] [] false false = Lx.scan (s.data.toList.drop (k + 1)) D [] false false := by
          rw [HSC.out, hcons.out, Lx.scan3 e]; rfl
        have HN := Lib.hid hn
        clear hn h e
        go_wp2
        go_roundw
        case rel => exact ⟨k + 1, D, by go_num, by omega, HB.out, HO.out, by omega, HN.out⟩
        case measure => simp [intOf] <;> omega
      · have b1 : ((s[k].toNat : Int) != 35) = true := by simp; omega
        have b2 : ((s[k].toNat : Int) == 32) = true := by simp; omega
        have hn : Lx.scan s.data.toList [] [] false false = Lx.scan (s.data.toList.drop (k + 1)) D [] false false := by
          rw [HSC.out, hcons.out, Lx.scan3 e]; rfl
        have HN := Lib.hid hn
        clear hn h e
        go_wp2
        go_roundw
        case rel => exact ⟨k + 1, D, by go_num, by omega, HB.out, HO.out, by omega, HN.out⟩
        case measure => simp [intOf] <;> omega
      · have b1 : ((s[k].toNat : Int) != 35) = true := by simp; omega
        have b2 : ((s[k].toNat : Int) == 32) = false := by simp; omega
        have b3 : ((s[k].toNat : Int) == 9) = false := by simp; omega
        have b4 : ((s[k].toNat : Int) != 34) = true := by simp; omega
        have hp := fun w => plain_at s[k] false (by unfold Lx.pl; rw [e]; rfl) w
        have hn : Lx.scan s.data.toList [] [] false false = none := by
          rw [HSC.out, hcons.out, Lx.scan0 e]
        have hh := HH.out
        rw [hn] at hh
        obtain ⟨rfl, rfl⟩ := Prod.mk.inj hh
        clear hn hh h2 e
        go_wp2_with fail
        refine (hp _).mono ?_; rintro e w1 ⟨rfl, rfl⟩
        go_wp2
        go_ret2
        exact ⟨_, rfl, .inl ⟨_, _, rfl, rfl⟩, HB.out⟩
      · have b1 : ((s[k].toNat : Int) != 35) = true := by simp; omega
        have b2 : ((s[k].toNat : Int) == 32) = false := by simp; omega
        have b3 : ((s[k].toNat : Int) == 9) = false := by simp; omega
        have b4 : ((s[k].toNat : Int) != 34) = true := by simp; omega
        have hp := fun w => plain_at s[k] false (by unfold Lx.pl; rw [e]; rfl) w
        have hn : Lx.scan s.data.toList [] [] false false = none := by
          rw [HSC.out, hcons.out, Lx.scan0 e]
        have hh := HH.out
        rw [hn] at hh
        obtain ⟨rfl, rfl⟩ := Prod.mk.inj hh
        clear hn hh h2 e
        go_wp2_with fail
        refine (hp _).mono ?_; rintro e w1 ⟨rfl, rfl⟩
        go_wp2
        go_ret2
        exact ⟨_, rfl, .inl ⟨_, _, rfl, rfl⟩, HB.out⟩
      · have b1 : ((s[k].toNat : Int) != 35) = true := by simp; omega
        have b2 : ((s[k].toNat : Int) == 32) = false := by simp; omega
        have b3 : ((s[k].toNat : Int) == 9) = false := by simp; omega
        have b4 : ((s[k].toNat : Int) != 34) = true := by simp; omega
        have hp := fun w => plain_at s[k] true (by unfold Lx.pl; rw [e]; rfl) w
        have hf := fun w => field_at s (by omega) (k : Int) k rfl (by omega) w
        have HK12 : Hid (Lx.kind s[k] false = 1 ∨ Lx.kind s[k] false = 2) := Lib.hid (.inl e)
        clear h2 h3 e
        go_wp2_with fail
        refine (hp _).mono ?_; rintro e w1 ⟨rfl, rfl⟩
        go_wp2_with fail
        refine (hf _).mono ?_; rintro e w1 ⟨p, nx, ok, rfl, rfl, hres⟩
        rcases hres with ⟨rfl, g1, g2, g3, g4, g5⟩ | ⟨rfl, rfl, rfl, g4⟩
        · have hnx : k < nx := by
            rcases Nat.lt_or_ge k nx with h | h
            · exact h
            · exfalso
              have : nx = k := by omega
              subst this
              have := g4 _ _ hcons.out
              have hk12 := HK12.out
              omega
          have hn : Lx.scan s.data.toList [] [] false false = Lx.scan (s.data.toList.drop nx) (D ++ [p]) [] false false := by
            rw [HSC.out, hcons.out, Lx.scan_o HK12.out, ← hcons.out, g5, Lx.scan_end _ g4]
          have HN := Lib.hid hn
          clear hn g4 g5
          go_wp2_with (at_builtin; refine wpList_append_lies _ rfl _ _ 23 rfl W0.heap.size 9 i0 (.string ⟨#[]⟩) 1 16 undS hi0 hy0 hy1 hy2 rfl (by decide) _ D.length (strV (D.map Lx.bs)) rfl (HO.out.alloc _) ⟨wr.heap.size, 0, none⟩ 1 1 [.string (Lx.bs p)] rfl rfl (World.news_of_block (cs := #[.string (Lx.bs p)]) (t := 9) (fr := (0, 0)) (heap_alloc_new wr _)) (by simp [Value.oneCell']) (by omega) (by unfold maxLen; omega) (by omega) (by simp; omega) (wr.heap.size + 1) (by simp) ?_; intro gg cap w1 hown1 hgrow hat hlt1)
          have HB1 := Lib.hid (app_below HB.out hz HO.out hgrow)
          have HO1 := Lib.hid hown1
          clear hown1 hgrow hat hlt1
          go_wp2
          go_roundw
          case rel =>
            refine ⟨nx, D ++ [p], by go_num, by omega, HB1.out, ?_, by simp; omega, HN.out⟩
            have := HO1.out
            rw [strV_snoc] at this
            simpa using this
          case measure => simp [intOf] <;> omega
        · have hn : Lx.scan s.data.toList [] [] false false = none := by
            rw [HSC.out, hcons.out, Lx.scan_o HK12.out, ← hcons.out, g4]
          have hh := HH.out
          rw [hn] at hh
          obtain ⟨rfl, rfl⟩ := Prod.mk.inj hh
          clear hn hh g4
          go_wp2
          go_ret2
          exact ⟨_, rfl, .inl ⟨_, _, rfl, rfl⟩, HB.out⟩
    · obtain rfl : k = s.size := by omega
      have hn : Lx.scan s.data.toList [] [] false false = some D := by
        rw [HSC.out, List.drop_of_length_le (by rw [HLEN.out]; exact Nat.le_refl _)]; rfl
      have hh := HH.out
      rw [hn] at hh
      obtain ⟨rfl, rfl⟩ := Prod.mk.inj hh
      clear hn hh
      go_wp2
      go_ret2
      exact ⟨_, rfl, own_Strs (by simpa using HO.out), HB.out⟩
theorem rfields_long (s : ByteArray) (hs : 300 < s.size) (W0 : World) : Calls Tryd.prog 18 #[.string s] W0 fun e w' => e = .returned (.tuple #[.slice none 0 0, .int .i64 6]) ∧ W0 = w' := by
  go_enter Tryd.func18, Tryd.ntmps18
  go_wp2
  go_ret2
  exact ⟨rfl, rfl⟩
theorem rfields_any (s : ByteArray) (F : List ByteArray) (c : Int) (h : flds s = (F, c)) (W0 : World) :
    Calls Tryd.prog 18 #[.string s] W0 fun e w' => ∃ v, e = .returned (.tuple #[v, .int .i64 c]) ∧ Strs w' v F ∧ Below W0.heap.size W0 w' := by
  unfold flds at h
  by_cases hs : 300 < s.size
  · rw [if_pos hs] at h
    obtain ⟨rfl, rfl⟩ := Prod.mk.inj h
    refine (rfields_long s hs W0).mono ?_
    rintro e w' ⟨rfl, rfl⟩
    exact ⟨_, rfl, .inl ⟨_, _, rfl, rfl⟩, Below.refl _ _⟩
  · rw [if_neg hs] at h
    exact rfields_core s (by omega) F c h W0
end Go.Proofs.YtlekbbggbfhgaaaDoor
