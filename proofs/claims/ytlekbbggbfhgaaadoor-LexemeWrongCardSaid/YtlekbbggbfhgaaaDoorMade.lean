/- The fields of a draft: contract. -/
import Derived.Test.YtlekbbggbfhgaaaDoorLd
import Derived.Test.YtlekbbggbfhgaaaDoorOpen5
import Derived.Test.YtlekbbggbfhgaaaDoorRef05
import Derived.Test.YtlekbbggbfhgaaaDoorLaw05a
namespace Go.Proofs.YtlekbbggbfhgaaaDoor
open Go.RowKit
theorem app_bs5 (a b : List UInt8) : Lx.bs a ++ Lx.bs b = Lx.bs (a ++ b) := by
  show ByteArray.append _ _ = _
  simp [ByteArray.append, Lx.bs]
set_option maxRecDepth 100000 in
set_option maxHeartbeats 4000000 in
theorem made_core (b off cap n : Nat) (D : List (List UInt8)) (hn : D.length = n) (W0 : World) (hb : b < W0.heap.size) (hc : ∀ j l, D[j]? = some l → ∃ u, W0.cell? ⟨b, off + j, none⟩ = some u ∧ Byts W0 u l) (hcap : n ≤ cap) (q : Nat) (hq : min n 12 = q) :
    Calls Tryd.prog 21 #[.slice (some ⟨b, off, none⟩) n cap] W0 fun e w' => ∃ u, e = .returned u ∧ Strs w' u ((Lx.made D).map Lx.bs) ∧ Below W0.heap.size W0 w' := by
  obtain ⟨i0, hi0, hy0, hy1, hy2⟩ := info_parts infoS
  have HC := Lib.hid hc
  have HN := Lib.hid hn
  have HQ := Lib.hid hq
  have hmin : min (n : Int) 12 = (q : Int) := by omega
  have hq0 : (0 : Int) ≤ (q : Int) := by omega
  have hqc : (q : Int) ≤ (cap : Int) := by omega
  have hq12 : q ≤ 12 := by omega
  have hqn : q ≤ n := by omega
  clear hc hn hq
  go_enter Tryd.func21, Tryd.ntmps21
  go_wp2
  clear hmin
  go_loopw [3, 15] (fun v i wr => ∃ k : Nat, k ≤ q ∧ i = .int .i64 k ∧ Below W0.heap.size W0 wr ∧ wr.ownsRow W0.heap.size 9 1 v k (strV ((Lx.made (D.take k)).map Lx.bs))) (fun _ i _ => q - (intOf i).toNat)
  case atStart => exact ⟨0, by omega, rfl, Below.refl _ _, by simpa [Lx.made, strV] using World.ownsRow_nil _ _ _ _⟩
  case round =>
    obtain ⟨k, hk, rfl, hbl, hown⟩ := hrel
    have hz := hbl.size
    have HO := Lib.hid hown
    have HB := Lib.hid hbl
    clear hown hbl
    by_cases hkq : k < q
    · have hkD : k < D.length := by rw [HN.out]; omega
      obtain ⟨u, hu, hby⟩ := HC.out k D[k] (List.getElem?_eq_getElem hkD)
      have c0 := (HB.out.cell (p := ⟨b, off + k, none⟩) hb).trans hu
      have hk0 : (0 : Int) ≤ (k : Int) := by omega
      have hk1 : (k : Int) < (q : Int) := by omega
      have HNX := Lib.hid (Lx.made_next D k hkD (by omega))
      clear hu
      generalize D[k] = l at *
      rcases hby with ⟨a, c, rfl, rfl⟩ | ⟨b2, off2, cap2, rfl, hp2, hb2, hc2⟩
      · have hS2 : Lx.bs (Lx.madeL []) = ⟨#[]⟩ := rfl
        have HS := Lib.hid hS2
        clear hS2
        cases a with
        | none =>
          go_wp2
          go_loopw [6, 25] (fun s i wr2 => i = .int .i64 0 ∧ s = .string ⟨#[]⟩ ∧ wr = wr2) (fun _ _ _ => 0)
          case atStart => exact ⟨rfl, rfl, by first | rfl | trivial⟩
          case round =>
            obtain ⟨rfl, rfl, rfl⟩ := hrel
            go_wp2_with (at_builtin; refine wpList_append_lies _ rfl _ _ 23 rfl W0.heap.size 9 i0 (.string ⟨#[]⟩) 1 16 undS hi0 hy0 hy1 hy2 rfl (by decide) _ k (strV ((Lx.made (D.take k)).map Lx.bs)) rfl (HO.out.alloc _) ⟨wr.heap.size, 0, none⟩ 1 1 [.string ⟨#[]⟩] rfl rfl (World.news_of_block (cs := #[.string ⟨#[]⟩]) (t := 9) (fr := (0, 0)) (heap_alloc_new wr _)) (by simp [Value.oneCell']) (by omega) (by unfold maxLen; omega) (by omega) (by simp; omega) (wr.heap.size + 1) (by simp) ?_; intro gg cap3 w1 hown1 hgrow hat hlt1)
            have HB1 := Lib.hid (app_below HB.out hz HO.out hgrow)
            have HO1 := Lib.hid hown1
            clear hown1 hgrow hat hlt1
            go_wp2
            go_roundw
            case rel =>
              refine ⟨k + 1, by omega, by go_num, HB1.out, ?_⟩
              have := HO1.out
              rw [← HS.out, strV_snoc, ← HNX.out] at this
              exact this
            case measure => simp [intOf] <;> omega
        | some a =>
          go_wp2
          go_loopw [6, 25] (fun s i wr2 => i = .int .i64 0 ∧ s = .string ⟨#[]⟩ ∧ wr = wr2) (fun _ _ _ => 0)
          case atStart => exact ⟨rfl, rfl, by first | rfl | trivial⟩
          case round =>
            obtain ⟨rfl, rfl, rfl⟩ := hrel
            go_wp2_with (at_builtin; refine wpList_append_lies _ rfl _ _ 23 rfl W0.heap.size 9 i0 (.string ⟨#[]⟩) 1 16 undS hi0 hy0 hy1 hy2 rfl (by decide) _ k (strV ((Lx.made (D.take k)).map Lx.bs)) rfl (HO.out.alloc _) ⟨wr.heap.size, 0, none⟩ 1 1 [.string ⟨#[]⟩] rfl rfl (World.news_of_block (cs := #[.string ⟨#[]⟩]) (t := 9) (fr := (0, 0)) (heap_alloc_new wr _)) (by simp [Value.oneCell']) (by omega) (by unfold maxLen; omega) (by omega) (by simp; omega) (wr.heap.size + 1) (by simp) ?_; intro gg cap3 w1 hown1 hgrow hat hlt1)
            have HB1 := Lib.hid (app_below HB.out hz HO.out hgrow)
            have HO1 := Lib.hid hown1
            clear hown1 hgrow hat hlt1
            go_wp2
            go_roundw
            case rel =>
              refine ⟨k + 1, by omega, by go_num, HB1.out, ?_⟩
              have := HO1.out
              rw [← HS.out, strV_snoc, ← HNX.out] at this
              exact this
            case measure => simp [intOf] <;> omega
      · have HC2 := Lib.hid hc2
        obtain ⟨q2, hq2⟩ : ∃ q2, min l.length 12 = q2 := ⟨_, rfl⟩
        have hmin2 : min (l.length : Int) 12 = (q2 : Int) := by omega
        have hq20 : (0 : Int) ≤ (q2 : Int) := by omega
        have hq2c : (q2 : Int) ≤ (cap2 : Int) := by omega
        have hq212 : q2 ≤ 12 := by omega
        have HQ2 := Lib.hid hq2
        have hq2l : q2 ≤ l.length := by omega
        clear hc2 hq2
        go_wp2
        clear hmin2
        go_loopw [6, 25] (fun s i wr2 => ∃ m : Nat, m ≤ q2 ∧ i = .int .i64 m ∧ s = .string (Lx.bs (Lx.madeL (l.take m))) ∧ wr = wr2) (fun _ i _ => q2 - (intOf i).toNat)
        case atStart => exact ⟨0, by omega, rfl, rfl, by first | rfl | trivial⟩
        case round =>
          obtain ⟨m, hm, rfl, rfl, rfl⟩ := hrel
          have hSs : (Lx.bs (Lx.madeL (l.take m))).size ≤ 12 := by rw [Lx.size_bs]; exact Lx.madeL_len _
          by_cases hmq : m < q2
          · have c1 := (HB.out.cell (p := ⟨b2, off2 + m, none⟩) hb2).trans (HC2.out m l[m] (List.getElem?_eq_getElem (by omega)))
            have hml := Lx.madeL_next l m (by omega) (by omega)
            have hm0 : (0 : Int) ≤ (m : Int) := by omega
            have hm1 : (m : Int) < (q2 : Int) := by omega
            have hxb := l[m].toNat_lt
            obtain ⟨kk, hkk, hkk2, hkk3⟩ : ∃ kk : Nat, (l[m].toNat : Int) % 20 = (kk : Int) ∧ kk < 20 ∧ l[m].toNat % 20 = kk := ⟨l[m].toNat % 20, by omega, by omega, rfl⟩
            have hle := Lx.letter_ext kk hkk2
            have hx0 : (0 : Int) ≤ (l[m].toNat : Int) := by omega
            have hx1 : (l[m].toNat : Int) < 256 := by omega
            have hkk0 : (0 : Int) ≤ (kk : Int) := by omega
            have hkk20 : (kk : Int) ≤ 20 := by omega
            have hkk1 : (1 : Int) ≤ 20 - (kk : Int) := by omega
            rw [hkk3] at hml
            have happ : Lx.bs (Lx.madeL (l.take m)) ++ Lx.bs [Lx.letter kk] = Lx.bs (Lx.madeL (l.take (m + 1))) := by rw [hml, app_bs5]
            have HA := Lib.hid happ
            have hone : (Lx.bs [Lx.letter kk]).size = 1 := Lx.size_bs _
            have q1 : ¬ 9223372036854775807 < (Lx.bs (Lx.madeL (l.take m))).size + (Lx.bs [Lx.letter kk]).size := by omega
            generalize Lx.bs (Lx.madeL (l.take m)) = S at *
            clear happ hml hkk3 hxb
            generalize (l[m].toNat : Int) = x at *
            go_wp2
            go_roundw
            case rel => exact ⟨m + 1, by omega, by go_num, by first | exact congrArg Value.string HA.out | (rw [HA.out]; done), by first | rfl | trivial⟩
            case measure => simp [intOf] <;> omega
          · obtain rfl : m = q2 := by omega
            have hS := Lx.madeL_all l
            rw [HQ2.out] at hS
            have hS2 : Lx.bs (Lx.madeL l) = Lx.bs (Lx.madeL (l.take m)) := by rw [hS]
            have HS := Lib.hid hS2
            clear hS hS2
            generalize Lx.bs (Lx.madeL (l.take m)) = S at *
            go_wp2_with (at_builtin; refine wpList_append_lies _ rfl _ _ 23 rfl W0.heap.size 9 i0 (.string ⟨#[]⟩) 1 16 undS hi0 hy0 hy1 hy2 rfl (by decide) _ k (strV ((Lx.made (D.take k)).map Lx.bs)) rfl (HO.out.alloc _) ⟨wr.heap.size, 0, none⟩ 1 1 [.string S] rfl rfl (World.news_of_block (cs := #[.string S]) (t := 9) (fr := (0, 0)) (heap_alloc_new wr _)) (by simp [Value.oneCell']) (by omega) (by unfold maxLen; omega) (by omega) (by simp; omega) (wr.heap.size + 1) (by simp) ?_; intro gg cap3 w1 hown1 hgrow hat hlt1)
            have HB1 := Lib.hid (app_below HB.out hz HO.out hgrow)
            have HO1 := Lib.hid hown1
            clear hown1 hgrow hat hlt1
            go_wp2
            go_roundw
            case rel =>
              refine ⟨k + 1, by omega, by go_num, HB1.out, ?_⟩
              have := HO1.out
              rw [← HS.out, strV_snoc, ← HNX.out] at this
              exact this
            case measure => simp [intOf] <;> omega
    · obtain rfl : k = q := by omega
      have hm := Lx.made_all D
      rw [HN.out, HQ.out] at hm
      have hown := HO.out
      rw [hm] at hown
      have hml : ((Lx.made D).map Lx.bs).length = k := by
        rw [List.length_map]; unfold Lx.made; rw [List.length_map, List.length_take, HN.out]; have := HQ.out; omega
      have hst := own_Strs (L := (Lx.made D).map Lx.bs) (by rw [hml]; exact hown)
      have HST := Lib.hid hst
      clear hm hown hml hst
      go_wp2
      go_ret
      exact ⟨_, rfl, HST.out, HB.out⟩
theorem made_nil (a : Option Addr) (cap : Nat) (W0 : World) : Calls Tryd.prog 21 #[.slice a 0 cap] W0 fun e w' => ∃ u, e = .returned u ∧ Strs w' u [] ∧ Below W0.heap.size W0 w' := by
  cases a with
  | none =>
    go_enter Tryd.func21, Tryd.ntmps21
    go_wp2
    go_loopw [3, 15] (fun v i wr => v = .slice none 0 0 ∧ i = .int .i64 0 ∧ W0 = wr) (fun _ _ _ => 0)
    case atStart => exact ⟨rfl, rfl, by first | rfl | trivial⟩
    case round =>
      obtain ⟨rfl, rfl, rfl⟩ := hrel
      go_wp2
      go_ret
      exact ⟨_, rfl, .inl ⟨_, _, rfl, rfl⟩, Below.refl _ _⟩
  | some a =>
    go_enter Tryd.func21, Tryd.ntmps21
    go_wp2
    go_loopw [3, 15] (fun v i wr => v = .slice none 0 0 ∧ i = .int .i64 0 ∧ W0 = wr) (fun _ _ _ => 0)
    case atStart => exact ⟨rfl, rfl, by first | rfl | trivial⟩
    case round =>
      obtain ⟨rfl, rfl, rfl⟩ := hrel
      go_wp2
      go_ret
      exact ⟨_, rfl, .inl ⟨_, _, rfl, rfl⟩, Below.refl _ _⟩
theorem made_any (v : Value) (D : List (List UInt8)) (W0 : World) (hI : Drf W0 v D) : Calls Tryd.prog 21 #[v] W0 fun e w' => ∃ u, e = .returned u ∧ Strs w' u ((Lx.made D).map Lx.bs) ∧ Below W0.heap.size W0 w' := by
  rcases hI with ⟨a, cap, rfl, rfl⟩ | ⟨b, off, cap, rfl, hp, hb, hc⟩
  · exact made_nil a cap W0
  · exact made_core b off cap D.length D rfl W0 hb hc hp.2 _ rfl
end Go.Proofs.YtlekbbggbfhgaaaDoor
