/- The document's answers about words: small. -/
import Derived.Test.YtedcfnaphfgfjaaDoorWdf
import Derived.Laws.OwnMore
import Derived.Deep.LoopGhost
namespace Go.Proofs.YtedcfnaphfgfjaaDoor
open Go.RowKit
/-- the small letter of a byte, as a byte -/
def sm8 (c : UInt8) : UInt8 := if 65 ≤ c.toNat ∧ c.toNat ≤ 90 then c + 32 else c
theorem sm8_nat (c : UInt8) : (sm8 c).toNat = Wd.sm c.toNat := by
  unfold sm8
  by_cases h : 65 ≤ c.toNat ∧ c.toNat ≤ 90
  · rw [if_pos h, Wd.sm_yes _ h, UInt8.toNat_add]
    show (c.toNat + 32) % 256 = _
    omega
  · rw [if_neg h, Wd.sm_no _ h]
theorem sm8_low (l : List UInt8) : Wd.nats (l.map sm8) = Wd.low l := by
  simp only [Wd.nats, Wd.low, List.map_map]
  congr 1
  funext c
  exact sm8_nat c
theorem conv_own8 (B : Nat) (lv : Value) (L : List UInt8) (wx : World) (h : wx.ownsRow B 5 1 lv L.length (bytV L)) : (convert 38 9 lv).run Tryd.prog wx = .ok (.string ⟨L.toArray⟩) wx := by
  rcases h.2 with ⟨rfl, e⟩ | ⟨g, cap, cur, rfl, hB, hg, hcap, _, _, ht⟩
  · obtain rfl := List.eq_nil_of_length_eq_zero e
    exact run_convert_bytes_nil (P := Tryd.prog) (w := wx) 38 5 Tryd.underlying38 Tryd.underlying5 0 0 9 Tryd.underlying9
  · refine run_convert_bytes_back (P := Tryd.prog) wx 38 9 5 ⟨g, 0, none⟩ cap L Tryd.underlying38 Tryd.underlying5 Tryd.underlying9 ?_
    intro j hj
    exact h.cells (g := g) rfl j _ (by simp [bytV, hj])
theorem app_below8 {B : Nat} {W0 w w1 : World} {v : Value} {e : TypeId} {s n : Nat} {xs : List Value} {O : Obj} (hb : Below B W0 w) (hB : B ≤ w.heap.size) (ho : w.ownsRow B e s v n xs) (hg : (w.alloc O).grownBy w1 v.ownBlock) : Below B W0 w1 :=
  (hb.alloc hB O).grown hg (by simp; omega) (fun k hk => (ho.lt k hk).1)
theorem take_snoc (s : ByteArray) (k : Nat) (hk : k < s.size) : s.data.toList.take (k + 1) = s.data.toList.take k ++ [s[k]] := by
  have hl : k < s.data.toList.length := by rw [Array.length_toList]; exact hk
  rw [List.take_add_one, List.getElem?_eq_getElem hl]
  rfl
/-- the first bytes, with small letters -/
def lowB (s : ByteArray) (k : Nat) : List UInt8 := (s.data.toList.take k).map sm8
theorem lowB_succ (s : ByteArray) (k : Nat) (hk : k < s.size) : bytV (lowB s (k + 1)) = bytV (lowB s k) ++ [.int .u8 ((sm8 s[k]).toNat : Int)] := by
  rw [lowB, take_snoc s k hk, List.map_append, bytV, List.map_append]; rfl
theorem lowB_all (s : ByteArray) : lowB s s.size = s.data.toList.map sm8 := by
  have h : s.data.toList.length = s.size := by rw [Array.length_toList]; rfl
  rw [lowB, List.take_of_length_le (by omega)]
theorem news8 (w : World) (x : Value) (t : TypeId) : ∀ (j : Nat) (u : Value), [x][j]? = some u → (w.alloc (.cells #[x] t)).cell? ((⟨w.heap.size, 0, none⟩ : Addr).add j) = some u := by
  intro j u hj
  match j, hj with
  | 0, hj => simp at hj; subst hj; simp [Addr.add]
theorem one8 (x : Int) : ∀ u ∈ [Value.int .u8 x], u.oneCell' = true := by intro u hu; simp at hu; subst hu; rfl
theorem own_form8 {w : World} {B : Nat} {e : TypeId} {s n : Nat} {v : Value} {xs : List Value} (h : w.ownsRow B e s v n xs) : ∃ a c, v = .slice a n c := by
  rcases h.2 with ⟨rfl, rfl⟩ | ⟨g, cap, cur, rfl, _⟩
  · exact ⟨_, _, rfl⟩
  · exact ⟨_, _, rfl⟩
set_option maxRecDepth 100000 in
set_option maxHeartbeats 2000000 in
theorem rsmall_any (s : ByteArray) (hs : s.size ≤ 100000) (S : ByteArray) (hS : Hid ((⟨(s.data.toList.map sm8).toArray⟩ : ByteArray) = S)) (W0 : World) :
    Calls Tryd.prog 61 #[.string s] W0 fun e w' => e = .returned (.string S) ∧ Below W0.heap.size W0 w' := by
  obtain ⟨i0, hi0, hy0, hy1, hy2⟩ := info_parts infoB
  go_enter Tryd.func61, Tryd.ntmps61
  go_wp2
  go_loopw [3, 4] (fun v i wr => ∃ k : Nat, k ≤ s.size ∧ i = .int .i64 k ∧ Below W0.heap.size W0 wr ∧ wr.ownsRow W0.heap.size 5 1 v k (bytV (lowB s k))) (fun _ i _ => s.size - (intOf i).toNat)
  case atStart => exact ⟨0, by omega, rfl, Below.refl _ _, World.ownsRow_nil _ _ _ _⟩
  case round =>
    obtain ⟨k, hk, rfl, hb, hown⟩ := hrel
    have HB := Lib.hid hb
    have HO := Lib.hid hown
    have hz := hb.size
    clear hb hown
    by_cases hkl : k < s.size
    · have hts := lowB_succ s k hkl
      have hc := s[k].toNat_lt
      have hk0 : (0 : Int) ≤ (k : Int) := by omega
      have hk1 : (k : Int) < (s.size : Int) := by omega
      have hzz : k + 1 ≤ maxLen ∧ (k + 1) * 1 ≤ 140737488355328 ∧ (∀ O, W0.heap.size ≤ (wr.alloc O).heap.size) := ⟨by unfold maxLen; omega, by omega, fun O => by simp; omega⟩
      have Z := Lib.hid hzz
      have HT := Lib.hid hts
      clear hts hzz
      by_cases hu : 65 ≤ s[k].toNat ∧ s[k].toNat ≤ 90
      · have q1 : (65 : Int) ≤ (s[k].toNat : Int) := by omega
        have q2 : (s[k].toNat : Int) ≤ 90 := by omega
        have hv : ((s[k].toNat : Int) + 97 - 65) = ((sm8 s[k]).toNat : Int) := by rw [sm8_nat, Wd.sm_yes _ hu]; omega
        go_wp2_with (at_builtin; refine wpList_append_own _ rfl _ _ 38 rfl W0.heap.size 5 i0 (.int .u8 0) 1 1 undB hi0 hy0 hy1 hy2 rfl (by decide) _ _ _ rfl (HO.out.alloc _) ⟨wr.heap.size, 0, none⟩ 1 1 [.int .u8 ((sm8 s[k]).toNat : Int)] rfl rfl (news8 wr _ _) (one8 _) Z.out.1 Z.out.2.1 (Z.out.2.2 _) ?_)
        intro v' w4 hown' hgrow _
        have hb4 := app_below8 HB.out hz HO.out hgrow
        have how2 : w4.ownsRow W0.heap.size 5 1 v' (k + 1) (bytV (lowB s (k + 1))) := by rw [HT.out]; exact hown'
        have HB4 := Lib.hid hb4
        have HO4 := Lib.hid how2
        clear hown' hgrow hb4 how2
        go_wp2
        go_roundw
        case rel => exact ⟨k + 1, by omega, by go_num, HB4.out, HO4.out⟩
        case measure => simp [intOf] <;> omega
      · have hv : sm8 s[k] = s[k] := by unfold sm8; rw [if_neg hu]
        have HV := Lib.hid hv
        have hq : (s[k].toNat < 65) ∨ (65 ≤ s[k].toNat ∧ 90 < s[k].toNat) := by omega
        clear hu hv
        rcases hq with hq | ⟨hq1, hq2⟩
        · have q1 : ¬ (65 : Int) ≤ (s[k].toNat : Int) := by omega
          go_wp2_with (at_builtin; refine wpList_append_own _ rfl _ _ 38 rfl W0.heap.size 5 i0 (.int .u8 0) 1 1 undB hi0 hy0 hy1 hy2 rfl (by decide) _ _ _ rfl (HO.out.alloc _) ⟨wr.heap.size, 0, none⟩ 1 1 [.int .u8 (s[k].toNat : Int)] rfl rfl (news8 wr _ _) (one8 _) Z.out.1 Z.out.2.1 (Z.out.2.2 _) ?_)
          intro v' w4 hown' hgrow _
          have hb4 := app_below8 HB.out hz HO.out hgrow
          have how2 : w4.ownsRow W0.heap.size 5 1 v' (k + 1) (bytV (lowB s (k + 1))) := by rw [HT.out]; rw [HV.out]; exact hown'
          have HB4 := Lib.hid hb4
          have HO4 := Lib.hid how2
          clear hown' hgrow hb4 how2
          go_wp2
          go_roundw
          case rel => exact ⟨k + 1, by omega, by go_num, HB4.out, HO4.out⟩
          case measure => simp [intOf] <;> omega
        · have q1 : (65 : Int) ≤ (s[k].toNat : Int) := by omega
          have q2 : ¬ (s[k].toNat : Int) ≤ 90 := by omega
          go_wp2_with (at_builtin; refine wpList_append_own _ rfl _ _ 38 rfl W0.heap.size 5 i0 (.int .u8 0) 1 1 undB hi0 hy0 hy1 hy2 rfl (by decide) _ _ _ rfl (HO.out.alloc _) ⟨wr.heap.size, 0, none⟩ 1 1 [.int .u8 (s[k].toNat : Int)] rfl rfl (news8 wr _ _) (one8 _) Z.out.1 Z.out.2.1 (Z.out.2.2 _) ?_)
          intro v' w4 hown' hgrow _
          have hb4 := app_below8 HB.out hz HO.out hgrow
          have how2 : w4.ownsRow W0.heap.size 5 1 v' (k + 1) (bytV (lowB s (k + 1))) := by rw [HT.out]; rw [HV.out]; exact hown'
          have HB4 := Lib.hid hb4
          have HO4 := Lib.hid how2
          clear hown' hgrow hb4 how2
          go_wp2
          go_roundw
          case rel => exact ⟨k + 1, by omega, by go_num, HB4.out, HO4.out⟩
          case measure => simp [intOf] <;> omega
    · obtain rfl : k = s.size := by omega
      have hlen : (s.data.toList.map sm8).length = s.size := by rw [List.length_map, Array.length_toList]; rfl
      have how := HO.out
      rw [lowB_all] at how
      obtain ⟨va, vc, rfl⟩ := own_form8 how
      have hcv := conv_own8 W0.heap.size _ (s.data.toList.map sm8) wr (by rw [hlen]; exact how)
      rw [hS.out] at hcv
      clear how hlen HO hk hkl
      go_wp2
      go_ret
      exact ⟨rfl, HB.out⟩
end Go.Proofs.YtedcfnaphfgfjaaDoor
