/- The document's answers about words: find. -/
import Derived.Test.YtedcfnaphfgfjaaDoorRef08
namespace Go.Proofs.YtedcfnaphfgfjaaDoor
open Go.RowKit
namespace Wd
/-- what find answers, of the words that are left -/
def rf (s : List Nat) : List (List Nat) → Nat → Nat → Int → Int × Int
  | [], _, n, f => if n = 1 then (f, 0) else (0, 8)
  | w :: ws, i, n, f => if w = s then ((i : Int), 0) else if s ≠ [] ∧ s.length < w.length ∧ pre s w = true then rf s ws (i + 1) (n + 1) (i : Int) else rf s ws (i + 1) n f
theorem pre_of_take : ∀ (s w : List Nat), s = w.take s.length → pre s w = true
  | [], _, _ => by simp [pre]
  | a :: s, [], h => by simp at h
  | a :: s, b :: w, h => by
    simp only [List.length_cons, List.take_succ_cons, List.cons.injEq] at h
    obtain ⟨rfl, h⟩ := h
    simp only [pre, Bool.and_eq_true, Nat.beq_eq, true_and]
    exact pre_of_take s w h
theorem nats_inj : ∀ (a b : List UInt8), nats a = nats b → a = b
  | [], [], _ => rfl
  | [], _ :: _, h => by simp [nats] at h
  | _ :: _, [], h => by simp [nats] at h
  | x :: a, y :: b, h => by
    simp only [nats, List.map_cons, List.cons.injEq] at h
    rw [UInt8.toNat_inj.1 h.1, nats_inj a b h.2]
end Wd
set_option maxRecDepth 100000 in
set_option maxHeartbeats 2000000 in
theorem rfind_any (s : ByteArray) (hs : s.size ≤ 100000) (L : List ByteArray) (hL : L.length ≤ 100) (hsz : ∀ x ∈ L, x.size ≤ 1000) (r1 r2 : Int) (hr : Hid (Wd.rf (Wd.low s.data.toList) (wl L) 0 0 (-1) = (r1, r2)))
    (b n : Nat) (hn : n = L.length) (W0 : World) (hc : Cs W0 b (strV L)) :
    Calls Tryd.prog 43 #[.slice (some ⟨b, 0, none⟩) n n, .string s] W0 fun e w' => e = .returned (.tuple #[.int .i64 r1, .int .i64 r2]) ∧ Below W0.heap.size W0 w' := by
  subst hn
  obtain ⟨S, hS⟩ : ∃ S : ByteArray, (⟨(s.data.toList.map sm8).toArray⟩ : ByteArray) = S := ⟨_, rfl⟩
  have hd : S.data.toList = s.data.toList.map sm8 := by rw [← hS]
  have hl : Wd.low s.data.toList = Wd.nats S.data.toList := by rw [hd, sm8_low]
  have hSz : S.data.toList.length = S.size := by rw [Array.length_toList]; rfl
  have hSs : S.size ≤ 100000 := by rw [← hSz, hd, List.length_map, Array.length_toList]; exact hs
  rw [hl] at hr
  have HS := Lib.hid hS
  have HC := Lib.hid hc
  have HZ := Lib.hid hSz
  clear hS hd hl hc hSz
  go_enter Tryd.func43, Tryd.ntmps43
  go_wp2_with fail
  refine (rsmall_any s hs S HS W0).mono ?_
  rintro e w1 ⟨rfl, hb⟩
  have HB := Lib.hid hb
  have HC1 := Cs.hbl HC hb
  clear hb HC
  go_wp2
  go_loopw [6, 7, 8] (fun f n i wr => ∃ (k m : Nat) (g : Int), k ≤ L.length ∧ m ≤ k ∧ f = .int .i64 g ∧ n = .int .i64 m ∧ i = .int .i64 k ∧ w1 = wr ∧ Hid (Wd.rf (Wd.nats S.data.toList) ((wl L).drop k) k m g = (r1, r2))) (fun _ _ i _ => L.length - (intOf i).toNat)
  case atStart => exact ⟨0, 0, -1, by omega, by omega, rfl, rfl, rfl, rfl, hr⟩
  case round =>
    obtain ⟨k, m, g, hk, hm, rfl, rfl, rfl, rfl, HR⟩ := hrel
    clear hr
    by_cases hkl : k < L.length
    · have hx : L[k]? = some (L[k]) := List.getElem?_eq_getElem hkl
      have hxs := hsz _ (List.getElem_mem hkl)
      generalize L[k] = x at *
      have c0 := HC1.out.at k (strV_at L k _ hx)
      have hdr : (wl L).drop k = Wd.nats x.data.toList :: (wl L).drop (k + 1) := by
        have h1 : (wl L)[k]? = some (Wd.nats x.data.toList) := by rw [wl, List.getElem?_map, hx]; rfl
        obtain ⟨h2, h3⟩ := List.getElem?_eq_some_iff.1 h1
        rw [List.drop_eq_getElem_cons h2, h3]
      have hq := HR.out
      rw [hdr] at hq
      have hxl : x.data.toList.length = x.size := by rw [Array.length_toList]; rfl
      have hk0 : (0 : Int) ≤ (k : Int) := by omega
      have hk1 : (k : Int) < (L.length : Int) := by omega
      have hSz := HZ.out
      clear hdr hx
      rw [Wd.rf] at hq
      by_cases hA : x = S
      · subst hA
        rw [if_pos rfl] at hq
        obtain ⟨rfl, rfl⟩ := Prod.mk.inj hq
        have he : (x.toList == x.toList) = true := by simp
        clear hq hxl hSz
        go_wp2
        go_ret2
        exact ⟨rfl, HB.out⟩
      · have hne : ¬ Wd.nats x.data.toList = Wd.nats S.data.toList := fun e => hA (by
          have := Wd.nats_inj _ _ e
          cases x; cases S
          simp only [ByteArray.mk.injEq]
          exact Array.toList_inj.1 this)
        have he : (x.toList == S.toList) = false := by
          rw [ByteArray.toList_eq, ByteArray.toList_eq, beq_eq_false_iff_ne]
          exact fun e => hne (by rw [e])
        rw [if_neg hne] at hq
        clear hA hne
        by_cases hd : S.data.toList = []
        ·
          have h1 : S.toList.isEmpty = true := by rw [isEmpty_of, hd]; rfl
          have hz : Wd.nats S.data.toList = [] := by rw [hd]; rfl
          rw [if_neg (fun h => h.1 hz)] at hq
          have HQ := Lib.hid hq
          clear hq hd hz hxl hSz
          go_wp2
          go_roundw
          case rel => exact ⟨k + 1, m, g, by omega, by omega, rfl, rfl, by go_num, by first | rfl | trivial, HQ⟩
          case measure => simp [intOf] <;> omega
        ·
          have h1 : S.toList.isEmpty = false := by rw [isEmpty_of, List.isEmpty_eq_false_iff]; exact hd
          have hz : Wd.nats S.data.toList ≠ [] := fun e => hd (List.map_eq_nil_iff.1 e)
          clear hd
          have hns : (Wd.nats S.data.toList).length = S.size := by rw [Wd.nats_len]
          have hnx : (Wd.nats x.data.toList).length = x.size := by rw [Wd.nats_len]
          rw [hns, hnx] at hq
          by_cases h2 : S.size < x.size
          · have g2 : (S.size : Int) < (x.size : Int) := by omega
            have g3 : (S.size : Int) ≤ (x.size : Int) := by omega
            have hex : (x.extract 0 S.size).data.toList = x.data.toList.take S.size := by rw [Lib.extract_data]; rfl
            by_cases h3 : Wd.pre (Wd.nats S.data.toList) (Wd.nats x.data.toList) = true
            · rw [if_pos ⟨hz, h2, h3⟩] at hq
              have he2 : ((x.extract 0 S.size).toList == S.toList) = true := by
                rw [ByteArray.toList_eq, ByteArray.toList_eq, hex, beq_iff_eq]
                refine Wd.nats_inj _ _ ?_
                have := Wd.pre_take _ _ h3
                rw [hns] at this
                rw [this, Wd.nats, Wd.nats, List.map_take]
              have HQ := Lib.hid hq
              clear hq hz hxl hSz hns hnx hex h3 h2
              go_wp2
              go_roundw
              case rel => exact ⟨k + 1, m + 1, k, by omega, by omega, rfl, by go_num, by go_num, by first | rfl | trivial, HQ⟩
              case measure => simp [intOf] <;> omega
            · rw [if_neg (fun h => h3 h.2.2)] at hq
              have he2 : ((x.extract 0 S.size).toList == S.toList) = false := by
                rw [ByteArray.toList_eq, ByteArray.toList_eq, hex, beq_eq_false_iff_ne]
                intro e
                refine h3 (Wd.pre_of_take _ _ ?_)
                rw [hns, ← e, Wd.nats, Wd.nats, List.map_take]
              have HQ := Lib.hid hq
              clear hq hz hxl hSz hns hnx hex h3 h2
              go_wp2
              go_roundw
              case rel => exact ⟨k + 1, m, g, by omega, by omega, rfl, rfl, by go_num, by first | rfl | trivial, HQ⟩
              case measure => simp [intOf] <;> omega
          · have g2 : ¬ (S.size : Int) < (x.size : Int) := by omega
            rw [if_neg (fun h => h2 h.2.1)] at hq
            have HQ := Lib.hid hq
            clear hq hz hxl hSz hns hnx h2
            go_wp2
            go_roundw
            case rel => exact ⟨k + 1, m, g, by omega, by omega, rfl, rfl, by go_num, by first | rfl | trivial, HQ⟩
            case measure => simp [intOf] <;> omega
    · obtain rfl : k = L.length := by omega
      have hdr : (wl L).drop L.length = [] := List.drop_eq_nil_of_le (by rw [wl, List.length_map]; exact Nat.le_refl _)
      have hq := HR.out
      rw [hdr, Wd.rf] at hq
      by_cases h1 : m = 1
      · rw [if_pos h1] at hq
        obtain ⟨rfl, rfl⟩ := Prod.mk.inj hq
        have h2 : ((m : Int) != 1) = false := by rw [h1]; rfl
        clear hq h1 hdr
        go_wp2
        go_ret2
        exact ⟨rfl, HB.out⟩
      · rw [if_neg h1] at hq
        obtain ⟨rfl, rfl⟩ := Prod.mk.inj hq
        have h2 : ((m : Int) != 1) = true := by simp; omega
        clear hq h1 hdr
        go_wp2
        go_ret2
        exact ⟨rfl, HB.out⟩
end Go.Proofs.YtedcfnaphfgfjaaDoor
