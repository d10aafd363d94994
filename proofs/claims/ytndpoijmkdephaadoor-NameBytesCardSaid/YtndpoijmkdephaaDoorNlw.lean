/- Names that are made by numbers: contracts of Letters, part, Zone. -/
import Derived.Test.YtndpoijmkdephaaDoorNl
import Derived.Test.YtndpoijmkdephaaDoorOpen5
import Derived.Test.YtndpoijmkdephaaDoorShelf
namespace Go.Proofs.YtndpoijmkdephaaDoor
open Go.RowKit
theorem Nm.app_bs (a b : List UInt8) : Lx.bs a ++ Lx.bs b = Lx.bs (a ++ b) := by
  show ByteArray.append _ _ = _
  simp [ByteArray.append, Lx.bs]
theorem Nm.ext_one (l : List UInt8) (n : Nat) (h : n < l.length) : (Lx.bs l).extract n (n + 1) = Lx.bs [l[n]] := by
  have e : ((Lx.bs l).extract n (n + 1)).data.toList = [l[n]] := by
    rw [Lib.extract_data, Lx.data_bs, show n + 1 - n = 1 by omega, List.drop_eq_getElem_cons h]; rfl
  rw [← Lx.bs_data ((Lx.bs l).extract n (n + 1)), e]
theorem Nm.abc_one (n : Nat) (h : n < 52) : (Lx.bs Nm.abc).extract n (n + 1) = Lx.bs [Nm.abc.getD n 0] := by
  rw [Nm.ext_one _ _ (by simpa [Nm.abc] using h), List.getD_eq_getElem?_getD, List.getElem?_eq_getElem (by simpa [Nm.abc] using h)]; rfl
theorem Nm.pbs_one (n : Nat) (h : n < 26) : (Lx.bs Nm.pbs).extract n (n + 1) = Lx.bs [Nm.pbs.getD n 0] := by
  rw [Nm.ext_one _ _ (by simpa [Nm.pbs] using h), List.getD_eq_getElem?_getD, List.getElem?_eq_getElem (by simpa [Nm.pbs] using h)]; rfl
set_option maxHeartbeats 1000000 in
theorem letters7_core (b off cap n : Nat) (zs : List UInt8) (hn : zs.length = n) (hn0 : n ≤ maxLen) (a m : Nat) (hm : m ≤ 1000) (ha : a ≤ 1000) (w : World) (hc : ∀ j x, zs[j]? = some x → w.cell? ⟨b, off + j, none⟩ = some (.int .u8 (x.toNat : Int))) :
    Calls Tryd.prog 19 #[.slice (some ⟨b, off, none⟩) n cap, .int .i64 (a : Int), .int .i64 (m : Int)] w fun e w' => e = .returned (.string (Lx.bs (Nm.letS zs a m))) ∧ w = w' := by
  unfold maxLen at hn0
  have HC := Lib.hid hc
  have HN := Lib.hid hn
  have HM := Lib.hid (show min m (max n a) = min m (max zs.length a) by rw [hn])
  clear hc hn
  go_enter Tryd.func19, Tryd.ntmps19
  go_wp2
  go_loopw [7, 8] (fun o i wr => ∃ k : Nat, k ≤ min m (max n a) ∧ o = .string (Lx.bs (Nm.lt zs k)) ∧ i = .int .i64 k ∧ w = wr) (fun _ i _ => min m (max n a) - (intOf i).toNat)
  case atStart => exact ⟨0, by omega, rfl, rfl, by first | rfl | trivial⟩
  case round =>
    obtain ⟨k, hk, rfl, rfl, rfl⟩ := hrel
    have hk0 : (0 : Int) ≤ (k : Int) := by omega
    by_cases h1 : k < m
    · have q1 : (k : Int) < (m : Int) := by omega
      by_cases h2 : k < n
      · have q2 : (k : Int) < (n : Int) := by omega
        have hkz : k < zs.length := by rw [HN.out]; exact h2
        have c0 := HC.out k zs[k] (List.getElem?_eq_getElem hkz)
        have hx := zs[k].toNat_lt
        have hone := Nm.abc_one (zs[k].toNat % 52) (Nat.mod_lt _ (by decide))
        have hsn : Lx.bs (Nm.lt zs k) ++ Lx.bs [Nm.abc.getD (zs[k].toNat % 52) 0] = Lx.bs (Nm.lt zs (k + 1)) := by
          rw [Nm.app_bs, Nm.lt_snoc]
          congr 2
          unfold Nm.letc Nm.letb
          rw [List.getElem?_eq_getElem hkz]
        have hz : (Lx.bs (Nm.lt zs k)).size = k := by rw [Lx.size_bs, Nm.lt_len]
        generalize zs[k].toNat = x at *
        generalize hS : Lx.bs (Nm.lt zs k) = S at *
        have HO := Lib.hid hone
        have HS := Lib.hid hsn
        clear hone hsn hS
        go_wp2
        refine ⟨⟨k + 1, by omega, ?_, by go_num, by first | rfl | trivial⟩, by simp [intOf]; omega⟩
        rw [← HS.out, ← HO.out]; rfl
      · have q2 : ¬ (k : Int) < (n : Int) := by omega
        by_cases h3 : k < a
        · have q3 : (k : Int) < (a : Int) := by omega
          have hone := Nm.abc_one (k * 7 % 256 % 52) (Nat.mod_lt _ (by decide))
          have hsn : Lx.bs (Nm.lt zs k) ++ Lx.bs [Nm.abc.getD (k * 7 % 256 % 52) 0] = Lx.bs (Nm.lt zs (k + 1)) := by
            rw [Nm.app_bs, Nm.lt_snoc]
            congr 2
            unfold Nm.letc Nm.letb
            rw [List.getElem?_eq_none (by rw [HN.out]; omega)]
          have hz : (Lx.bs (Nm.lt zs k)).size = k := by rw [Lx.size_bs, Nm.lt_len]
          generalize hS : Lx.bs (Nm.lt zs k) = S at *
          have HO := Lib.hid hone
          have HS := Lib.hid hsn
          have hy : ((k : Int) * 7) % 256 = ((k * 7 % 256 : Nat) : Int) := by omega
          have hy2 : k * 7 % 256 < 256 := by omega
          generalize k * 7 % 256 = y at *
          clear hone hsn hS
          go_wp2
          refine ⟨⟨k + 1, by omega, ?_, by go_num, by first | rfl | trivial⟩, by simp [intOf]; omega⟩
          rw [← HS.out, ← HO.out]; rfl
        · have q3 : ¬ (k : Int) < (a : Int) := by omega
          have HE : Hid (Nm.letS zs a m = Nm.lt zs k) := Lib.hid (by unfold Nm.letS; congr 1; have := HN.out; omega)
          go_wp2
          go_ret
          exact ⟨by rw [HE.out]; rfl, rfl⟩
    · have q1 : ¬ (k : Int) < (m : Int) := by omega
      have HE : Hid (Nm.letS zs a m = Nm.lt zs k) := Lib.hid (by unfold Nm.letS; congr 1; have := HN.out; omega)
      go_wp2
      go_ret
      exact ⟨by rw [HE.out]; rfl, rfl⟩
theorem letters7_nil (a0 : Option Addr) (cap : Nat) (a m : Nat) (hm : m ≤ 1000) (ha : a ≤ 1000) (w : World) :
    Calls Tryd.prog 19 #[.slice a0 0 cap, .int .i64 (a : Int), .int .i64 (m : Int)] w fun e w' => e = .returned (.string (Lx.bs (Nm.letS [] a m))) ∧ w = w' := by
  go_enter Tryd.func19, Tryd.ntmps19
  go_wp2
  go_loopw [7, 8] (fun o i wr => ∃ k : Nat, k ≤ min m a ∧ o = .string (Lx.bs (Nm.lt [] k)) ∧ i = .int .i64 k ∧ w = wr) (fun _ i _ => min m a - (intOf i).toNat)
  case atStart => exact ⟨0, by omega, rfl, rfl, by first | rfl | trivial⟩
  case round =>
    obtain ⟨k, hk, rfl, rfl, rfl⟩ := hrel
    have hk0 : (0 : Int) ≤ (k : Int) := by omega
    have q2 : ¬ (k : Int) < 0 := by omega
    by_cases h1 : k < m
    · have q1 : (k : Int) < (m : Int) := by omega
      by_cases h3 : k < a
      · have q3 : (k : Int) < (a : Int) := by omega
        have hone := Nm.abc_one (k * 7 % 256 % 52) (Nat.mod_lt _ (by decide))
        have hsn : Lx.bs (Nm.lt [] k) ++ Lx.bs [Nm.abc.getD (k * 7 % 256 % 52) 0] = Lx.bs (Nm.lt [] (k + 1)) := by
          rw [Nm.app_bs, Nm.lt_snoc]
          rfl
        have hz : (Lx.bs (Nm.lt [] k)).size = k := by rw [Lx.size_bs, Nm.lt_len]
        generalize hS : Lx.bs (Nm.lt [] k) = S at *
        have HO := Lib.hid hone
        have HS := Lib.hid hsn
        have hy : ((k : Int) * 7) % 256 = ((k * 7 % 256 : Nat) : Int) := by omega
        have hy2 : k * 7 % 256 < 256 := by omega
        generalize k * 7 % 256 = y at *
        clear hone hsn hS
        go_wp2
        refine ⟨⟨k + 1, by omega, ?_, by go_num, by first | rfl | trivial⟩, by simp [intOf]; omega⟩
        rw [← HS.out, ← HO.out]; rfl
      · have q3 : ¬ (k : Int) < (a : Int) := by omega
        have HE : Hid (Nm.letS [] a m = Nm.lt [] k) := Lib.hid (by unfold Nm.letS; congr 1; simp; omega)
        go_wp2
        go_ret
        exact ⟨by rw [HE.out]; rfl, rfl⟩
    · have q1 : ¬ (k : Int) < (m : Int) := by omega
      have HE : Hid (Nm.letS [] a m = Nm.lt [] k) := Lib.hid (by unfold Nm.letS; congr 1; simp; omega)
      go_wp2
      go_ret
      exact ⟨by rw [HE.out]; rfl, rfl⟩
/-- Letters, at any slice of bytes -/
theorem letters7_any (v : Value) (zs : List UInt8) (hz : zs.length ≤ maxLen) (a m : Nat) (hm : m ≤ 1000) (ha : a ≤ 1000) (S : ByteArray) (hS : Lx.bs (Nm.letS zs a m) = S) (w : World) (hI : Byts w v zs) :
    Calls Tryd.prog 19 #[v, .int .i64 (a : Int), .int .i64 (m : Int)] w fun e w' => e = .returned (.string S) ∧ w = w' := by
  subst hS
  rcases hI with ⟨a0, cap, rfl, rfl⟩ | ⟨b, off, cap, rfl, hp0, hb, hc⟩
  · exact letters7_nil a0 cap a m hm ha w
  · exact letters7_core b off cap zs.length zs rfl hz a m hm ha w hc
theorem Nm.ne_bs {l : List UInt8} (h : l ≠ []) : (Lx.bs l).toList.isEmpty = false := by
  rw [ByteArray.toList_eq, Lx.data_bs]; simpa using h
theorem Nm.e_bs : (Lx.bs []).toList.isEmpty = true := by rw [ByteArray.toList_eq, Lx.data_bs]; rfl
set_option maxHeartbeats 1000000 in
theorem part7_core (b off cap n : Nat) (l : List UInt8) (hn : l.length = n) (hn0 : n ≤ maxLen) (hp : 0 < n) (q : Nat) (hq : min n 14 = q) (w : World) (hc : ∀ j x, l[j]? = some x → w.cell? ⟨b, off + j, none⟩ = some (.int .u8 (x.toNat : Int))) (hcap : n ≤ cap) :
    Calls Tryd.prog 29 #[.slice (some ⟨b, off, none⟩) n cap] w fun e w' => e = .returned (.string (Lx.bs (Nm.prtS l))) ∧ Dw w w' := by
  unfold maxLen at hn0
  have HC := Lib.hid hc
  have HN := Lib.hid hn
  have HQ := Lib.hid hq
  have hmin : min (n : Int) 14 = (q : Int) := by omega
  have hq0 : (0 : Int) ≤ (q : Int) := by omega
  have hqc : (q : Int) ≤ (cap : Int) := by omega
  have hq12 : q ≤ 14 := by omega
  have hqn : q ≤ n := by omega
  have hq1 : 0 < q := by omega
  have HE : Hid (Nm.prtS l = Nm.pt (l.take q)) := Lib.hid (by
    unfold Nm.prtS
    rw [if_neg (by intro e; rw [e] at hn; simp at hn; omega)]
    by_cases h : n ≤ 14
    · rw [List.take_of_length_le (by omega), List.take_of_length_le (by omega)]
    · rw [show q = 14 by omega])
  clear hc hn hq
  go_enter Tryd.func29, Tryd.ntmps29
  go_wp2
  clear hmin
  go_loopw [3, 13] (fun o i wr => ∃ k : Nat, k ≤ q ∧ o = .string (Lx.bs (Nm.pt (l.take k))) ∧ i = .int .i64 k ∧ Dw w wr) (fun _ i _ => q - (intOf i).toNat)
  case atStart => exact ⟨0, by omega, rfl, rfl, Dw.refl w⟩
  case round =>
    obtain ⟨k, hk, rfl, rfl, hdw⟩ := hrel
    have HD := Lib.hid hdw
    have hk0 : (0 : Int) ≤ (k : Int) := by omega
    by_cases h1 : k < q
    · have q1 : (k : Int) < (q : Int) := by omega
      have hkz : k < l.length := by rw [HN.out]; omega
      have c0 := (hdw.cell _).trans (HC.out k l[k] (List.getElem?_eq_getElem hkz))
      have hx := l[k].toNat_lt
      by_cases h0 : k = 0
      · have q3 : ((k : Int) == 0) = true := by simpa using h0
        have c1 : wr.cell? ⟨b, off, none⟩ = some (.int .u8 (l[k].toNat : Int)) := by rw [← c0, h0]; rfl
        have hone := Nm.pbs_one (l[k].toNat % 24) (by have := Nat.mod_lt l[k].toNat (show 24 > 0 by decide); omega)
        have hsn : Lx.bs (Nm.pt (l.take k)) ++ Lx.bs [Nm.pbs.getD (l[k].toNat % 24) 0] = Lx.bs (Nm.pt (l.take (k + 1))) := by
          rw [Nm.app_bs, Nm.pt_snoc _ _ hkz]
          congr 2
          unfold Nm.pbyte
          rw [if_pos h0]
        have hz : (Lx.bs (Nm.pt (l.take k))).size = k := by rw [Lx.size_bs, Nm.pt_len, List.length_take]; omega
        generalize l[k].toNat = x at *
        generalize hS : Lx.bs (Nm.pt (l.take k)) = S at *
        have HO := Lib.hid hone
        have HS := Lib.hid hsn
        clear hone hsn hS
        clear hdw
        go_wp2
        go_quiet (fail)
        go_wp2
        refine ⟨⟨k + 1, by omega, ?_, by rw [h0]; rfl, HD.out.drewN _⟩, by simp [intOf, h0]; omega⟩
        rw [← HS.out, ← HO.out]; rfl
      · have q3 : ((k : Int) == 0) = false := by simpa using h0
        have hone := Nm.pbs_one (l[k].toNat % 26) (by have := Nat.mod_lt l[k].toNat (show 26 > 0 by decide); omega)
        have hsn : Lx.bs (Nm.pt (l.take k)) ++ Lx.bs [Nm.pbs.getD (l[k].toNat % 26) 0] = Lx.bs (Nm.pt (l.take (k + 1))) := by
          rw [Nm.app_bs, Nm.pt_snoc _ _ hkz]
          congr 2
          unfold Nm.pbyte
          rw [if_neg h0]
        have hz : (Lx.bs (Nm.pt (l.take k))).size = k := by rw [Lx.size_bs, Nm.pt_len, List.length_take]; omega
        generalize l[k].toNat = x at *
        generalize hS : Lx.bs (Nm.pt (l.take k)) = S at *
        have HO := Lib.hid hone
        have HS := Lib.hid hsn
        clear hone hsn hS
        clear hdw
        go_wp2
        go_quiet (fail)
        go_wp2
        refine ⟨⟨k + 1, by omega, ?_, by go_num, HD.out.drewN _⟩, by simp [intOf]; omega⟩
        rw [← HS.out, ← HO.out]; rfl
    · obtain rfl : k = q := by omega
      clear hdw
      have hne := Nm.ne_bs (l := Nm.pt (l.take k)) (by intro e; have := congrArg List.length e; rw [Nm.pt_len, List.length_take, HN.out] at this; simp at this; omega)
      go_wp2
      go_ret
      exact ⟨by rw [HE.out]; rfl, HD.out⟩
theorem part7_nil (a0 : Option Addr) (cap : Nat) (w : World) :
    Calls Tryd.prog 29 #[.slice a0 0 cap] w fun e w' => e = .returned (.string (Lx.bs (Nm.prtS []))) ∧ Dw w w' := by
  cases a0
  all_goals
    go_enter Tryd.func29, Tryd.ntmps29
    go_wp2
    go_loopw [3, 13] (fun o i wr => o = .string ⟨#[]⟩ ∧ i = .int .i64 0 ∧ w = wr) (fun _ _ _ => 0)
    case atStart => exact ⟨rfl, rfl, by first | rfl | trivial⟩
    case round =>
      obtain ⟨rfl, rfl, rfl⟩ := hrel
      go_wp2
      go_ret
      exact ⟨rfl, Dw.refl w⟩
theorem part7_any (v : Value) (l : List UInt8) (hz : l.length ≤ maxLen) (S : ByteArray) (hS : Lx.bs (Nm.prtS l) = S) (w : World) (hI : Byts w v l) :
    Calls Tryd.prog 29 #[v] w fun e w' => e = .returned (.string S) ∧ Dw w w' := by
  subst hS
  rcases hI with ⟨a0, cap, rfl, rfl⟩ | ⟨b, off, cap, rfl, hp0, hb, hc⟩
  · exact part7_nil a0 cap w
  · exact part7_core b off cap l.length l rfl hz hp0.1 _ rfl w hc hp0.2
theorem Nm.zt_next (D : List (List UInt8)) (k : Nat) (h : k < D.length) (h0 : 0 < k) : Nm.zt (D.take (k + 1)) = Nm.zt (D.take k) ++ 47 :: Nm.prtS D[k] := by
  rw [List.take_succ_eq_append_getElem h]
  cases hD : D.take k with
  | nil => have := congrArg List.length hD; rw [List.length_take, List.length_nil] at this; omega
  | cons l r => rw [List.cons_append, Nm.zt_snoc]
theorem Nm.zt_first (D : List (List UInt8)) (h : 0 < D.length) : Nm.zt (D.take 1) = Nm.prtS D[0] := by
  cases D with
  | nil => simp at h
  | cons l r => simp [Nm.zt_one]
theorem Nm.zt_le (D : List (List UInt8)) (k : Nat) : (Nm.zt (D.take k)).length ≤ 15 * k := by
  cases hD : D.take k with
  | nil => simp [Nm.zt]
  | cons l r =>
    have h1 := (Nm.zt_zr l r).2
    have h2 := List.length_take_le k D
    rw [hD] at h2
    simp at h2
    omega
set_option maxHeartbeats 1000000 in
theorem zone7_core (b off cap n : Nat) (D : List (List UInt8)) (hn : D.length = n) (hn0 : n ≤ maxLen) (hp : 0 < n) (q : Nat) (hq : min n 4 = q) (w : World) (hlen : ∀ l ∈ D, l.length ≤ maxLen) (hc : ∀ j l, D[j]? = some l → ∃ u, w.cell? ⟨b, off + j, none⟩ = some u ∧ Byts w u l) (hcap : n ≤ cap) :
    Calls Tryd.prog 16 #[.slice (some ⟨b, off, none⟩) n cap] w fun e w' => e = .returned (.string (Lx.bs (Nm.zoneS D))) ∧ Dw w w' := by
  unfold maxLen at hn0
  have HC := Lib.hid hc
  have HN := Lib.hid hn
  have HLE := Lib.hid hlen
  have hmin : min (n : Int) 4 = (q : Int) := by omega
  have hq0 : (0 : Int) ≤ (q : Int) := by omega
  have hqc : (q : Int) ≤ (cap : Int) := by omega
  have hq12 : q ≤ 4 := by omega
  have hqn : q ≤ n := by omega
  have hq1 : 0 < q := by omega
  have HE : Hid (Nm.zoneS D = Nm.zt (D.take q)) := Lib.hid (by
    unfold Nm.zoneS
    rw [if_neg (by intro e; rw [e] at hn; simp at hn; omega)]
    by_cases h : n ≤ 4
    · rw [List.take_of_length_le (by omega), List.take_of_length_le (by omega)]
    · rw [show q = 4 by omega])
  clear hc hn hq hlen
  go_enter Tryd.func16, Tryd.ntmps16
  go_wp2
  clear hmin
  go_loopw [3, 12] (fun o i wr => ∃ k : Nat, k ≤ q ∧ o = .string (Lx.bs (Nm.zt (D.take k))) ∧ i = .int .i64 k ∧ Dw w wr) (fun _ i _ => q - (intOf i).toNat)
  case atStart => exact ⟨0, by omega, rfl, rfl, Dw.refl w⟩
  case round =>
    obtain ⟨k, hk, rfl, rfl, hdw⟩ := hrel
    have HD := Lib.hid hdw
    clear hdw
    have hk0 : (0 : Int) ≤ (k : Int) := by omega
    by_cases h1 : k < q
    · have q1 : (k : Int) < (q : Int) := by omega
      have hkz : k < D.length := by rw [HN.out]; omega
      obtain ⟨u, hu, hby⟩ := HC.out k D[k] (List.getElem?_eq_getElem hkz)
      have c0 := (HD.out.cell _).trans hu
      have hpl := Nm.part_len (Nm.prtS_part D[k])
      have hle := Nm.zt_le D k
      have hby2 : Byts wr u D[k] := hby.bl HD.out.below
      have hcall := part7_any u D[k] (HLE.out _ (List.getElem_mem _)) _ rfl wr hby2
      have hf : ∃ a n c, u = .slice a n c := by
        rcases hby with ⟨a, c, rfl, _⟩ | ⟨b2, o2, c, rfl, _⟩
        · exact ⟨_, _, _, rfl⟩
        · exact ⟨_, _, _, rfl⟩
      obtain ⟨ua, un, uc, rfl⟩ := hf
      have HA := Lib.hid hcall
      by_cases h0 : k = 0
      · have q3 : ¬ (0 : Int) < (k : Int) := by omega
        have c1 : wr.cell? ⟨b, off, none⟩ = some (.slice ua un uc) := by rw [← c0, h0]; rfl
        have hsn : Lx.bs (Nm.zt (D.take k)) ++ Lx.bs (Nm.prtS D[k]) = Lx.bs (Nm.zt (D.take (k + 1))) := by
          subst h0
          rw [Nm.app_bs, Nm.zt_first D hkz]; rfl
        have hz : ¬ 9223372036854775807 < (Lx.bs (Nm.zt (D.take k))).size + (Lx.bs (Nm.prtS D[k])).size := by rw [Lx.size_bs, Lx.size_bs]; omega
        generalize Lx.bs (Nm.zt (D.take k)) = S at *
        generalize Lx.bs (Nm.prtS D[k]) = P at *
        have HS := Lib.hid hsn
        clear hsn hpl hle hby hby2 hcall hu
        go_wp2_with fail
        refine HA.out.mono ?_; rintro e w1 ⟨rfl, hd⟩
        have HD2 := Lib.hid (HD.out.trans hd)
        clear hd
        go_wp2
        refine ⟨⟨k + 1, by omega, by rw [HS.out], by rw [h0]; rfl, HD2.out⟩, by simp [intOf, h0]; omega⟩
      · have q3 : (0 : Int) < (k : Int) := by omega
        have hsn : Lx.bs (Nm.zt (D.take k)) ++ ⟨#[47]⟩ ++ Lx.bs (Nm.prtS D[k]) = Lx.bs (Nm.zt (D.take (k + 1))) := by
          rw [show (⟨#[47]⟩ : ByteArray) = Lx.bs [47] from rfl, Nm.app_bs, Nm.app_bs, Nm.zt_next D k hkz (by omega)]
          simp
        have hz1 : ¬ 9223372036854775807 < (Lx.bs (Nm.zt (D.take k))).size + 1 := by rw [Lx.size_bs]; omega
        have hz : ¬ 9223372036854775807 < (Lx.bs (Nm.zt (D.take k))).size + 1 + (Lx.bs (Nm.prtS D[k])).size := by rw [Lx.size_bs, Lx.size_bs]; omega
        generalize Lx.bs (Nm.zt (D.take k)) = S at *
        generalize Lx.bs (Nm.prtS D[k]) = P at *
        have HS := Lib.hid hsn
        clear hsn hpl hle hby hby2 hcall hu
        go_wp2_with fail
        refine HA.out.mono ?_; rintro e w1 ⟨rfl, hd⟩
        have HD2 := Lib.hid (HD.out.trans hd)
        clear hd
        go_wp2
        refine ⟨⟨k + 1, by omega, by rw [HS.out], by go_num, HD2.out⟩, by simp [intOf]; omega⟩
    · obtain rfl : k = q := by omega
      have hne := Nm.ne_bs (l := Nm.zt (D.take k)) (by
        have hq := HN.out
        cases hD : D.take k with
        | nil => have := congrArg List.length hD; rw [List.length_take, List.length_nil] at this; omega
        | cons l r =>
          intro e
          have := Nm.zr_pos (Nm.zt_zr l r).1
          rw [e] at this
          simp at this)
      go_wp2
      go_ret
      exact ⟨by rw [HE.out]; rfl, HD.out⟩
theorem zone7_nil (a0 : Option Addr) (cap : Nat) (w : World) :
    Calls Tryd.prog 16 #[.slice a0 0 cap] w fun e w' => e = .returned (.string (Lx.bs (Nm.zoneS []))) ∧ Dw w w' := by
  cases a0
  all_goals
    go_enter Tryd.func16, Tryd.ntmps16
    go_wp2
    go_loopw [3, 12] (fun o i wr => o = .string ⟨#[]⟩ ∧ i = .int .i64 0 ∧ w = wr) (fun _ _ _ => 0)
    case atStart => exact ⟨rfl, rfl, by first | rfl | trivial⟩
    case round =>
      obtain ⟨rfl, rfl, rfl⟩ := hrel
      go_wp2
      go_ret
      exact ⟨rfl, Dw.refl w⟩
theorem zone7_any (v : Value) (D : List (List UInt8)) (hD : ∀ l ∈ D, l.length ≤ maxLen) (hz : D.length ≤ maxLen) (S : ByteArray) (hS : Lx.bs (Nm.zoneS D) = S) (w : World) (hI : Drf w v D) :
    Calls Tryd.prog 16 #[v] w fun e w' => e = .returned (.string S) ∧ Dw w w' := by
  subst hS
  rcases hI with ⟨a0, cap, rfl, rfl⟩ | ⟨b, off, cap, rfl, hp0, hb, hc⟩
  · exact zone7_nil a0 cap w
  · exact zone7_core b off cap D.length D rfl hz hp0.1 _ rfl w hD hc hp0.2
end Go.Proofs.YtndpoijmkdephaaDoor
