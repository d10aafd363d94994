/- The walk of DayspecRefuses: it returns true. -/
import Derived.Test.YtedcfnaphfgfjaaDoorDyA
namespace Go.Proofs.YtedcfnaphfgfjaaDoor
open Go.RowKit Go.Shelf
/-- the strings that are refused -/
def badB (S : ByteArray) : Nat → ByteArray
  | 0 => S ++ (⟨#[32]⟩ : ByteArray)
  | 1 => (⟨#[32]⟩ : ByteArray) ++ S
  | 2 => S ++ (⟨#[61]⟩ : ByteArray)
  | 3 => S ++ (⟨#[62, 61]⟩ : ByteArray)
  | 4 => (⟨#[108, 97, 115, 116]⟩ : ByteArray) ++ S
  | _ => S ++ (⟨#[0]⟩ : ByteArray)
theorem app_data (a b : ByteArray) : (a ++ b).data.toList = a.data.toList ++ b.data.toList := by simp
theorem badB_data (S : ByteArray) (j : Nat) (h : j < 6) : (badB S j).data.toList = bad S.data.toList j := by
  match j, h with
  | 0, _ => rw [badB, app_data]; rfl
  | 1, _ => rw [badB, app_data]; rfl
  | 2, _ => rw [badB, app_data]; rfl
  | 3, _ => rw [badB, app_data]; rfl
  | 4, _ => rw [badB, app_data]; rfl
  | 5, _ => show (S ++ (⟨#[0]⟩ : ByteArray)).data.toList = _; rw [app_data]; rfl
theorem badB_size (S : ByteArray) (j : Nat) (h : S.size ≤ 1000) : (badB S j).size < 4294967281 := by
  match j with
  | 0 => rw [badB, two_app]; show _ + 1 < _; omega
  | 1 => rw [badB, two_app]; show 1 + _ < _; omega
  | 2 => rw [badB, two_app]; show _ + 1 < _; omega
  | 3 => rw [badB, two_app]; show _ + 2 < _; omega
  | 4 => rw [badB, two_app]; show 4 + _ < _; omega
  | _ + 5 => show (S ++ (⟨#[0]⟩ : ByteArray)).size < _; rw [two_app]; show _ + 1 < _; omega
theorem bad_made (S : ByteArray) (K W D : Nat) (hK : K < 4) (hW : W < 7) (hD : D < 31) (hS : S.data.toList = mstr K W D) (j : Nat) (hj : j < 6) : ∃ e, Dy.parse (badB S j).data.toList = ((0, 0, 0), e) ∧ (e = 5 ∨ e = 8) := by
  rw [badB_data S j hj, hS]
  have h := List.all_eq_true.1 (of_allF bad_all K W D hK hW hD) j (List.mem_range.2 hj)
  obtain ⟨a, b, c, e, hp⟩ : ∃ a b c e : Int, Dy.parse (bad (mstr K W D) j) = ((a, b, c), e) := ⟨_, _, _, _, rfl⟩
  rw [hp] at h
  have he := of_decide_eq_true h
  obtain ⟨rfl, rfl, rfl⟩ := Dy.parse_err _ _ _ _ _ hp (by omega)
  exact ⟨e, hp, he⟩
/-- the beginnings of forms by numbers -/
theorem beg_all : allF (fun K W D => Lib.hasPrefix (mstr K W D) [108, 97, 115, 116] || (match Dy.opr (mstr K W D) with | some _ => true | none => match mstr K W D with | a :: _ => Dy.dig a | [] => false)) = true := by decide +kernel
theorem sgn_app : ∀ (l m : List UInt8) (k : Nat), Dy.sgn l = some k → Dy.sgn (l ++ m) = some k
  | [], _, _, h => by cases h
  | c :: l, m, k, h => by
    show Dy.sgn (c :: (l ++ m)) = _
    unfold Dy.sgn at h ⊢
    split at h
    · rename_i hc; rw [if_pos hc]; exact h
    · rename_i hc
      rw [if_neg hc]
      obtain ⟨j, hj, rfl⟩ := Option.map_eq_some_iff.1 h
      rw [sgn_app l m j hj]; rfl
theorem opr_app (l m : List UInt8) (x : Nat × Nat) (h : Dy.opr l = some x) : Dy.opr (l ++ m) = some x := by
  obtain ⟨k, kd⟩ := x
  obtain ⟨h1, c, d, hc, hd, hd2, hk⟩ := opr_some _ _ _ h
  have e1 : (l ++ m)[k]? = some c := by rw [List.getElem?_append_left (List.getElem?_eq_some_iff.1 hc).1]; exact hc
  have e2 : (l ++ m)[k + 1]? = some d := by rw [List.getElem?_append_left (List.getElem?_eq_some_iff.1 hd).1]; exact hd
  unfold Dy.opr
  rw [sgn_app l m k h1]
  simp only [e1, e2, hd2]
  rcases hk with ⟨hk, rfl⟩ | ⟨hk, rfl⟩ <;> rw [hk] <;> rfl
theorem num_ok (l : List UInt8) (n : Int) (h : Dy.num l = (n, 0)) : ∃ c, l.getLast? = some c ∧ Dy.dig c = true := by
  match l, h with
  | [], h => have h5 : (5 : Int) = 0 := congrArg Prod.snd h; exact absurd h5 (by decide)
  | [a], h =>
    refine ⟨a, rfl, ?_⟩
    cases hd : Dy.dig a with
    | true => rfl
    | false => simp [Dy.num, hd] at h
  | [a, b], h =>
    refine ⟨b, rfl, ?_⟩
    cases hd : Dy.dig b with
    | true => rfl
    | false => simp [Dy.num, hd] at h
  | _ :: _ :: _ :: _, h => have h5 : (5 : Int) = 0 := congrArg Prod.snd h; exact absurd h5 (by decide)
theorem last_drop (l : List UInt8) (k : Nat) (c d : UInt8) (h : (l ++ [c]).drop k ≠ []) (hd : ((l ++ [c]).drop k).getLast? = some d) : d = c := by
  have h1 : ((l ++ [c]).drop k).getLast? = (l ++ [c]).getLast? := by
    rw [List.getLast?_drop, if_neg (fun h2 => h (List.drop_eq_nil_of_le h2))]
  rw [h1, List.getLast?_append] at hd
  simpa using hd.symm
/-- a byte more than a form that is no last one, read as a form: a digit -/
theorem more_ok (l : List UInt8) (c : UInt8) (x : Int × Int × Int) (h : Dy.parse (l ++ [c]) = (x, 0)) (hb : (∃ y, Dy.opr l = some y) ∨ (∃ a m, l = a :: m ∧ Dy.dig a = true)) : Dy.dig c = true := by
  have hn : ∃ (t : List UInt8) (k : Nat) (n : Int), t = (l ++ [c]).drop k ∧ Dy.num t = (n, 0) := by
    unfold Dy.parse at h
    cases ho : Dy.opr (l ++ [c]) with
    | some y =>
      obtain ⟨k, kd⟩ := y
      obtain ⟨_, _, _, _, _, _, hk⟩ := opr_some _ _ _ ho
      unfold Dy.spl at h
      rw [ho] at h
      dsimp only at h
      unfold Dy.fin Dy.nm at h
      rw [if_neg (show ¬ kd = 2 by omega)] at h
      refine ⟨_, k + 2, (Dy.num ((l ++ [c]).drop (k + 2))).1, rfl, ?_⟩
      split at h
      · split at h
        · rename_i h2
          rw [← h2]
        · rename_i h2; exact absurd (congrArg Prod.snd h) h2
      · rename_i h2; exact absurd (congrArg Prod.snd h) h2
    | none =>
      have hl : ∃ a m, l = a :: m ∧ Dy.dig a = true := by
        rcases hb with ⟨y, hy⟩ | hb
        · rw [opr_app l [c] y hy] at ho; cases ho
        · exact hb
      obtain ⟨a, m, rfl, ha⟩ := hl
      have hL : Dy.isL (a :: m ++ [c]) = false := by
        have h3 : Wd.sm a.toNat ≠ 108 := by
          have := Dy.dig_low a
          rw [ha] at this
          have h4 : Dy.digN (Wd.sm a.toNat) = true := this.symm
          simp only [Dy.digN, Bool.and_eq_true, Nat.ble_eq] at h4
          omega
        have h5 : Nat.beq (Wd.sm a.toNat) 108 = false := by
          cases e : Nat.beq (Wd.sm a.toNat) 108 with
          | false => rfl
          | true => exact absurd (Nat.eq_of_beq_eq_true e) h3
        match m with
        | [] => rfl
        | [_] => rfl
        | [_, x] => show (Nat.beq (Wd.sm a.toNat) 108 && _ && _ && _) = false; rw [h5]; rfl
        | _ :: x :: y :: _ => show (Nat.beq (Wd.sm a.toNat) 108 && _ && _ && _) = false; rw [h5]; rfl
      unfold Dy.spl at h
      rw [ho] at h
      simp only [hL, Bool.false_eq_true, if_false] at h
      unfold Dy.fin Dy.nm at h
      rw [if_neg (show ¬ (1 : Nat) = 2 by decide)] at h
      refine ⟨_, 0, (Dy.num (a :: m ++ [c])).1, rfl, ?_⟩
      split at h
      · split at h
        · rename_i h2
          rw [List.drop_zero, ← h2]
        · rename_i h2; exact absurd (congrArg Prod.snd h) h2
      · rename_i h2; exact absurd (congrArg Prod.snd h) h2
  obtain ⟨t, k, n, rfl, hn⟩ := hn
  obtain ⟨d, hd, hd2⟩ := num_ok _ n hn
  have : (l ++ [c]).drop k ≠ [] := fun e => by rw [e] at hd; cases hd
  rw [← last_drop l k c d this hd]
  exact hd2
/-- the forms that are not right -/
def wrF (m : Int) : Nat → Int × Int × Int
  | 0 => (5 + m, 0, 0)
  | 1 => (-m, 0, 0)
  | 2 => (1, 0, 32 + m)
  | 3 => (1, 0, -m)
  | 4 => (1, 1 + m, 1)
  | 5 => (2, 7 + m, 0)
  | 6 => (2, -1 - m, 0)
  | 7 => (2, 0, 1 + m)
  | 8 => (3, 7 + m, 1)
  | 9 => (4, 0, 32 + m)
  | _ => (4, 0, -m)
theorem wr_split (i : Nat) (hi : i < 11) : i = 0 ∨ i = 1 ∨ i = 2 ∨ i = 3 ∨ i = 4 ∨ i = 5 ∨ i = 6 ∨ i = 7 ∨ i = 8 ∨ i = 9 ∨ i = 10 := by omega
theorem wr_no (m : Int) (hm : 0 ≤ m ∧ m ≤ 65535) (i : Nat) (hi : i < 11) : Dfm.okD (wrF m i).1 (wrF m i).2.1 (wrF m i).2.2 = false := by
  rcases wr_split i hi with rfl | rfl | rfl | rfl | rfl | rfl | rfl | rfl | rfl | rfl | rfl <;> (rw [Bool.eq_false_iff]; intro h; rw [Dfm.okD_iff] at h; simp only [wrF, Dfm.KW, Dfm.KL, Dfm.KM] at h; simp at h; omega)
theorem byte_oneY (c : UInt8) (b : Nat) (wx : World) (h : wx.cell? ⟨b, 0, none⟩ = some (.int .u8 (c.toNat : Int))) : (convert 38 9 (.slice (some ⟨b, 0, none⟩) 1 1)).run Tryd.prog wx = .ok (.string ⟨#[c]⟩) wx := by
  have := run_convert_bytes_arg (P := Tryd.prog) wx 38 5 Tryd.underlying38 Tryd.underlying5 b 0 1 1 [(c.toNat : Int)] rfl (fun i hi => by obtain rfl : i = 0 := (by omega); exact h) 9 Tryd.underlying9
  rw [this]
  have e : strOfNums [(c.toNat : Int)] = ⟨#[c]⟩ := by
    show (⟨#[UInt8.ofNat (c.toNat : Int).toNat]⟩ : ByteArray) = _
    rw [Int.toNat_natCast, UInt8.ofNat_toNat]
  rw [e]
/-- what is known of a form with a byte more -/
theorem more_made (S : ByteArray) (c : UInt8) (hb : (Lib.hasPrefix S.data.toList [108, 97, 115, 116] || (match Dy.opr S.data.toList with | some _ => true | none => match S.data.toList with | a :: _ => Dy.dig a | [] => false)) = true) :
    ∃ a b d e : Int, Dy.parse (S ++ (⟨#[c]⟩ : ByteArray)).data.toList = ((a, b, d), e) ∧ ((e = 0 ∧ ((48 ≤ c.toNat ∧ c.toNat ≤ 57) ∨ Lib.hasPrefix S.data.toList [108, 97, 115, 116] = true)) ∨ (e ≠ 0 ∧ a = 0 ∧ b = 0 ∧ d = 0)) := by
  obtain ⟨a, b, d, e, hp⟩ : ∃ a b d e : Int, Dy.parse (S ++ (⟨#[c]⟩ : ByteArray)).data.toList = ((a, b, d), e) := ⟨_, _, _, _, rfl⟩
  refine ⟨a, b, d, e, hp, ?_⟩
  by_cases he : e = 0
  · subst he
    refine .inl ⟨rfl, ?_⟩
    cases hx : Lib.hasPrefix S.data.toList [108, 97, 115, 116] with
    | true => exact .inr rfl
    | false =>
      rw [hx, Bool.false_or] at hb
      rw [app_data] at hp
      have := more_ok S.data.toList c (a, b, d) hp (by
        cases ho : Dy.opr S.data.toList with
        | some y => exact .inl ⟨y, rfl⟩
        | none =>
          rw [ho] at hb
          simp only at hb
          cases hd : S.data.toList with
          | nil => rw [hd] at hb; cases hb
          | cons x l => rw [hd] at hb; exact .inr ⟨x, l, rfl, hb⟩)
      left
      simp only [Dy.dig, Bool.and_eq_true, Nat.ble_eq] at this
      exact this
  · exact .inr ⟨he, Dy.parse_err _ _ _ _ _ hp he⟩
def wrCell (m : Int) (i j : Nat) : Value := match j with
  | 0 => .int .i64 (wrF m i).1
  | 1 => .int .i64 (wrF m i).2.1
  | _ => .int .i64 (wrF m i).2.2
set_option maxRecDepth 100000 in
set_option maxHeartbeats 8000000 in
theorem refuses_core (K W D c m k wk d : Int) (hK : 0 ≤ K ∧ K ≤ 255) (hW : 0 ≤ W ∧ W ≤ 255) (hD : 0 ≤ D ∧ D ≤ 255) (cN : UInt8) (hc : c = (cN.toNat : Int)) (hm : 0 ≤ m ∧ m ≤ 65535) (h1 : Dfm.mK K = k) (h2 : Dfm.mW K W = wk) (h3 : Dfm.mD K D = d) (W0 : World) (hT : TabY0 W0 ∧ MaxY W0) :
    Calls Tryd.prog 6 #[.agg #[.int .u8 K, .int .u8 W, .int .u8 D], .int .u8 c, .int .u16 m] W0 fun e w' => e = .returned (.bool true) ∧ Below W0.heap.size W0 w' := by
  have HC0 := Lib.hid (Ys.mk0 (TabY.of hT))
  have HC := Bs.hal (Lib.hid (Bs.mk0 W0)) (.cells #[.int .u8 K, .int .u8 W, .int .u8 D] 31)
  obtain ⟨S, s1, s2, s3, s4, K', W', D', b1, b2, b3, s5, _⟩ := made_str K W D k wk d h1 h2 h3
  have hbad := bad_made S K' W' D' b1 b2 b3 s5
  have hbeg := of_allF beg_all K' W' D' b1 b2 b3
  rw [← s5] at hbeg
  have HBAD := Lib.hid hbad
  have HBEG := Lib.hid hbeg
  have HS := Lib.hid s1
  have ZS := Lib.hid s3
  have H := Lib.hid (And.intro h1 (And.intro h2 h3))
  have BD := Lib.hid (And.intro hK (And.intro hW hD))
  have z1 : ¬ 9223372036854775807 < S.size + 1 := by omega
  have z2 : ¬ 9223372036854775807 < 1 + S.size := by omega
  have z3 : ¬ 9223372036854775807 < S.size + 2 := by omega
  have z4 : ¬ 9223372036854775807 < 4 + S.size := by omega
  have hcb : 0 ≤ c ∧ c ≤ 255 := by have := cN.toNat_lt; omega
  obtain ⟨hc1, hc2⟩ := hcb
  obtain ⟨hm1, hm2⟩ := hm
  clear hT h1 h2 h3 hK hW hD s1 s2 s3 s4 b1 b2 b3 s5 hbad hbeg
  go_enter Tryd.func6, Tryd.ntmps6
  go_wp2_with fail
  refine (ymade_at _ _ _ _ _ _ BD.out.1 BD.out.2.1 BD.out.2.2 H.out.1 H.out.2.1 H.out.2.2 _).mono ?_; rintro x w1 ⟨rfl, hb⟩
  replace HC := Bs.hbl HC hb
  clear hb
  have h7 := Dx.new w1 k wk d
  replace HC := Bs.hal HC (.cells #[.int .i64 k, .int .i64 wk, .int .i64 d] 23)
  go_wp2_with fail
  refine (yPrint_s k wk d S 0 HS (Ys.of HC0 HC)).mono ?_; rintro x w2 ⟨rfl, hb, _⟩
  replace HC := Bs.hbl HC hb
  clear hb h7
  go_wp2
  generalize hW : World.alloc w2 _ = W1
  have hc : ∀ j, j < 6 → W1.cell? ⟨w2.heap.size, j, none⟩ = some (.string (badB S j)) := by
    intro j hj
    rw [← hW]
    refine new_cell _ _ _ _ _ ?_
    match j, hj with
    | 0, _ => rfl
    | 1, _ => rfl
    | 2, _ => rfl
    | 3, _ => rfl
    | 4, _ => rfl
    | 5, _ => rfl
  have HC1 : Hid (Bs W0 W1) := by rw [← hW]; exact Bs.hal HC _
  have hz : w2.heap.size < W1.heap.size := by rw [← hW]; simp
  have HL := Lib.hid hc
  have HM := Lib.hid (more_made S cN HBEG.out)
  clear hc hW HC
  go_loopw [51] (fun i wr => ∃ j : Nat, j ≤ 6 ∧ i = .int .i64 j ∧ Below W1.heap.size W1 wr ∧ Hid (Bs W0 wr)) (fun i _ => 6 - (intOf i).toNat)
  case atStart => exact ⟨0, by omega, rfl, Below.refl _ _, HC1⟩
  case round =>
    obtain ⟨j, hj, rfl, hb, HR⟩ := hrel
    by_cases hj6 : j < 6
    · have c0 : wr.cell? ⟨w2.heap.size, j, none⟩ = some (.string (badB S j)) := (hb.cell (p := ⟨w2.heap.size, j, none⟩) hz).trans (HL.out j hj6)
      obtain ⟨e, hp, he⟩ := HBAD.out j hj6
      have hzz := badB_size S j ZS.out
      generalize badB S j = U at *
      have HP := Lib.hid hp
      have HZ := Lib.hid hzz
      have HB2 := Lib.hid hb
      clear hp hzz hb
      rcases he with rfl | rfl
      · go_wp2_with (go_at_call 8; refine (yParse_s U HZ.out 0 0 0 5 HP (Ys.of HC0 HR)).mono ?_; rintro x w3 ⟨rfl, hd, _⟩)
        go_roundw
        case rel => exact ⟨j + 1, by omega, by go_num, ((HB2.out.trans (hd.mono HB2.out.size))).alloc (by have := hd.size; have := HB2.out.size; omega) _, Bs.hal (Bs.hbl HR hd) _⟩
        case measure => simp [intOf]; omega
      · go_wp2_with (go_at_call 8; refine (yParse_s U HZ.out 0 0 0 8 HP (Ys.of HC0 HR)).mono ?_; rintro x w3 ⟨rfl, hd, _⟩)
        go_roundw
        case rel => exact ⟨j + 1, by omega, by go_num, ((HB2.out.trans (hd.mono HB2.out.size))).alloc (by have := hd.size; have := HB2.out.size; omega) _, Bs.hal (Bs.hbl HR hd) _⟩
        case measure => simp [intOf]; omega
    · obtain rfl : j = 6 := by omega
      clear HL HC1 hb HBAD
      obtain ⟨a, b, d', e, hp, hq⟩ := HM.out
      have hzz : (S ++ (⟨#[cN]⟩ : ByteArray)).size < 4294967281 := by rw [two_app]; have := ZS.out; show _ + 1 < _; omega
      have hcv := byte_oneY cN wr.heap.size
      have HP := Lib.hid hp
      have HZ := Lib.hid hzz
      have hpx : ∀ wx : World, Calls Tryd.prog 16 #[.string S, .string ⟨#[108, 97, 115, 116]⟩] wx fun e w' => e = .returned (.bool (Lib.hasPrefix S.data.toList [108, 97, 115, 116])) ∧ wx = w' := fun wx => (Tryd.strings_HasPrefix S ⟨#[108, 97, 115, 116]⟩ wx).mono fun e w' ⟨h1, h2⟩ => ⟨h1, h2.symm⟩
      clear hp hzz HM
      go_upto_region 13 with (go_at_call 8; refine (yParse_s _ HZ.out a b d' e HP (Ys.of HC0 (Bs.hal HR _))).mono ?_; rintro x w3 ⟨rfl, hd, _⟩)
      replace HR := Bs.hal (Bs.hbl (Bs.hal HR _) hd) (.cells #[.int .i64 a, .int .i64 b, .int .i64 d'] 23)
      have h15 := Dx.new w3 a b d'
      clear hd hcv
      generalize w3.alloc (.cells #[.int .i64 a, .int .i64 b, .int .i64 d'] 23) = w4 at *
      generalize w3.heap.size = b15 at *
      go_cut [104] (fun s wx => s = .bool false ∧ Hid (Bs W0 wx))
      case first =>
        have p0 := Dx.c0 h15
        have p1 := Dx.c1 h15
        have p2 := Dx.c2 h15
        rcases hq with ⟨rfl, hq⟩ | ⟨he, rfl, rfl, rfl⟩
        · have h3 : (48 ≤ cN.toNat ∧ cN.toNat ≤ 57) ∨ (cN.toNat < 48 ∧ Lib.hasPrefix S.data.toList [108, 97, 115, 116] = true) ∨ ((48 ≤ cN.toNat ∧ 57 < cN.toNat) ∧ Lib.hasPrefix S.data.toList [108, 97, 115, 116] = true) := by
            rcases hq with hq | hq
            · exact .inl hq
            · by_cases g1 : cN.toNat < 48
              · exact .inr (.inl ⟨g1, hq⟩)
              · by_cases g2 : 57 < cN.toNat
                · exact .inr (.inr ⟨⟨by omega, g2⟩, hq⟩)
                · exact .inl ⟨by omega, by omega⟩
          rcases h3 with ⟨g1, g2⟩ | ⟨g1, hq⟩ | ⟨⟨g1, g2⟩, hq⟩
          · have g3 : ¬ (cN.toNat : Int) < 48 := by omega
            have g4 : ¬ (57 : Int) < (cN.toNat : Int) := by omega
            clear hpx hq
            go_wp2_with fail
            go_meet
            exact ⟨rfl, HR⟩
          · have g3 : (cN.toNat : Int) < 48 := by omega
            rw [hq] at hpx
            go_wp2_with (go_at_call 16; refine (hpx _).mono ?_; rintro x w9 ⟨rfl, rfl⟩)
            go_meet
            exact ⟨rfl, HR⟩
          · have g3 : ¬ (cN.toNat : Int) < 48 := by omega
            have g4 : (57 : Int) < (cN.toNat : Int) := by omega
            rw [hq] at hpx
            go_wp2_with (go_at_call 16; refine (hpx _).mono ?_; rintro x w9 ⟨rfl, rfl⟩)
            go_meet
            exact ⟨rfl, HR⟩
        · have g1 : (e == 0) = false := beq_eq_false_iff_ne.2 he
          have g2 : (e != 0) = true := by simp [he]
          clear hpx he
          go_wp2_with fail
          go_meet
          exact ⟨rfl, HR⟩
      case rest =>
        obtain ⟨rfl, HR⟩ := hcut
        clear h15 hpx hq
        go_wp2
        generalize hW : World.alloc wc _ = W2
        have hc : ∀ i j, i < 11 → j < 3 → W2.cell? ⟨wc.heap.size, i * 3 + j, none⟩ = some (wrCell m i j) := by
          intro i j hi hj
          rw [← hW]
          refine new_cell _ _ _ _ _ ?_
          have h3 : j = 0 ∨ j = 1 ∨ j = 2 := by omega
          rcases wr_split i hi with rfl | rfl | rfl | rfl | rfl | rfl | rfl | rfl | rfl | rfl | rfl <;> rcases h3 with rfl | rfl | rfl <;> rfl
        have HC2 : Hid (Bs W0 W2) := by rw [← hW]; exact Bs.hal HR _
        have hz2 : wc.heap.size < W2.heap.size := by rw [← hW]; simp
        have HL := Lib.hid hc
        clear hc hW HR
        go_loopw [140] (fun i wr => ∃ j : Nat, j ≤ 11 ∧ i = .int .i64 j ∧ Below W2.heap.size W2 wr ∧ Hid (Bs W0 wr)) (fun i _ => 11 - (intOf i).toNat)
        case atStart => exact ⟨0, by omega, rfl, Below.refl _ _, HC2⟩
        case round =>
          obtain ⟨j, hj, rfl, hb, HR⟩ := hrel
          by_cases hj6 : j < 11
          · have cs : ∀ i, i < 3 → wr.cell? ⟨wc.heap.size, j * 3 + i, none⟩ = some (wrCell m j i) := fun i hi => (hb.cell (p := ⟨wc.heap.size, j * 3 + i, none⟩) hz2).trans (HL.out j i hj6 hi)
            have hno := wr_no m ⟨hm1, hm2⟩ j hj6
            have c0 : wr.cell? ⟨wc.heap.size, j * 3, none⟩ = some (.int .i64 (wrF m j).1) := cs 0 (by omega)
            have c1 : wr.cell? ⟨wc.heap.size, j * 3 + 1, none⟩ = some (.int .i64 (wrF m j).2.1) := cs 1 (by omega)
            have c2 : wr.cell? ⟨wc.heap.size, j * 3 + 2, none⟩ = some (.int .i64 (wrF m j).2.2) := cs 2 (by omega)
            generalize wrF m j = R at *
            obtain ⟨f1, f2, f3⟩ := R
            dsimp only at hno c0 c1 c2
            have HP2 : Hid (prnt f1 f2 f3 = (⟨#[]⟩, 2)) := Lib.hid (by unfold prnt; rw [hno]; rfl)
            have HB2 := Lib.hid hb
            have hE : (⟨#[]⟩ : ByteArray).toList.isEmpty = true := by rw [isEmpty_of]; rfl
            clear cs hno hb
            go_wp2_with (go_at_call 10; refine (yPrint_s f1 f2 f3 ⟨#[]⟩ 2 HP2 (Ys.of HC0 (Bs.hal HR _))).mono ?_; rintro x w4 ⟨rfl, hd, _⟩)
            go_roundw
            case rel => exact ⟨j + 1, by omega, by go_num, (HB2.out.alloc HB2.out.size _).trans (hd.mono (by simp; have := HB2.out.size; omega)), Bs.hbl (Bs.hal HR _) hd⟩
            case measure => simp [intOf]; omega
          · obtain rfl : j = 11 := by omega
            go_wp2_with fail
            refine (works9_s (Ys.of HC0 HR)).mono ?_; rintro x w5 ⟨rfl, hd, _⟩
            go_wp2
            go_ret
            exact ⟨rfl, (Bs.hbl HR hd).out⟩
theorem refuses_walk (K : Int) (wK : (Lit.int .u8 K).wf = true) (W : Int) (wW : (Lit.int .u8 W).wf = true) (D : Int) (wD : (Lit.int .u8 D).wf = true) (c : Int) (wc : (Lit.int .u8 c).wf = true) (m : Int) (wm : (Lit.int .u16 m).wf = true) (W0 : World) (hT : TabY0 W0 ∧ MaxY W0) :
    Calls Tryd.prog 6 #[.agg #[.int .u8 K, .int .u8 W, .int .u8 D], .int .u8 c, .int .u16 m] W0 fun e w' => e = .returned (.bool true) ∧ Below W0.heap.size W0 w' := by
  have hc := bounds_u8 wc
  have hm := bounds_u16 wm
  have e : c = ((UInt8.ofNat c.toNat).toNat : Int) := by
    rw [UInt8.toNat_ofNat_of_lt' (by show c.toNat < 256; omega)]
    omega
  exact refuses_core K W D c m _ _ _ (bounds_u8 wK) (bounds_u8 wW) (bounds_u8 wD) (UInt8.ofNat c.toNat) e hm rfl rfl rfl W0 hT
end Go.Proofs.YtedcfnaphfgfjaaDoor
