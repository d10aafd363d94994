/- The strings of amounts with parts left out. No function of the program is named. -/
import Derived.Test.YtgfplgclldghkaaDoorOpr
import Derived.Test.YtgfplgclldghkaaDoorOu
namespace Go.Proofs.YtgfplgclldghkaaDoor
open Go.RowKit
/-- what a string of an amount is read as, without and with a minus sign -/
def Reads (x : Int) (B : ByteArray) : Prop := Of.parse B.data.toList = (x, 0) ∧ (x = 0 → Of.parse (⟨#[45]⟩ ++ B).data.toList = (0, 5)) ∧ (x ≠ 0 → Of.parse (⟨#[45]⟩ ++ B).data.toList = (-x, 0)) ∧ B.size ≤ 20
theorem reads_of (x : Int) (B : ByteArray) (l : List UInt8) (hB : B = ⟨l.toArray⟩) (hf : Of.form l = some x) (hx : x ≤ 604799) (h45 : l[0]? ≠ some 45) (hl : l.length ≤ 20) : Reads x B := by
  subst hB
  have e : (⟨#[45]⟩ ++ ⟨l.toArray⟩ : ByteArray).data.toList = 45 :: l := by rw [app_bs [45] l]; rfl
  refine ⟨?_, ?_, ?_, by rw [bs_size]; exact hl⟩
  · show Of.parse l = _
    rw [Of.parse_noMinus h45, hf]; simp only; rw [if_neg (by omega)]
  · intro h0; rw [e, Of.parse_minus, hf]; simp [h0]
  · intro h0; rw [e, Of.parse_minus, hf]; simp only; rw [if_neg h0, if_neg (by omega)]
theorem dec_no45 {h : Nat} (hh : h < 1000) (r : List UInt8) : (Of.dec h ++ r)[0]? ≠ some 45 := by
  obtain ⟨k, q, hk, e⟩ := Of.dec_cons h hh
  rw [e]; simpa using Of.dig_ne hk 45 (by decide)
theorem fld_bs (h m : Nat) : (⟨(Of.dec h).toArray⟩ ++ ⟨#[58]⟩ ++ ⟨(Of.two m).toArray⟩ : ByteArray) = ⟨(Of.dec h ++ 58 :: Of.two m).toArray⟩ := by
  rw [app_bs _ [58], app_bs]; simp
theorem fld_bs3 (h m s : Nat) : (⟨(Of.dec h).toArray⟩ ++ ⟨#[58]⟩ ++ ⟨(Of.two m).toArray⟩ ++ ⟨#[58]⟩ ++ ⟨(Of.two s).toArray⟩ : ByteArray) = ⟨(Of.dec h ++ 58 :: (Of.two m ++ 58 :: Of.two s)).toArray⟩ := by
  rw [fld_bs, app_bs _ [58], app_bs]; simp
theorem reads3 {h m s : Nat} (hh : h < 168) (hm : m < 60) (hs : s < 60) : Reads (3600 * h + 60 * m + s) (⟨(Of.dec h).toArray⟩ ++ ⟨#[58]⟩ ++ ⟨(Of.two m).toArray⟩ ++ ⟨#[58]⟩ ++ ⟨(Of.two s).toArray⟩) := by
  have hl := (Of.dec_le h).2
  refine reads_of _ _ _ (fld_bs3 h m s) ?_ (by omega) (dec_no45 (by omega) _) (by simp [Of.two]; omega)
  rw [Of.form_hms (by omega) hm, Of.tl2_two hs]; simp
theorem reads2 {h m : Nat} (hh : h < 168) (hm : m < 60) : Reads (3600 * h + 60 * m + (0 : Nat)) (⟨(Of.dec h).toArray⟩ ++ ⟨#[58]⟩ ++ ⟨(Of.two m).toArray⟩) := by
  have hl := (Of.dec_le h).2
  refine reads_of _ _ _ (fld_bs h m) ?_ (by omega) (dec_no45 (by omega) _) (by simp [Of.two]; omega)
  have := Of.form_hms (h := h) (m := m) (by omega) hm []
  rw [List.append_nil] at this
  rw [this]; simp [Of.tl2]
theorem reads1 {h : Nat} (hh : h < 168) : Reads (3600 * h + 60 * (0 : Nat) + (0 : Nat)) (⟨(Of.dec h).toArray⟩) := by
  have hl := (Of.dec_le h).2
  have h45 := dec_no45 (h := h) (by omega) []
  rw [List.append_nil] at h45
  refine reads_of _ _ _ rfl ?_ (by omega) h45 (by omega)
  have := Of.form_hours (h := h) (by omega) [] (by simp)
  rw [List.append_nil] at this
  rw [this]; simp [Of.tl]
/-- the string of an amount, its hours, what it is made of -/
theorem fld_whole {h m s : Nat} (hh : h < 168) (hm : m < 60) (hs : s < 60) (x : Int) (hx : 3600 * (h : Int) + 60 * m + s = x) (S : ByteArray) (hS : ⟨(Of.prt x).toArray⟩ = S) :
    Lib.indexByte S.data.toList 58 = ((Of.dec h).length : Int) ∧ (Of.dec h).length + 1 ≤ S.size ∧ S.extract 0 (Of.dec h).length = ⟨(Of.dec h).toArray⟩ ∧ (s ≠ 0 → S = ⟨(Of.dec h).toArray⟩ ++ ⟨#[58]⟩ ++ ⟨(Of.two m).toArray⟩ ++ ⟨#[58]⟩ ++ ⟨(Of.two s).toArray⟩) ∧ (s = 0 → S = ⟨(Of.dec h).toArray⟩ ++ ⟨#[58]⟩ ++ ⟨(Of.two m).toArray⟩) := by
  have e0 : x.toNat = 3600 * h + 60 * m + s := by omega
  have e1 : x.toNat / 3600 = h := by omega
  have e2 : x.toNat / 60 % 60 = m := by omega
  have e3 : x.toNat % 60 = s := by omega
  have eb : Of.prt x = Of.dec h ++ 58 :: (Of.two m ++ if s = 0 then [] else 58 :: Of.two s) := by
    rw [Of.prt_pos (by omega)]; unfold Of.body; rw [e1, e2, e3]
  subst hS
  rw [eb]
  refine ⟨Of.idx_skip _ _ (Of.dec_no58 (by omega)), by rw [bs_size]; simp, ?_, ?_, ?_⟩
  · rw [Lib.extract_eq]; simp
  · intro h0; rw [fld_bs3, if_neg h0]
  · intro h0; rw [fld_bs, if_pos h0]; simp
end Go.Proofs.YtgfplgclldghkaaDoor
