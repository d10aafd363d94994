/- The walk of DayspecReads. -/
import Derived.Test.YtedcfnaphfgfjaaDoorDyt
import Derived.Test.YtedcfnaphfgfjaaDoorDyu
import Derived.Test.YtedcfnaphfgfjaaDoorDyw
import Derived.Test.YtedcfnaphfgfjaaDoorDyv
namespace Go.Proofs.YtedcfnaphfgfjaaDoor
open Go.RowKit Go.Shelf
theorem parse_four (l : List UInt8) : ∃ a b c e : Int, Dy.parse l = ((a, b, c), e) := ⟨_, _, _, _, rfl⟩
theorem prnt_two (k wk d : Int) : ∃ S e, prnt k wk d = (S, e) := ⟨_, _, rfl⟩
set_option maxRecDepth 100000 in
set_option maxHeartbeats 8000000 in
/-- what a string is read as, and the string of a day form, are the document's -/
theorem reads_walk (s : ByteArray) (_hs : s.size ≤ maxLen) (k : Int) (_w0 : (Lit.int .i64 k).wf = true) (wk : Int) (_w1 : (Lit.int .i64 wk).wf = true) (d : Int) (_w2 : (Lit.int .i64 d).wf = true) (W0 : World) (hT : TabY0 W0 ∧ MaxY W0) :
    Calls Tryd.prog 3 #[.string s, .agg #[.int .i64 k, .int .i64 wk, .int .i64 d]] W0 fun e w' => e = .returned (.bool true) ∧ Below W0.heap.size W0 w' := by
  have HC := Lib.hid (Ys.mk0 (TabY.of hT))
  replace HC := Ys.hal HC (.cells #[.int .i64 k, .int .i64 wk, .int .i64 d] 23)
  have h3 := Lib.hid (Cs.new W0 [.int .i64 k, .int .i64 wk, .int .i64 d] 23)
  clear hT
  by_cases h : s.size ≤ 100
  · have h1 : ¬ (100 : Int) < (s.size : Int) := by omega
    have hz1 : s.size < 4294967281 := by omega
    have hz2 : s.size ≤ 100000 := by omega
    obtain ⟨a, b, c, e, hp⟩ := parse_four s.data.toList
    obtain ⟨S, f, hq⟩ := prnt_two k wk d
    have HP := Lib.hid hp
    have HQ := Lib.hid hq
    have ea := beq_selfI a
    have eb := beq_selfI b
    have ec := beq_selfI c
    have ee := beq_selfI e
    have ef := beq_selfI f
    have eS := str_refl S
    clear hp hq h
    go_enter Tryd.func3, Tryd.ntmps3
    go_wp2_with fail
    refine (yParse_s s hz1 a b c e HP HC).mono ?_; rintro x w1 ⟨rfl, hb, HC⟩
    replace h3 := Cs.hbl h3 hb
    clear hb
    go_wp2_with fail
    have h5 := Lib.hid (Cs.new w1 [.int .i64 a, .int .i64 b, .int .i64 c] 23)
    replace HC := Ys.hal HC (.cells #[.int .i64 a, .int .i64 b, .int .i64 c] 23)
    replace h3 := Cs.hal h3 (.cells #[.int .i64 a, .int .i64 b, .int .i64 c] 23)
    refine (rParse_any s hz2 a b c e HP _).mono ?_; rintro x w2 ⟨rfl, hb⟩
    replace HC := Ys.hbl HC hb
    replace h3 := Cs.hbl h3 hb
    replace h5 := Cs.hbl h5 hb
    clear hb
    generalize w1.heap.size = b5 at *
    have h7 := Lib.hid (Cs.new w2 [.int .i64 a, .int .i64 b, .int .i64 c] 23)
    replace HC := Ys.hal HC (.cells #[.int .i64 a, .int .i64 b, .int .i64 c] 23)
    replace h3 := Cs.hal h3 (.cells #[.int .i64 a, .int .i64 b, .int .i64 c] 23)
    replace h5 := Cs.hal h5 (.cells #[.int .i64 a, .int .i64 b, .int .i64 c] 23)
    have p0 := h3.out.at 0 rfl
    have p1 := h3.out.at 1 rfl
    have p2 := h3.out.at 2 rfl
    go_wp2_with fail
    refine (yPrint_s k wk d S f HQ HC).mono ?_; rintro x w3 ⟨rfl, hb, HC⟩
    replace h3 := Cs.hbl h3 hb
    replace h5 := Cs.hbl h5 hb
    replace h7 := Cs.hbl h7 hb
    clear hb p0 p1 p2
    generalize w2.heap.size = b7 at *
    have p0 := h3.out.at 0 rfl
    have p1 := h3.out.at 1 rfl
    have p2 := h3.out.at 2 rfl
    go_wp2_with fail
    refine (rPrint_any k wk d S f HQ _).mono ?_; rintro x w4 ⟨rfl, hb⟩
    replace HC := Ys.hbl HC hb
    replace h5 := Cs.hbl h5 hb
    replace h7 := Cs.hbl h7 hb
    clear hb p0 p1 p2 h3
    have p0 := h5.out.at 0 rfl
    have p1 := h5.out.at 1 rfl
    have p2 := h5.out.at 2 rfl
    have q0 := h7.out.at 0 rfl
    have q1 := h7.out.at 1 rfl
    have q2 := h7.out.at 2 rfl
    go_wp2_with fail
    refine (works9_s HC).mono ?_; rintro x w5 ⟨rfl, _, HC⟩
    go_wp2
    go_ret
    exact ⟨rfl, HC.out.1⟩
  · have h1 : (100 : Int) < (s.size : Int) := by omega
    go_enter Tryd.func3, Tryd.ntmps3
    go_wp2_with fail
    refine (works9_s HC).mono ?_; rintro x w5 ⟨rfl, _, HC⟩
    go_wp2
    go_ret
    exact ⟨rfl, HC.out.1⟩
end Go.Proofs.YtedcfnaphfgfjaaDoor
