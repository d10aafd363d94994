/- Package lexeme: Lines. -/
import Derived.Test.YtndpoijmkdephaaDoorLy
import Derived.Test.YtndpoijmkdephaaDoorStr
import Derived.Test.YtndpoijmkdephaaDoorShelf
import Derived.Lib.Strings
namespace Go.Proofs.YtndpoijmkdephaaDoor
open Go.RowKit
/-- the library's own variable holds some number -/
def MaxW (w : World) : Prop := ∃ m, w.cell? ⟨1, 0, none⟩ = some (.int .i64 m)
theorem MaxW.bl {w w1 : World} (h : MaxW w) (k : Below w.heap.size w w1) : MaxW w1 := by
  obtain ⟨m, hm⟩ := h; exact ⟨m, cell_bl k hm⟩
theorem ret_tuple3 {v : Value} {a b c d : Int} (h : a = b) (g : c = d) : Ending.returned (.tuple #[v, .int .i64 a, .int .i64 c]) = .returned (.tuple #[v, .int .i64 b, .int .i64 d]) := by rw [h, g]
theorem split_any (s : ByteArray) (P : List (List UInt8)) (hP : Lx.split 10 s.data.toList = P) (hs : s.size ≤ 100000000) (w : World) (hM : MaxW w) : Calls Tryd.prog 17 #[.string s, .string ⟨#[10]⟩] w fun e w' => e = .returned (.slice (some ⟨w.heap.size, 0, none⟩) P.length P.length) ∧ w.alloc (.cells ((P.map Lx.bs).map Value.string).toArray 9) = w' := by
  obtain ⟨m, hm⟩ := hM
  subst hP
  refine (Tryd.strings_Split s ⟨#[10]⟩ m w (by omega) hm (Nat.le_refl 1)).mono ?_
  rintro e w' ⟨rfl, rfl⟩
  rw [Lx.countB_split, Lx.splitB_split]
  exact ⟨rfl, rfl⟩
theorem results_tmp3 {fn : Func} {t u v : Tmp} (h : fn.results = #[.tmp t, .tmp u, .tmp v]) (tmps : Array Value) (P : Program) (w : World) :
    (results fn tmps).run P w = .ok (.tuple #[tmps.getD t undef, tmps.getD u undef, tmps.getD v undef]) w := by simp [results, h]
end Go.Proofs.YtndpoijmkdephaaDoor
