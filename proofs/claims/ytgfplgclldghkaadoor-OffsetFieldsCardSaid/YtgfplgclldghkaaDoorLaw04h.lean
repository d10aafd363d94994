/- The walk of OffsetFields: what it calls. -/
import Derived.Test.YtgfplgclldghkaaDoorLaw04d
import Derived.Test.YtgfplgclldghkaaDoorOu
import Derived.Laws.OwnMore
import Derived.OpenShut
namespace Go.Proofs.YtgfplgclldghkaaDoor
open Go.RowKit
/-- two digits as a string, wherever they lie -/
theorem two_str (x : Int) (n : Nat) (hx : x = (n : Int)) : ∀ (b : Nat) (wx : World), wx.cell? ⟨b, 0, none⟩ = some (.int .u8 (48 + x / 10)) → wx.cell? ⟨b, 1, none⟩ = some (.int .u8 (48 + x % 10)) → (convert 32 9 (.slice (some ⟨b, 0, none⟩) 2 2)).run Tryd.prog wx = .ok (.string ⟨(Of.two n).toArray⟩) wx := by
  intro b wx c0 c1
  have := run_convert_bytes_arg (P := Tryd.prog) wx 32 5 Tryd.underlying32 Tryd.underlying5 b 0 2 2 [48 + x / 10, 48 + x % 10] rfl (fun i hi => by
    have : i = 0 ∨ i = 1 := by omega
    rcases this with rfl | rfl
    · exact c0
    · exact c1) 9 Tryd.underlying9
  rw [this]
  subst hx
  have e : ∀ k : Nat, UInt8.ofNat (48 + (k : Int)).toNat = Of.dig k := fun k => by unfold Of.dig; congr 1
  have e1 : strOfNums [48 + (n : Int) / 10, 48 + (n : Int) % 10] = ⟨(Of.two n).toArray⟩ := by
    unfold Of.two
    rw [← e, ← e]
    rfl
  rw [e1]
theorem two_c (x : Int) (n : Nat) (hx : x = (n : Int)) (hn : n < 100) (w : World) : Calls Tryd.prog 15 #[.int .i64 x] w fun e w' => e = .returned (.string ⟨(Of.two n).toArray⟩) ∧ Below w.heap.size w w' := by
  have hcv := two_str x n hx w.heap.size
  have h0 : 0 ≤ x := by omega
  have h1 : x < 100 := by omega
  clear hx hn
  go_enter Tryd.func15, Tryd.ntmps15
  go_wp2
  go_ret
  exact ⟨rfl, (Below.refl _ _).alloc (Nat.le_refl _) _⟩
theorem scut_any (s : ByteArray) (k : Nat) (hk : Lib.indexByte s.data.toList 58 = (k : Int)) (hks : k + 1 ≤ s.size) (hs : s.size ≤ 1000) (w : World) : Calls Tryd.prog 25 #[.string s, .string ⟨#[58]⟩] w fun e w' => e = .returned (.tuple #[.string (s.extract 0 k), .string (s.extract (k + 1) s.size), .bool true]) ∧ ∃ n, w' = w.drewN n := by
  have HI := fun w => Tryd.stringslite_Index_one s 58 w
  rw [hk] at HI
  clear hk
  go_enter Tryd.func25, Tryd.ntmps25
  go_wp2_with fail
  refine (HI _).mono ?_; rintro e w1 ⟨rfl, rfl⟩
  go_wp2
  go_region
  go_wp2
  exact bodyPost_ret (v := .tuple #[.string (s.extract 0 k), .string (s.extract (k + 1) s.size), .bool true]) (by simp [results, Tryd.results25, go_sem]) rfl ⟨rfl, 1, rfl⟩
theorem cut_s {W0 w : World} (s : ByteArray) (k : Nat) (hk : Lib.indexByte s.data.toList 58 = (k : Int)) (hks : k + 1 ≤ s.size) (hs : s.size ≤ 1000) (HC : Hid (Ps W0 w)) : Calls Tryd.prog 16 #[.string s, .string ⟨#[58]⟩] w fun e w' => e = .returned (.tuple #[.string (s.extract 0 k), .string (s.extract (k + 1) s.size), .bool true]) ∧ Hid (Ps W0 w') := by
  have HI := fun w => scut_any s k hk hks hs w
  clear hk hks hs
  go_enter Tryd.func16, Tryd.ntmps16
  go_wp2_with fail
  refine (HI _).mono ?_; rintro e w1 ⟨rfl, n, rfl⟩
  go_wp2
  exact bodyPost_ret (v := .tuple #[.string (s.extract 0 k), .string (s.extract (k + 1) s.size), .bool true]) (by simp [results, Tryd.results16, go_sem]) rfl ⟨rfl, Ps.hbl HC (Dw.below (w := w) (w' := w.drewN n) ⟨n, rfl⟩)⟩
theorem Ps.grown {w0 w w' : World} {e : TypeId} {s n : Nat} {v : Value} {xs : List Value} (h : Ps w0 w) (hT : CtsW w0 ∧ PowW w0) (ho : w.ownsRow w0.heap.size e s v n xs) (hg : w.grownBy w' v.ownBlock) : Ps w0 w' := by
  have b := h.1.grown hg h.1.size (fun k hk => (ho.lt k hk).1)
  exact ⟨b, hT.1.bl b, hT.2.bl b⟩
theorem own_bl {w w1 : World} {B : Nat} {e : TypeId} {s n : Nat} {v : Value} {xs : List Value} (h : w.ownsRow B e s v n xs) (k : Below w.heap.size w w1) : w1.ownsRow B e s v n xs := by
  refine ⟨h.1, ?_⟩
  rcases h.2 with h2 | ⟨g, cap, cur, h1, h2, h3, h4⟩
  · exact .inl h2
  · refine .inr ⟨g, cap, cur, h1, h2, ?_, h4⟩
    have hlt : g < w.heap.size := by
      rcases Nat.lt_or_ge g w.heap.size with e | e
      · exact e
      · rw [Array.getElem?_eq_none e] at h3; cases h3
    rw [k.block g hlt]; exact h3
theorem undS : Tryd.prog.underlying 36 = some (.slice 9) := by kernel_rfl
theorem infoS : (Tryd.prog.info? 9).map (fun i => (i.zero, i.size, i.bytes)) = some (some (.string ⟨#[]⟩), 1, 16) := by kernel_rfl
/-- strings as values -/
def strV (L : List ByteArray) : List Value := L.map fun s => .string s
/-- the strings in a block -/
def Sts (w : World) (g : Nat) (L : List ByteArray) : Prop := ∀ j s, L[j]? = some s → w.cell? ⟨g, j, none⟩ = some (.string s)
theorem own_strs {w : World} {B : Nat} {v : Value} {L : List ByteArray} (h : w.ownsRow B 9 1 v L.length (strV L)) (hL : 0 < L.length) : ∃ g cap : Nat, v = .slice (some ⟨g, 0, none⟩) L.length cap ∧ g < w.heap.size ∧ Sts w g L := by
  rcases h.2 with ⟨_, e⟩ | ⟨g, cap, cur, hv, _, hg, hcap, _⟩
  · omega
  · refine ⟨g, cap, hv, ?_, fun j s hj => ?_⟩
    · rcases Nat.lt_or_ge g w.heap.size with e | e
      · exact e
      · rw [Array.getElem?_eq_none e] at hg; cases hg
    · have := h.cells (g := g) (by rw [hv]; rfl) j (.string s) (by simp [strV, hj])
      by_cases h0 : j = 0
      · subst h0; exact this
      · simpa [Addr.add, h0] using this
theorem own_one {B : Nat} (w : World) (s : ByteArray) (hB : B ≤ w.heap.size) : (w.alloc (.cells #[.string s] 9)).ownsRow B 9 1 (.slice (some ⟨w.heap.size, 0, none⟩) 1 1) 1 (strV [s]) :=
  World.ownsRow_lit w #[.string s] 1 hB (by unfold maxLen; omega) rfl
end Go.Proofs.YtgfplgclldghkaaDoor
