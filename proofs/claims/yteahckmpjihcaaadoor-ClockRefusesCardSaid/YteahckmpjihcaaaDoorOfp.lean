/- Package offset: what read returns. -/
import Derived.Test.YteahckmpjihcaaaDoorOfw
namespace Go.Proofs.YteahckmpjihcaaaDoor
open Go.RowKit
open Of in
/-- what read returns: the parts, and whether the string has the form -/
def ReadP (s : ByteArray) (w : World) (e : Ending) (w' : World) : Prop := ∃ (h m c : Int) (ok : Bool), e = .returned (.tuple #[.agg #[.int .i64 h, .int .i64 m, .int .i64 c], .bool ok]) ∧ (ok = true → form s.data.toList = some (3600 * h + 60 * m + c) ∧ (0 ≤ h ∧ h ≤ 999) ∧ (0 ≤ m ∧ m ≤ 59) ∧ (0 ≤ c ∧ c ≤ 59)) ∧ (ok = false → form s.data.toList = none) ∧ Below w.heap.size w w'
theorem readP_no {s : ByteArray} {w w' : World} (h m c : Int) (hf : Of.form s.data.toList = none) (hb : Below w.heap.size w w') : ReadP s w (.returned (.tuple #[.agg #[.int .i64 h, .int .i64 m, .int .i64 c], .bool false])) w' :=
  ⟨h, m, c, false, rfl, (fun e => by cases e), (fun _ => hf), hb⟩
theorem readP_yes {s : ByteArray} {w w' : World} {h m c : Int} (hf : Of.form s.data.toList = some (3600 * h + 60 * m + c)) (hh : 0 ≤ h ∧ h ≤ 999) (hm : 0 ≤ m ∧ m ≤ 59) (hc : 0 ≤ c ∧ c ≤ 59) (hb : Below w.heap.size w w') : ReadP s w (.returned (.tuple #[.agg #[.int .i64 h, .int .i64 m, .int .i64 c], .bool true])) w' :=
  ⟨h, m, c, true, rfl, (fun _ => ⟨hf, hh, hm, hc⟩), (fun e => by cases e), hb⟩
theorem h1_of {s : ByteArray} {V : Int} {H : Nat} (hV : Of.val (Of.run3 s.data.toList) = V) (hH : (Of.run3 s.data.toList).length = H) : Hid (NumIs s 0 V H) := Lib.hid ⟨hV, hH⟩
theorem h2_of {s : ByteArray} {V : Int} {H : Nat} (a : Nat) (hV : Of.val (Of.run3 (s.data.toList.drop a)) = V) (hH : (Of.run3 (s.data.toList.drop a)).length = H) : Hid (NumIs s a V H) := Lib.hid ⟨hV, hH⟩
end Go.Proofs.YteahckmpjihcaaaDoor
