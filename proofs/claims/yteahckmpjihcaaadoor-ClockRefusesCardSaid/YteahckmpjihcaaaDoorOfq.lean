/- Package offset: the contract of read, at every string. -/
import Derived.Test.YteahckmpjihcaaaDoorOfr
import Derived.Test.YteahckmpjihcaaaDoorOfs
namespace Go.Proofs.YteahckmpjihcaaaDoor
open Go.RowKit
theorem read_any (s : ByteArray) (w : World) (hs : s.size ≤ maxLen) : Calls Tryd.prog 29 #[.string s] w (ReadP s w) := by
  by_cases h0 : (Of.run3 s.data.toList).length = 0
  · exact read_nil s w hs h0
  by_cases hz : 1 < (Of.run3 s.data.toList).length ∧ s.data.toList[0]? = some 48
  · exact read_zero s w hs _ _ rfl rfl hz.1 hz.2
  have hok : Of.okH s.data.toList := ⟨h0, hz⟩
  have h1 : 1 ≤ (Of.run3 s.data.toList).length := by omega
  clear h0 hz
  generalize hV : Of.val (Of.run3 s.data.toList) = V
  generalize hH : (Of.run3 s.data.toList).length = H at h1
  by_cases hc : H < s.size
  rotate_left
  · exact read_end s w hs V H hV hH h1 hok (by omega)
  by_cases hcc : s[H] = 58
  rotate_left
  · exact read_colon s w hs V H hV hH h1 hok hc hcc
  generalize hV2 : Of.val (Of.run3 (s.data.toList.drop (H + 1))) = V2
  generalize hD2 : (Of.run3 (s.data.toList.drop (H + 1))).length = D2
  by_cases hd : D2 = 2
  rotate_left
  · exact read_min2 s w hs V H hV hH h1 hok hc hcc V2 D2 hV2 hD2 hd
  by_cases h59 : V2 ≤ 59
  rotate_left
  · exact read_min59 s w hs V H hV hH h1 hok hc hcc V2 D2 hV2 hD2 hd (by omega)
  by_cases hc3 : H + 1 + D2 < s.size
  rotate_left
  · exact read_end2 s w hs V H hV hH h1 hok hc hcc V2 D2 hV2 hD2 hd h59 (by omega)
  by_cases hcc3 : s[H + 1 + D2] = 58
  rotate_left
  · exact read_colon2 s w hs V H hV hH h1 hok hc hcc V2 D2 hV2 hD2 hd h59 hc3 hcc3
  generalize hV3 : Of.val (Of.run3 (s.data.toList.drop (H + 1 + D2 + 1))) = V3
  generalize hD3 : (Of.run3 (s.data.toList.drop (H + 1 + D2 + 1))).length = D3
  by_cases hd3 : D3 = 2
  rotate_left
  · exact read_sec2 s w hs V H hV hH h1 hok hc hcc V2 D2 hV2 hD2 hd h59 hc3 hcc3 V3 D3 hV3 hD3 hd3
  by_cases h593 : V3 ≤ 59
  rotate_left
  · exact read_sec59 s w hs V H hV hH h1 hok hc hcc V2 D2 hV2 hD2 hd h59 hc3 hcc3 V3 D3 hV3 hD3 hd3 (by omega)
  by_cases he : s.size ≤ H + 6
  · exact read_end3 s w hs V H hV hH h1 hok hc hcc V2 D2 hV2 hD2 hd h59 hc3 hcc3 V3 D3 hV3 hD3 hd3 h593 he
  · exact read_long s w hs V H hV hH h1 hok hc hcc V2 D2 hV2 hD2 hd h59 hc3 hcc3 V3 D3 hV3 hD3 hd3 h593 (by omega)
end Go.Proofs.YteahckmpjihcaaaDoor
