/-
  The exact law of ReadIp: its walk.
-/
import Derived.Test.YtgknkhhoelgnhaaDoorIpRd5
namespace Go.Proofs.YtgknkhhoelgnhaaDoor
open Go.RowKit Go.PlainAid
theorem s_ReadIp (s : ByteArray) (w : World) (hs : s.size ≤ 1099511627776) :
    Calls Tryd.prog 23 #[.string s] w fun e w' => e = .returned (.tuple #[.agg (ipL (readIp s)), .int .i64 (ipCode s)]) ∧ Below w.heap.size w w' := by
  by_cases h0 : mhCode s = 0
  · exact s_ReadIp_late s w hs h0
  · have := mh_code h0
    have h4 := mhCode_le s
    exact s_ReadIp_early s w hs ⟨by omega, by omega⟩
end Go.Proofs.YtgknkhhoelgnhaaDoor
