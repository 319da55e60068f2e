/-
  The exact law of Tiles: its walk.
-/
import Derived.Test.YtgfpoohjbgdcpaaTls2
import Derived.Test.YtgfpoohjbgdcpaaTls3
namespace Go.Proofs.Ytgfpoohjbgdcpaa
open Go.RowKit Go.PlainAid
theorem iqShort_of {l : List IpV} (h : iqTot l ≤ 1048576) : iqShort l := fun i hi => by
  have h1 := iqTot_take l i hi
  have h2 := iqTot_le l (i + 1)
  unfold iqSz at h1
  omega
end Go.Proofs.Ytgfpoohjbgdcpaa
