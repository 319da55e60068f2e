/-
  Contracts of IpBytes, of the program and of the model.
-/
import Derived.Test.YtkeakjgojakanaaIps3
namespace Go.Proofs.Ytkeakjgojakanaa
open Go.RowKit Go.PlainAid
theorem ret_str {a b : List UInt8} (h : a = b) : Ending.returned (.string (str a)) = .returned (.string (str b)) := by rw [h]
end Go.Proofs.Ytkeakjgojakanaa
