/-
  Contracts of IpBytes, of the program and of the model.
-/
import Derived.Test.YtfaaopcmgadkjaaIps3
namespace Go.Proofs.Ytfaaopcmgadkjaa
open Go.RowKit Go.PlainAid
theorem ret_str {a b : List UInt8} (h : a = b) : Ending.returned (.string (str a)) = .returned (.string (str b)) := by rw [h]
end Go.Proofs.Ytfaaopcmgadkjaa
