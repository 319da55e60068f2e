/-
  The walk of FnCritical, whole: the draw of options is there.
-/
import Derived.Test.YtnheppkjeoiipaaDgn5
import Derived.Test.YtnheppkjeoiipaaDgn6
namespace Go.Proofs.Ytnheppkjeoiipaa
open Go.RowKit Go.PlainAid
theorem walk_FnCritical (a : Option Addr) (len cap : Nat) (zs : List Int) (w : World) (w0 : IsRow .u8 w a len cap zs) :
    Calls Try.prog 4 #[.slice a len cap] w fun e w' => e = .returned (.bool true) ∧ Below w.heap.size w w' := walkT_FnCritical r_tlvs a len cap zs w w0
end Go.Proofs.Ytnheppkjeoiipaa
