/-
  No cell of these rows narrows 'for every input' (looked for: loops, veiled, ifaces, maps, wideKeys, modest, calm, conditions, laid).
  DERIVED. THE GIVEN ROWS OF THIS SEAT. 12 by the template 'for every input the law returns true; each argument reads behind the call as it read before'; 0 by the template 'total and deterministic' (their statements: YtlfdpepeanlhlaaTotals.lean).
  GIVEN WITH THE SEED: the statements are not yours to turn. If you find one false, say at which input.
  Laid BY PROGRAM, IN A SANDBOX (cutbox-rows.mjs): the forced cells as the released guide's own fill.sh prints them over the translation 7f428d0ac0282260… (all of the seat's roots in one cut). By AI agents, Wed Nov 11 2026. No macro, syntax, notation, axiom, sorry.
-/
import Derived.Test.YtlfdpepeanlhlaaChecked
import GoSem.Claim
import GoSem.ClaimJoined
import GoSem.ClaimMapViews
import Derived.JoinedTies
import Derived.KernelRfl
namespace Go.Proofs.Ytlfdpepeanlhlaa
/- THE CELL 'sum', in the pinned program and in every row, IS THE sha256 OF THE DUMP (.gsa) THAT YtlfdpepeanlhlaaProg.lean LOADS. Nothing in Lean hashes anything: it is a label: what it is worth is what the hold of that sum in a sandbox is worth. -/
noncomputable def Try.pinned : Pinned := { name := "ytlfdpepeanlhlaa", sum := "7f428d0ac0282260f1b26fe24f7b0baee81f18bcd7058bf7367ba1320780c7ed", checked := Try.checked }
namespace Rows
def none {H : Type} : Left H := { results := [], args := [] }

/-- 'laws.FnBytes': WHATEVER THE INPUT: true; the input reads as it did. -/
def fnBytesSpec : ChangeSpec := { name := "fnBytes", fn := fun _ => fun
  | [d] => { results := [.lit (.bool true)], args := [d] }
  | _ => none }
def fnBytesRow : OpenClaim := { program := "ytlfdpepeanlhlaa", sum := "7f428d0ac0282260f1b26fe24f7b0baee81f18bcd7058bf7367ba1320780c7ed", func := "loop.example/g00675/laws.FnBytes", spec := "fnBytes", apart := false }
def FnBytesSaid : Prop := fnBytesRow.holds Try.pinned (OpenSpec.ofChange fnBytesSpec)

/-- ITS FALSE NEIGHBOUR: 'it returns false'. Refute it at one input. -/
def fnBytesWrong : ChangeSpec := { name := "fnBytes", fn := fun _ => fun
  | [d] => { results := [.lit (.bool false)], args := [d] }
  | _ => none }
def FnBytesWrongFalsely : Prop := fnBytesRow.holds Try.pinned (OpenSpec.ofChange fnBytesWrong)

/-- 'laws.FnSumZero': WHATEVER THE INPUT: true; the input reads as it did. -/
def fnSumZeroSpec : ChangeSpec := { name := "fnSumZero", fn := fun _ => fun
  | [d] => { results := [.lit (.bool true)], args := [d] }
  | _ => none }
def fnSumZeroRow : OpenClaim := { program := "ytlfdpepeanlhlaa", sum := "7f428d0ac0282260f1b26fe24f7b0baee81f18bcd7058bf7367ba1320780c7ed", func := "loop.example/g00675/laws.FnSumZero", spec := "fnSumZero", apart := false }
def FnSumZeroSaid : Prop := fnSumZeroRow.holds Try.pinned (OpenSpec.ofChange fnSumZeroSpec)

/-- ITS FALSE NEIGHBOUR: 'it returns false'. Refute it at one input. -/
def fnSumZeroWrong : ChangeSpec := { name := "fnSumZero", fn := fun _ => fun
  | [d] => { results := [.lit (.bool false)], args := [d] }
  | _ => none }
def FnSumZeroWrongFalsely : Prop := fnSumZeroRow.holds Try.pinned (OpenSpec.ofChange fnSumZeroWrong)

/-- 'laws.FnSumOrder': WHATEVER THE INPUT: true; the input reads as it did. -/
def fnSumOrderSpec : ChangeSpec := { name := "fnSumOrder", fn := fun _ => fun
  | [d] => { results := [.lit (.bool true)], args := [d] }
  | _ => none }
def fnSumOrderRow : OpenClaim := { program := "ytlfdpepeanlhlaa", sum := "7f428d0ac0282260f1b26fe24f7b0baee81f18bcd7058bf7367ba1320780c7ed", func := "loop.example/g00675/laws.FnSumOrder", spec := "fnSumOrder", apart := false }
def FnSumOrderSaid : Prop := fnSumOrderRow.holds Try.pinned (OpenSpec.ofChange fnSumOrderSpec)

/-- ITS FALSE NEIGHBOUR: 'it returns false'. Refute it at one input. -/
def fnSumOrderWrong : ChangeSpec := { name := "fnSumOrder", fn := fun _ => fun
  | [d] => { results := [.lit (.bool false)], args := [d] }
  | _ => none }
def FnSumOrderWrongFalsely : Prop := fnSumOrderRow.holds Try.pinned (OpenSpec.ofChange fnSumOrderWrong)

/-- 'laws.FnSumFix': WHATEVER THE INPUT: true; the input reads as it did. -/
def fnSumFixSpec : ChangeSpec := { name := "fnSumFix", fn := fun _ => fun
  | [d] => { results := [.lit (.bool true)], args := [d] }
  | _ => none }
def fnSumFixRow : OpenClaim := { program := "ytlfdpepeanlhlaa", sum := "7f428d0ac0282260f1b26fe24f7b0baee81f18bcd7058bf7367ba1320780c7ed", func := "loop.example/g00675/laws.FnSumFix", spec := "fnSumFix", apart := false }
def FnSumFixSaid : Prop := fnSumFixRow.holds Try.pinned (OpenSpec.ofChange fnSumFixSpec)

/-- ITS FALSE NEIGHBOUR: 'it returns false'. Refute it at one input. -/
def fnSumFixWrong : ChangeSpec := { name := "fnSumFix", fn := fun _ => fun
  | [d] => { results := [.lit (.bool false)], args := [d] }
  | _ => none }
def FnSumFixWrongFalsely : Prop := fnSumFixRow.holds Try.pinned (OpenSpec.ofChange fnSumFixWrong)

/-- 'laws.FnHexes': WHATEVER THE INPUT: true; the input reads as it did. -/
def fnHexesSpec : ChangeSpec := { name := "fnHexes", fn := fun _ => fun
  | [d] => { results := [.lit (.bool true)], args := [d] }
  | _ => none }
def fnHexesRow : OpenClaim := { program := "ytlfdpepeanlhlaa", sum := "7f428d0ac0282260f1b26fe24f7b0baee81f18bcd7058bf7367ba1320780c7ed", func := "loop.example/g00675/laws.FnHexes", spec := "fnHexes", apart := false }
def FnHexesSaid : Prop := fnHexesRow.holds Try.pinned (OpenSpec.ofChange fnHexesSpec)

/-- ITS FALSE NEIGHBOUR: 'it returns false'. Refute it at one input. -/
def fnHexesWrong : ChangeSpec := { name := "fnHexes", fn := fun _ => fun
  | [d] => { results := [.lit (.bool false)], args := [d] }
  | _ => none }
def FnHexesWrongFalsely : Prop := fnHexesRow.holds Try.pinned (OpenSpec.ofChange fnHexesWrong)

/-- 'laws.FnSumParts': WHATEVER THE INPUT: true; the input reads as it did. -/
def fnSumPartsSpec : ChangeSpec := { name := "fnSumParts", fn := fun _ => fun
  | [d] => { results := [.lit (.bool true)], args := [d] }
  | _ => none }
def fnSumPartsRow : OpenClaim := { program := "ytlfdpepeanlhlaa", sum := "7f428d0ac0282260f1b26fe24f7b0baee81f18bcd7058bf7367ba1320780c7ed", func := "loop.example/g00675/laws.FnSumParts", spec := "fnSumParts", apart := false }
def FnSumPartsSaid : Prop := fnSumPartsRow.holds Try.pinned (OpenSpec.ofChange fnSumPartsSpec)

/-- ITS FALSE NEIGHBOUR: 'it returns false'. Refute it at one input. -/
def fnSumPartsWrong : ChangeSpec := { name := "fnSumParts", fn := fun _ => fun
  | [d] => { results := [.lit (.bool false)], args := [d] }
  | _ => none }
def FnSumPartsWrongFalsely : Prop := fnSumPartsRow.holds Try.pinned (OpenSpec.ofChange fnSumPartsWrong)

/-- 'laws.FnExactBytesOf': WHATEVER THE INPUT: true; the input reads as it did. -/
def fnExactBytesOfSpec : ChangeSpec := { name := "fnExactBytesOf", fn := fun _ => fun
  | [d1, d2] => { results := [.lit (.bool true)], args := [d1, d2] }
  | _ => none }
def fnExactBytesOfRow : OpenClaim := { program := "ytlfdpepeanlhlaa", sum := "7f428d0ac0282260f1b26fe24f7b0baee81f18bcd7058bf7367ba1320780c7ed", func := "loop.example/g00675/laws.FnExactBytesOf", spec := "fnExactBytesOf", apart := false }
def FnExactBytesOfSaid : Prop := fnExactBytesOfRow.holds Try.pinned (OpenSpec.ofChange fnExactBytesOfSpec)

/-- ITS FALSE NEIGHBOUR: 'it returns false'. Refute it at one input. -/
def fnExactBytesOfWrong : ChangeSpec := { name := "fnExactBytesOf", fn := fun _ => fun
  | [d1, d2] => { results := [.lit (.bool false)], args := [d1, d2] }
  | _ => none }
def FnExactBytesOfWrongFalsely : Prop := fnExactBytesOfRow.holds Try.pinned (OpenSpec.ofChange fnExactBytesOfWrong)

/-- 'laws.FnExactNumAt': WHATEVER THE INPUT: true; the input reads as it did. -/
def fnExactNumAtSpec : ChangeSpec := { name := "fnExactNumAt", fn := fun _ => fun
  | [d1, d2, d3] => { results := [.lit (.bool true)], args := [d1, d2, d3] }
  | _ => none }
def fnExactNumAtRow : OpenClaim := { program := "ytlfdpepeanlhlaa", sum := "7f428d0ac0282260f1b26fe24f7b0baee81f18bcd7058bf7367ba1320780c7ed", func := "loop.example/g00675/laws.FnExactNumAt", spec := "fnExactNumAt", apart := false }
def FnExactNumAtSaid : Prop := fnExactNumAtRow.holds Try.pinned (OpenSpec.ofChange fnExactNumAtSpec)

/-- ITS FALSE NEIGHBOUR: 'it returns false'. Refute it at one input. -/
def fnExactNumAtWrong : ChangeSpec := { name := "fnExactNumAt", fn := fun _ => fun
  | [d1, d2, d3] => { results := [.lit (.bool false)], args := [d1, d2, d3] }
  | _ => none }
def FnExactNumAtWrongFalsely : Prop := fnExactNumAtRow.holds Try.pinned (OpenSpec.ofChange fnExactNumAtWrong)

/-- 'laws.FnExactSumOf': WHATEVER THE INPUT: true; the input reads as it did. -/
def fnExactSumOfSpec : ChangeSpec := { name := "fnExactSumOf", fn := fun _ => fun
  | [d] => { results := [.lit (.bool true)], args := [d] }
  | _ => none }
def fnExactSumOfRow : OpenClaim := { program := "ytlfdpepeanlhlaa", sum := "7f428d0ac0282260f1b26fe24f7b0baee81f18bcd7058bf7367ba1320780c7ed", func := "loop.example/g00675/laws.FnExactSumOf", spec := "fnExactSumOf", apart := false }
def FnExactSumOfSaid : Prop := fnExactSumOfRow.holds Try.pinned (OpenSpec.ofChange fnExactSumOfSpec)

/-- ITS FALSE NEIGHBOUR: 'it returns false'. Refute it at one input. -/
def fnExactSumOfWrong : ChangeSpec := { name := "fnExactSumOf", fn := fun _ => fun
  | [d] => { results := [.lit (.bool false)], args := [d] }
  | _ => none }
def FnExactSumOfWrongFalsely : Prop := fnExactSumOfRow.holds Try.pinned (OpenSpec.ofChange fnExactSumOfWrong)

/-- 'laws.FnExactSumFix': WHATEVER THE INPUT: true; the input reads as it did. -/
def fnExactSumFixSpec : ChangeSpec := { name := "fnExactSumFix", fn := fun _ => fun
  | [d1, d2, d3] => { results := [.lit (.bool true)], args := [d1, d2, d3] }
  | _ => none }
def fnExactSumFixRow : OpenClaim := { program := "ytlfdpepeanlhlaa", sum := "7f428d0ac0282260f1b26fe24f7b0baee81f18bcd7058bf7367ba1320780c7ed", func := "loop.example/g00675/laws.FnExactSumFix", spec := "fnExactSumFix", apart := false }
def FnExactSumFixSaid : Prop := fnExactSumFixRow.holds Try.pinned (OpenSpec.ofChange fnExactSumFixSpec)

/-- ITS FALSE NEIGHBOUR: 'it returns false'. Refute it at one input. -/
def fnExactSumFixWrong : ChangeSpec := { name := "fnExactSumFix", fn := fun _ => fun
  | [d1, d2, d3] => { results := [.lit (.bool false)], args := [d1, d2, d3] }
  | _ => none }
def FnExactSumFixWrongFalsely : Prop := fnExactSumFixRow.holds Try.pinned (OpenSpec.ofChange fnExactSumFixWrong)

/-- 'laws.FnExactHexOf': WHATEVER THE INPUT: true; the input reads as it did. -/
def fnExactHexOfSpec : ChangeSpec := { name := "fnExactHexOf", fn := fun _ => fun
  | [d] => { results := [.lit (.bool true)], args := [d] }
  | _ => none }
def fnExactHexOfRow : OpenClaim := { program := "ytlfdpepeanlhlaa", sum := "7f428d0ac0282260f1b26fe24f7b0baee81f18bcd7058bf7367ba1320780c7ed", func := "loop.example/g00675/laws.FnExactHexOf", spec := "fnExactHexOf", apart := false }
def FnExactHexOfSaid : Prop := fnExactHexOfRow.holds Try.pinned (OpenSpec.ofChange fnExactHexOfSpec)

/-- ITS FALSE NEIGHBOUR: 'it returns false'. Refute it at one input. -/
def fnExactHexOfWrong : ChangeSpec := { name := "fnExactHexOf", fn := fun _ => fun
  | [d] => { results := [.lit (.bool false)], args := [d] }
  | _ => none }
def FnExactHexOfWrongFalsely : Prop := fnExactHexOfRow.holds Try.pinned (OpenSpec.ofChange fnExactHexOfWrong)

/-- 'laws.FnExactReadHex': WHATEVER THE INPUT: true; the input reads as it did. -/
def fnExactReadHexSpec : ChangeSpec := { name := "fnExactReadHex", fn := fun _ => fun
  | [d] => { results := [.lit (.bool true)], args := [d] }
  | _ => none }
def fnExactReadHexRow : OpenClaim := { program := "ytlfdpepeanlhlaa", sum := "7f428d0ac0282260f1b26fe24f7b0baee81f18bcd7058bf7367ba1320780c7ed", func := "loop.example/g00675/laws.FnExactReadHex", spec := "fnExactReadHex", apart := false }
def FnExactReadHexSaid : Prop := fnExactReadHexRow.holds Try.pinned (OpenSpec.ofChange fnExactReadHexSpec)

/-- ITS FALSE NEIGHBOUR: 'it returns false'. Refute it at one input. -/
def fnExactReadHexWrong : ChangeSpec := { name := "fnExactReadHex", fn := fun _ => fun
  | [d] => { results := [.lit (.bool false)], args := [d] }
  | _ => none }
def FnExactReadHexWrongFalsely : Prop := fnExactReadHexRow.holds Try.pinned (OpenSpec.ofChange fnExactReadHexWrong)

/- THE SECOND FORM. 'bulk': how many values and letters a reading holds, each counted each time it is reached (what is shared counts as often as it is met; a slice's spare places count too). A statement '..UptoSaid' is the law's where the arguments, and the package variables that the reading takes, are together of bulk at most 1048576: NARROWER than '..Said'. Prove '..Said' where nothing that the law and all that it calls make is longer than what came in: it says more and counts as full. Else prove '..UptoSaid'. A law counts once. -/
mutual
def uptoBulk {H : Type} : DataW H → Nat
  | .lit (.string bytes) => bytes.length + 1
  | .lit _ => 1
  | .nil => 1
  | .ptr d => uptoBulk d + 1
  | .slice elems spare => uptoBulkAll elems + uptoBulkAll spare + 1
  | .agg parts => uptoBulkAll parts + 1
  | .iface _ d => uptoBulk d + 1
  | .map entries => uptoBulkEntries entries + 1
  | .held _ => 1
def uptoBulkAll {H : Type} : List (DataW H) → Nat
  | [] => 0
  | d :: r => uptoBulk d + uptoBulkAll r
def uptoBulkEntries {H : Type} : List (Lit × DataW H) → Nat
  | [] => 0
  | x :: r => uptoBulkEntry x + uptoBulkEntries r
def uptoBulkEntry {H : Type} : Lit × DataW H → Nat
  | (.string bytes, d) => bytes.length + uptoBulk d + 1
  | (_, d) => uptoBulk d + 1
 end
def uptoSmall : (H : Type) → List (DataW H) → Bool := fun _ ds => decide (uptoBulkAll ds ≤ 1048576)
def OpenSpec.upto (s : _root_.Go.ChangeSpec) : _root_.Go.OpenSpec := { _root_.Go.OpenSpec.ofChange s with cond := some uptoSmall }

/-- 'laws.FnBytes', WHERE WHAT IT READS IS OF BULK AT MOST 1048576: true; the input reads as it did. -/
def fnBytesUptoRow : OpenClaim := { program := "ytlfdpepeanlhlaa", sum := "7f428d0ac0282260f1b26fe24f7b0baee81f18bcd7058bf7367ba1320780c7ed", func := "loop.example/g00675/laws.FnBytes", spec := "fnBytes", apart := false, narrowed := true }
def FnBytesUptoSaid : Prop := fnBytesUptoRow.holds Try.pinned (OpenSpec.upto fnBytesSpec)

/-- 'laws.FnSumZero', WHERE WHAT IT READS IS OF BULK AT MOST 1048576: true; the input reads as it did. -/
def fnSumZeroUptoRow : OpenClaim := { program := "ytlfdpepeanlhlaa", sum := "7f428d0ac0282260f1b26fe24f7b0baee81f18bcd7058bf7367ba1320780c7ed", func := "loop.example/g00675/laws.FnSumZero", spec := "fnSumZero", apart := false, narrowed := true }
def FnSumZeroUptoSaid : Prop := fnSumZeroUptoRow.holds Try.pinned (OpenSpec.upto fnSumZeroSpec)

/-- 'laws.FnSumOrder', WHERE WHAT IT READS IS OF BULK AT MOST 1048576: true; the input reads as it did. -/
def fnSumOrderUptoRow : OpenClaim := { program := "ytlfdpepeanlhlaa", sum := "7f428d0ac0282260f1b26fe24f7b0baee81f18bcd7058bf7367ba1320780c7ed", func := "loop.example/g00675/laws.FnSumOrder", spec := "fnSumOrder", apart := false, narrowed := true }
def FnSumOrderUptoSaid : Prop := fnSumOrderUptoRow.holds Try.pinned (OpenSpec.upto fnSumOrderSpec)

/-- 'laws.FnSumFix', WHERE WHAT IT READS IS OF BULK AT MOST 1048576: true; the input reads as it did. -/
def fnSumFixUptoRow : OpenClaim := { program := "ytlfdpepeanlhlaa", sum := "7f428d0ac0282260f1b26fe24f7b0baee81f18bcd7058bf7367ba1320780c7ed", func := "loop.example/g00675/laws.FnSumFix", spec := "fnSumFix", apart := false, narrowed := true }
def FnSumFixUptoSaid : Prop := fnSumFixUptoRow.holds Try.pinned (OpenSpec.upto fnSumFixSpec)

/-- 'laws.FnHexes', WHERE WHAT IT READS IS OF BULK AT MOST 1048576: true; the input reads as it did. -/
def fnHexesUptoRow : OpenClaim := { program := "ytlfdpepeanlhlaa", sum := "7f428d0ac0282260f1b26fe24f7b0baee81f18bcd7058bf7367ba1320780c7ed", func := "loop.example/g00675/laws.FnHexes", spec := "fnHexes", apart := false, narrowed := true }
def FnHexesUptoSaid : Prop := fnHexesUptoRow.holds Try.pinned (OpenSpec.upto fnHexesSpec)

/-- 'laws.FnSumParts', WHERE WHAT IT READS IS OF BULK AT MOST 1048576: true; the input reads as it did. -/
def fnSumPartsUptoRow : OpenClaim := { program := "ytlfdpepeanlhlaa", sum := "7f428d0ac0282260f1b26fe24f7b0baee81f18bcd7058bf7367ba1320780c7ed", func := "loop.example/g00675/laws.FnSumParts", spec := "fnSumParts", apart := false, narrowed := true }
def FnSumPartsUptoSaid : Prop := fnSumPartsUptoRow.holds Try.pinned (OpenSpec.upto fnSumPartsSpec)

/-- 'laws.FnExactBytesOf', WHERE WHAT IT READS IS OF BULK AT MOST 1048576: true; the input reads as it did. -/
def fnExactBytesOfUptoRow : OpenClaim := { program := "ytlfdpepeanlhlaa", sum := "7f428d0ac0282260f1b26fe24f7b0baee81f18bcd7058bf7367ba1320780c7ed", func := "loop.example/g00675/laws.FnExactBytesOf", spec := "fnExactBytesOf", apart := false, narrowed := true }
def FnExactBytesOfUptoSaid : Prop := fnExactBytesOfUptoRow.holds Try.pinned (OpenSpec.upto fnExactBytesOfSpec)

/-- 'laws.FnExactNumAt', WHERE WHAT IT READS IS OF BULK AT MOST 1048576: true; the input reads as it did. -/
def fnExactNumAtUptoRow : OpenClaim := { program := "ytlfdpepeanlhlaa", sum := "7f428d0ac0282260f1b26fe24f7b0baee81f18bcd7058bf7367ba1320780c7ed", func := "loop.example/g00675/laws.FnExactNumAt", spec := "fnExactNumAt", apart := false, narrowed := true }
def FnExactNumAtUptoSaid : Prop := fnExactNumAtUptoRow.holds Try.pinned (OpenSpec.upto fnExactNumAtSpec)

/-- 'laws.FnExactSumOf', WHERE WHAT IT READS IS OF BULK AT MOST 1048576: true; the input reads as it did. -/
def fnExactSumOfUptoRow : OpenClaim := { program := "ytlfdpepeanlhlaa", sum := "7f428d0ac0282260f1b26fe24f7b0baee81f18bcd7058bf7367ba1320780c7ed", func := "loop.example/g00675/laws.FnExactSumOf", spec := "fnExactSumOf", apart := false, narrowed := true }
def FnExactSumOfUptoSaid : Prop := fnExactSumOfUptoRow.holds Try.pinned (OpenSpec.upto fnExactSumOfSpec)

/-- 'laws.FnExactSumFix', WHERE WHAT IT READS IS OF BULK AT MOST 1048576: true; the input reads as it did. -/
def fnExactSumFixUptoRow : OpenClaim := { program := "ytlfdpepeanlhlaa", sum := "7f428d0ac0282260f1b26fe24f7b0baee81f18bcd7058bf7367ba1320780c7ed", func := "loop.example/g00675/laws.FnExactSumFix", spec := "fnExactSumFix", apart := false, narrowed := true }
def FnExactSumFixUptoSaid : Prop := fnExactSumFixUptoRow.holds Try.pinned (OpenSpec.upto fnExactSumFixSpec)

/-- 'laws.FnExactHexOf', WHERE WHAT IT READS IS OF BULK AT MOST 1048576: true; the input reads as it did. -/
def fnExactHexOfUptoRow : OpenClaim := { program := "ytlfdpepeanlhlaa", sum := "7f428d0ac0282260f1b26fe24f7b0baee81f18bcd7058bf7367ba1320780c7ed", func := "loop.example/g00675/laws.FnExactHexOf", spec := "fnExactHexOf", apart := false, narrowed := true }
def FnExactHexOfUptoSaid : Prop := fnExactHexOfUptoRow.holds Try.pinned (OpenSpec.upto fnExactHexOfSpec)

/-- 'laws.FnExactReadHex', WHERE WHAT IT READS IS OF BULK AT MOST 1048576: true; the input reads as it did. -/
def fnExactReadHexUptoRow : OpenClaim := { program := "ytlfdpepeanlhlaa", sum := "7f428d0ac0282260f1b26fe24f7b0baee81f18bcd7058bf7367ba1320780c7ed", func := "loop.example/g00675/laws.FnExactReadHex", spec := "fnExactReadHex", apart := false, narrowed := true }
def FnExactReadHexUptoSaid : Prop := fnExactReadHexUptoRow.holds Try.pinned (OpenSpec.upto fnExactReadHexSpec)

end Rows
end Go.Proofs.Ytlfdpepeanlhlaa
