/-
  No cell of these rows narrows 'for every input' (looked for: loops, veiled, ifaces, maps, wideKeys, modest, calm, conditions, laid).
  DERIVED. THE GIVEN ROWS OF THIS SEAT. 3 by the template 'for every input the law returns true; each argument reads behind the call as it read before'; 0 by the template 'total and deterministic' (their statements: YtjdellkdnempkaaTotals.lean).
  GIVEN WITH THE SEED: the statements are not yours to turn. If you find one false, say at which input.
  Laid BY PROGRAM, IN A SANDBOX (cutbox-rows.mjs): the forced cells as the released guide's own fill.sh prints them over the translation 346e9534a071cc85… (all of the seat's roots in one cut). By AI agents, Wed Nov 11 2026. No macro, syntax, notation, axiom, sorry.
-/
import Derived.Test.YtjdellkdnempkaaChecked
import GoSem.Claim
import GoSem.ClaimJoined
import GoSem.ClaimMapViews
import Derived.JoinedTies
import Derived.KernelRfl
namespace Go.Proofs.Ytjdellkdnempkaa
/- THE CELL 'sum', in the pinned program and in every row, IS THE sha256 OF THE DUMP (.gsa) THAT YtjdellkdnempkaaProg.lean LOADS. Nothing in Lean hashes anything: it is a label: what it is worth is what the hold of that sum in a sandbox is worth. -/
noncomputable def Try.pinned : Pinned := { name := "ytjdellkdnempkaa", sum := "346e9534a071cc85af5e65c75fb34b436b9084a489c296b5b1026d56fb831408", checked := Try.checked }
namespace Rows
def none {H : Type} : Left H := { results := [], args := [] }

/-- 'laws.FnUdps': WHATEVER THE INPUT: true; the input reads as it did. -/
def fnUdpsSpec : ChangeSpec := { name := "fnUdps", fn := fun _ => fun
  | [d] => { results := [.lit (.bool true)], args := [d] }
  | _ => none }
def fnUdpsRow : OpenClaim := { program := "ytjdellkdnempkaa", sum := "346e9534a071cc85af5e65c75fb34b436b9084a489c296b5b1026d56fb831408", func := "loop.example/g00675/laws.FnUdps", spec := "fnUdps", inPlace := ["internal/abi.NoEscape", "internal/bytealg.MakeNoZero"], apart := false }
def FnUdpsSaid : Prop := fnUdpsRow.holds Try.pinned (OpenSpec.ofChange fnUdpsSpec)

/-- ITS FALSE NEIGHBOUR: 'it returns false'. Refute it at one input. -/
def fnUdpsWrong : ChangeSpec := { name := "fnUdps", fn := fun _ => fun
  | [d] => { results := [.lit (.bool false)], args := [d] }
  | _ => none }
def FnUdpsWrongFalsely : Prop := fnUdpsRow.holds Try.pinned (OpenSpec.ofChange fnUdpsWrong)

/-- 'laws.FnUdpTurned': WHATEVER THE INPUT: true; the input reads as it did. -/
def fnUdpTurnedSpec : ChangeSpec := { name := "fnUdpTurned", fn := fun _ => fun
  | [d] => { results := [.lit (.bool true)], args := [d] }
  | _ => none }
def fnUdpTurnedRow : OpenClaim := { program := "ytjdellkdnempkaa", sum := "346e9534a071cc85af5e65c75fb34b436b9084a489c296b5b1026d56fb831408", func := "loop.example/g00675/laws.FnUdpTurned", spec := "fnUdpTurned", inPlace := ["internal/abi.NoEscape", "internal/bytealg.MakeNoZero"], apart := false }
def FnUdpTurnedSaid : Prop := fnUdpTurnedRow.holds Try.pinned (OpenSpec.ofChange fnUdpTurnedSpec)

/-- ITS FALSE NEIGHBOUR: 'it returns false'. Refute it at one input. -/
def fnUdpTurnedWrong : ChangeSpec := { name := "fnUdpTurned", fn := fun _ => fun
  | [d] => { results := [.lit (.bool false)], args := [d] }
  | _ => none }
def FnUdpTurnedWrongFalsely : Prop := fnUdpTurnedRow.holds Try.pinned (OpenSpec.ofChange fnUdpTurnedWrong)

/-- 'laws.FnUdpBack': WHATEVER THE INPUT: true; the input reads as it did. -/
def fnUdpBackSpec : ChangeSpec := { name := "fnUdpBack", fn := fun _ => fun
  | [d] => { results := [.lit (.bool true)], args := [d] }
  | _ => none }
def fnUdpBackRow : OpenClaim := { program := "ytjdellkdnempkaa", sum := "346e9534a071cc85af5e65c75fb34b436b9084a489c296b5b1026d56fb831408", func := "loop.example/g00675/laws.FnUdpBack", spec := "fnUdpBack", inPlace := ["internal/abi.NoEscape", "internal/bytealg.MakeNoZero"], apart := false }
def FnUdpBackSaid : Prop := fnUdpBackRow.holds Try.pinned (OpenSpec.ofChange fnUdpBackSpec)

/-- ITS FALSE NEIGHBOUR: 'it returns false'. Refute it at one input. -/
def fnUdpBackWrong : ChangeSpec := { name := "fnUdpBack", fn := fun _ => fun
  | [d] => { results := [.lit (.bool false)], args := [d] }
  | _ => none }
def FnUdpBackWrongFalsely : Prop := fnUdpBackRow.holds Try.pinned (OpenSpec.ofChange fnUdpBackWrong)

/- THE SECOND FORM. 'bulk': how many values and letters a reading holds, each counted each time it is reached (what is shared counts as often as it is met; a slice's spare places count too). A statement '..UptoSaid' is the law's where the arguments, and the package variables that the reading takes, are together of bulk at most 1048576: NARROWER than '..Said'. Prove '..Said' where nothing that the law and all that it calls make is longer than what came in: it says more and counts as full. Else prove '..UptoSaid'. A law counts once. -/
mutual
def uptoBulk {H : Type} : DataW H → Nat
  | .lit (.string bytes) => bytes.length + 1
  | .lit _ => 1
  | .nil => 1
  | .ptr d => uptoBulk d + 1
  | .slice elems spare => uptoBulkAll elems + uptoBulkAll spare + 1
  | .agg parts => uptoBulkAll parts + 1
  | .iface _ d => uptoBulk d + 1
  | .map entries => uptoBulkEntries entries + 1
  | .held _ => 1
def uptoBulkAll {H : Type} : List (DataW H) → Nat
  | [] => 0
  | d :: r => uptoBulk d + uptoBulkAll r
def uptoBulkEntries {H : Type} : List (Lit × DataW H) → Nat
  | [] => 0
  | x :: r => uptoBulkEntry x + uptoBulkEntries r
def uptoBulkEntry {H : Type} : Lit × DataW H → Nat
  | (.string bytes, d) => bytes.length + uptoBulk d + 1
  | (_, d) => uptoBulk d + 1
 end
def uptoSmall : (H : Type) → List (DataW H) → Bool := fun _ ds => decide (uptoBulkAll ds ≤ 1048576)
def OpenSpec.upto (s : _root_.Go.ChangeSpec) : _root_.Go.OpenSpec := { _root_.Go.OpenSpec.ofChange s with cond := some uptoSmall }

/-- 'laws.FnUdps', WHERE WHAT IT READS IS OF BULK AT MOST 1048576: true; the input reads as it did. -/
def fnUdpsUptoRow : OpenClaim := { program := "ytjdellkdnempkaa", sum := "346e9534a071cc85af5e65c75fb34b436b9084a489c296b5b1026d56fb831408", func := "loop.example/g00675/laws.FnUdps", spec := "fnUdps", inPlace := ["internal/abi.NoEscape", "internal/bytealg.MakeNoZero"], apart := false, narrowed := true }
def FnUdpsUptoSaid : Prop := fnUdpsUptoRow.holds Try.pinned (OpenSpec.upto fnUdpsSpec)

/-- 'laws.FnUdpTurned', WHERE WHAT IT READS IS OF BULK AT MOST 1048576: true; the input reads as it did. -/
def fnUdpTurnedUptoRow : OpenClaim := { program := "ytjdellkdnempkaa", sum := "346e9534a071cc85af5e65c75fb34b436b9084a489c296b5b1026d56fb831408", func := "loop.example/g00675/laws.FnUdpTurned", spec := "fnUdpTurned", inPlace := ["internal/abi.NoEscape", "internal/bytealg.MakeNoZero"], apart := false, narrowed := true }
def FnUdpTurnedUptoSaid : Prop := fnUdpTurnedUptoRow.holds Try.pinned (OpenSpec.upto fnUdpTurnedSpec)

/-- 'laws.FnUdpBack', WHERE WHAT IT READS IS OF BULK AT MOST 1048576: true; the input reads as it did. -/
def fnUdpBackUptoRow : OpenClaim := { program := "ytjdellkdnempkaa", sum := "346e9534a071cc85af5e65c75fb34b436b9084a489c296b5b1026d56fb831408", func := "loop.example/g00675/laws.FnUdpBack", spec := "fnUdpBack", inPlace := ["internal/abi.NoEscape", "internal/bytealg.MakeNoZero"], apart := false, narrowed := true }
def FnUdpBackUptoSaid : Prop := fnUdpBackUptoRow.holds Try.pinned (OpenSpec.upto fnUdpBackSpec)

end Rows
end Go.Proofs.Ytjdellkdnempkaa
