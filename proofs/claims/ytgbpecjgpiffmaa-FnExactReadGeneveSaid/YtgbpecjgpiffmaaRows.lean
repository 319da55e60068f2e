/-
  No cell of these rows narrows 'for every input' (looked for: loops, veiled, ifaces, maps, wideKeys, modest, calm, conditions, laid).
  DERIVED. THE GIVEN ROWS OF THIS SEAT. 7 by the template 'for every input the law returns true; each argument reads behind the call as it read before'; 0 by the template 'total and deterministic' (their statements: YtgbpecjgpiffmaaTotals.lean).
  GIVEN WITH THE SEED: the statements are not yours to turn. If you find one false, say at which input.
  Laid BY PROGRAM, IN A SANDBOX (cutbox-rows.mjs): the forced cells as the released guide's own fill.sh prints them over the translation 33c4bec2758c68bf… (all of the seat's roots in one cut). By AI agents, Wed Nov 11 2026. No macro, syntax, notation, axiom, sorry.
-/
import Derived.Test.YtgbpecjgpiffmaaChecked
import GoSem.Claim
import GoSem.ClaimJoined
import GoSem.ClaimMapViews
import Derived.JoinedTies
import Derived.KernelRfl
namespace Go.Proofs.Ytgbpecjgpiffmaa
/- THE CELL 'sum', in the pinned program and in every row, IS THE sha256 OF THE DUMP (.gsa) THAT YtgbpecjgpiffmaaProg.lean LOADS. Nothing in Lean hashes anything: it is a label: what it is worth is what the hold of that sum in a sandbox is worth. -/
noncomputable def Try.pinned : Pinned := { name := "ytgbpecjgpiffmaa", sum := "33c4bec2758c68bfcb26f9007aa44887a3d7c4759f5a0f634149a986299adcff", checked := Try.checked }
namespace Rows
def none {H : Type} : Left H := { results := [], args := [] }

/-- 'laws.FnExactReadGre': WHATEVER THE INPUT: true; the input reads as it did. -/
def fnExactReadGreSpec : ChangeSpec := { name := "fnExactReadGre", fn := fun _ => fun
  | [d] => { results := [.lit (.bool true)], args := [d] }
  | _ => none }
def fnExactReadGreRow : OpenClaim := { program := "ytgbpecjgpiffmaa", sum := "33c4bec2758c68bfcb26f9007aa44887a3d7c4759f5a0f634149a986299adcff", func := "loop.example/g00675/laws.FnExactReadGre", spec := "fnExactReadGre", inPlace := ["internal/abi.NoEscape", "internal/bytealg.MakeNoZero"], unfollowed := true, recurses := true, apart := false }
def FnExactReadGreSaid : Prop := fnExactReadGreRow.holds Try.pinned (OpenSpec.ofChange fnExactReadGreSpec)

/-- ITS FALSE NEIGHBOUR: 'it returns false'. Refute it at one input. -/
def fnExactReadGreWrong : ChangeSpec := { name := "fnExactReadGre", fn := fun _ => fun
  | [d] => { results := [.lit (.bool false)], args := [d] }
  | _ => none }
def FnExactReadGreWrongFalsely : Prop := fnExactReadGreRow.holds Try.pinned (OpenSpec.ofChange fnExactReadGreWrong)

/-- 'laws.FnExactGeneveBytes': WHATEVER THE INPUT: true; the input reads as it did. -/
def fnExactGeneveBytesSpec : ChangeSpec := { name := "fnExactGeneveBytes", fn := fun _ => fun
  | [d1, d2, d3] => { results := [.lit (.bool true)], args := [d1, d2, d3] }
  | _ => none }
def fnExactGeneveBytesRow : OpenClaim := { program := "ytgbpecjgpiffmaa", sum := "33c4bec2758c68bfcb26f9007aa44887a3d7c4759f5a0f634149a986299adcff", func := "loop.example/g00675/laws.FnExactGeneveBytes", spec := "fnExactGeneveBytes", unfollowed := true, recurses := true, apart := false }
def FnExactGeneveBytesSaid : Prop := fnExactGeneveBytesRow.holds Try.pinned (OpenSpec.ofChange fnExactGeneveBytesSpec)

/-- ITS FALSE NEIGHBOUR: 'it returns false'. Refute it at one input. -/
def fnExactGeneveBytesWrong : ChangeSpec := { name := "fnExactGeneveBytes", fn := fun _ => fun
  | [d1, d2, d3] => { results := [.lit (.bool false)], args := [d1, d2, d3] }
  | _ => none }
def FnExactGeneveBytesWrongFalsely : Prop := fnExactGeneveBytesRow.holds Try.pinned (OpenSpec.ofChange fnExactGeneveBytesWrong)

/-- 'laws.FnExactReadGeneve': WHATEVER THE INPUT: true; the input reads as it did. -/
def fnExactReadGeneveSpec : ChangeSpec := { name := "fnExactReadGeneve", fn := fun _ => fun
  | [d] => { results := [.lit (.bool true)], args := [d] }
  | _ => none }
def fnExactReadGeneveRow : OpenClaim := { program := "ytgbpecjgpiffmaa", sum := "33c4bec2758c68bfcb26f9007aa44887a3d7c4759f5a0f634149a986299adcff", func := "loop.example/g00675/laws.FnExactReadGeneve", spec := "fnExactReadGeneve", inPlace := ["internal/abi.NoEscape", "internal/bytealg.MakeNoZero"], unfollowed := true, recurses := true, apart := false }
def FnExactReadGeneveSaid : Prop := fnExactReadGeneveRow.holds Try.pinned (OpenSpec.ofChange fnExactReadGeneveSpec)

/-- ITS FALSE NEIGHBOUR: 'it returns false'. Refute it at one input. -/
def fnExactReadGeneveWrong : ChangeSpec := { name := "fnExactReadGeneve", fn := fun _ => fun
  | [d] => { results := [.lit (.bool false)], args := [d] }
  | _ => none }
def FnExactReadGeneveWrongFalsely : Prop := fnExactReadGeneveRow.holds Try.pinned (OpenSpec.ofChange fnExactReadGeneveWrong)

/-- 'laws.FnGre': WHATEVER THE INPUT: true; the input reads as it did. -/
def fnGreSpec : ChangeSpec := { name := "fnGre", fn := fun _ => fun
  | [d] => { results := [.lit (.bool true)], args := [d] }
  | _ => none }
def fnGreRow : OpenClaim := { program := "ytgbpecjgpiffmaa", sum := "33c4bec2758c68bfcb26f9007aa44887a3d7c4759f5a0f634149a986299adcff", func := "loop.example/g00675/laws.FnGre", spec := "fnGre", inPlace := ["internal/abi.NoEscape", "internal/bytealg.MakeNoZero"], unfollowed := true, recurses := true, apart := false }
def FnGreSaid : Prop := fnGreRow.holds Try.pinned (OpenSpec.ofChange fnGreSpec)

/-- ITS FALSE NEIGHBOUR: 'it returns false'. Refute it at one input. -/
def fnGreWrong : ChangeSpec := { name := "fnGre", fn := fun _ => fun
  | [d] => { results := [.lit (.bool false)], args := [d] }
  | _ => none }
def FnGreWrongFalsely : Prop := fnGreRow.holds Try.pinned (OpenSpec.ofChange fnGreWrong)

/-- 'laws.FnGreTurned': WHATEVER THE INPUT: true; the input reads as it did. -/
def fnGreTurnedSpec : ChangeSpec := { name := "fnGreTurned", fn := fun _ => fun
  | [d] => { results := [.lit (.bool true)], args := [d] }
  | _ => none }
def fnGreTurnedRow : OpenClaim := { program := "ytgbpecjgpiffmaa", sum := "33c4bec2758c68bfcb26f9007aa44887a3d7c4759f5a0f634149a986299adcff", func := "loop.example/g00675/laws.FnGreTurned", spec := "fnGreTurned", inPlace := ["internal/abi.NoEscape", "internal/bytealg.MakeNoZero"], unfollowed := true, recurses := true, apart := false }
def FnGreTurnedSaid : Prop := fnGreTurnedRow.holds Try.pinned (OpenSpec.ofChange fnGreTurnedSpec)

/-- ITS FALSE NEIGHBOUR: 'it returns false'. Refute it at one input. -/
def fnGreTurnedWrong : ChangeSpec := { name := "fnGreTurned", fn := fun _ => fun
  | [d] => { results := [.lit (.bool false)], args := [d] }
  | _ => none }
def FnGreTurnedWrongFalsely : Prop := fnGreTurnedRow.holds Try.pinned (OpenSpec.ofChange fnGreTurnedWrong)

/-- 'laws.FnGeneve': WHATEVER THE INPUT: true; the input reads as it did. -/
def fnGeneveSpec : ChangeSpec := { name := "fnGeneve", fn := fun _ => fun
  | [d] => { results := [.lit (.bool true)], args := [d] }
  | _ => none }
def fnGeneveRow : OpenClaim := { program := "ytgbpecjgpiffmaa", sum := "33c4bec2758c68bfcb26f9007aa44887a3d7c4759f5a0f634149a986299adcff", func := "loop.example/g00675/laws.FnGeneve", spec := "fnGeneve", inPlace := ["internal/abi.NoEscape", "internal/bytealg.MakeNoZero"], unfollowed := true, recurses := true, apart := false }
def FnGeneveSaid : Prop := fnGeneveRow.holds Try.pinned (OpenSpec.ofChange fnGeneveSpec)

/-- ITS FALSE NEIGHBOUR: 'it returns false'. Refute it at one input. -/
def fnGeneveWrong : ChangeSpec := { name := "fnGeneve", fn := fun _ => fun
  | [d] => { results := [.lit (.bool false)], args := [d] }
  | _ => none }
def FnGeneveWrongFalsely : Prop := fnGeneveRow.holds Try.pinned (OpenSpec.ofChange fnGeneveWrong)

/-- 'laws.FnCritical': WHATEVER THE INPUT: true; the input reads as it did. -/
def fnCriticalSpec : ChangeSpec := { name := "fnCritical", fn := fun _ => fun
  | [d] => { results := [.lit (.bool true)], args := [d] }
  | _ => none }
def fnCriticalRow : OpenClaim := { program := "ytgbpecjgpiffmaa", sum := "33c4bec2758c68bfcb26f9007aa44887a3d7c4759f5a0f634149a986299adcff", func := "loop.example/g00675/laws.FnCritical", spec := "fnCritical", inPlace := ["internal/abi.NoEscape", "internal/bytealg.MakeNoZero"], unfollowed := true, recurses := true, apart := false }
def FnCriticalSaid : Prop := fnCriticalRow.holds Try.pinned (OpenSpec.ofChange fnCriticalSpec)

/-- ITS FALSE NEIGHBOUR: 'it returns false'. Refute it at one input. -/
def fnCriticalWrong : ChangeSpec := { name := "fnCritical", fn := fun _ => fun
  | [d] => { results := [.lit (.bool false)], args := [d] }
  | _ => none }
def FnCriticalWrongFalsely : Prop := fnCriticalRow.holds Try.pinned (OpenSpec.ofChange fnCriticalWrong)

/- THE SECOND FORM. 'bulk': how many values and letters a reading holds, each counted each time it is reached (what is shared counts as often as it is met; a slice's spare places count too). A statement '..UptoSaid' is the law's where the arguments, and the package variables that the reading takes, are together of bulk at most 1048576: NARROWER than '..Said'. Prove '..Said' where nothing that the law and all that it calls make is longer than what came in: it says more and counts as full. Else prove '..UptoSaid'. A law counts once. -/
mutual
def uptoBulk {H : Type} : DataW H → Nat
  | .lit (.string bytes) => bytes.length + 1
  | .lit _ => 1
  | .nil => 1
  | .ptr d => uptoBulk d + 1
  | .slice elems spare => uptoBulkAll elems + uptoBulkAll spare + 1
  | .agg parts => uptoBulkAll parts + 1
  | .iface _ d => uptoBulk d + 1
  | .map entries => uptoBulkEntries entries + 1
  | .held _ => 1
def uptoBulkAll {H : Type} : List (DataW H) → Nat
  | [] => 0
  | d :: r => uptoBulk d + uptoBulkAll r
def uptoBulkEntries {H : Type} : List (Lit × DataW H) → Nat
  | [] => 0
  | x :: r => uptoBulkEntry x + uptoBulkEntries r
def uptoBulkEntry {H : Type} : Lit × DataW H → Nat
  | (.string bytes, d) => bytes.length + uptoBulk d + 1
  | (_, d) => uptoBulk d + 1
 end
def uptoSmall : (H : Type) → List (DataW H) → Bool := fun _ ds => decide (uptoBulkAll ds ≤ 1048576)
def OpenSpec.upto (s : _root_.Go.ChangeSpec) : _root_.Go.OpenSpec := { _root_.Go.OpenSpec.ofChange s with cond := some uptoSmall }

/-- 'laws.FnExactReadGre', WHERE WHAT IT READS IS OF BULK AT MOST 1048576: true; the input reads as it did. -/
def fnExactReadGreUptoRow : OpenClaim := { program := "ytgbpecjgpiffmaa", sum := "33c4bec2758c68bfcb26f9007aa44887a3d7c4759f5a0f634149a986299adcff", func := "loop.example/g00675/laws.FnExactReadGre", spec := "fnExactReadGre", inPlace := ["internal/abi.NoEscape", "internal/bytealg.MakeNoZero"], unfollowed := true, recurses := true, apart := false, narrowed := true }
def FnExactReadGreUptoSaid : Prop := fnExactReadGreUptoRow.holds Try.pinned (OpenSpec.upto fnExactReadGreSpec)

/-- 'laws.FnExactGeneveBytes', WHERE WHAT IT READS IS OF BULK AT MOST 1048576: true; the input reads as it did. -/
def fnExactGeneveBytesUptoRow : OpenClaim := { program := "ytgbpecjgpiffmaa", sum := "33c4bec2758c68bfcb26f9007aa44887a3d7c4759f5a0f634149a986299adcff", func := "loop.example/g00675/laws.FnExactGeneveBytes", spec := "fnExactGeneveBytes", unfollowed := true, recurses := true, apart := false, narrowed := true }
def FnExactGeneveBytesUptoSaid : Prop := fnExactGeneveBytesUptoRow.holds Try.pinned (OpenSpec.upto fnExactGeneveBytesSpec)

/-- 'laws.FnExactReadGeneve', WHERE WHAT IT READS IS OF BULK AT MOST 1048576: true; the input reads as it did. -/
def fnExactReadGeneveUptoRow : OpenClaim := { program := "ytgbpecjgpiffmaa", sum := "33c4bec2758c68bfcb26f9007aa44887a3d7c4759f5a0f634149a986299adcff", func := "loop.example/g00675/laws.FnExactReadGeneve", spec := "fnExactReadGeneve", inPlace := ["internal/abi.NoEscape", "internal/bytealg.MakeNoZero"], unfollowed := true, recurses := true, apart := false, narrowed := true }
def FnExactReadGeneveUptoSaid : Prop := fnExactReadGeneveUptoRow.holds Try.pinned (OpenSpec.upto fnExactReadGeneveSpec)

/-- 'laws.FnGre', WHERE WHAT IT READS IS OF BULK AT MOST 1048576: true; the input reads as it did. -/
def fnGreUptoRow : OpenClaim := { program := "ytgbpecjgpiffmaa", sum := "33c4bec2758c68bfcb26f9007aa44887a3d7c4759f5a0f634149a986299adcff", func := "loop.example/g00675/laws.FnGre", spec := "fnGre", inPlace := ["internal/abi.NoEscape", "internal/bytealg.MakeNoZero"], unfollowed := true, recurses := true, apart := false, narrowed := true }
def FnGreUptoSaid : Prop := fnGreUptoRow.holds Try.pinned (OpenSpec.upto fnGreSpec)

/-- 'laws.FnGreTurned', WHERE WHAT IT READS IS OF BULK AT MOST 1048576: true; the input reads as it did. -/
def fnGreTurnedUptoRow : OpenClaim := { program := "ytgbpecjgpiffmaa", sum := "33c4bec2758c68bfcb26f9007aa44887a3d7c4759f5a0f634149a986299adcff", func := "loop.example/g00675/laws.FnGreTurned", spec := "fnGreTurned", inPlace := ["internal/abi.NoEscape", "internal/bytealg.MakeNoZero"], unfollowed := true, recurses := true, apart := false, narrowed := true }
def FnGreTurnedUptoSaid : Prop := fnGreTurnedUptoRow.holds Try.pinned (OpenSpec.upto fnGreTurnedSpec)

/-- 'laws.FnGeneve', WHERE WHAT IT READS IS OF BULK AT MOST 1048576: true; the input reads as it did. -/
def fnGeneveUptoRow : OpenClaim := { program := "ytgbpecjgpiffmaa", sum := "33c4bec2758c68bfcb26f9007aa44887a3d7c4759f5a0f634149a986299adcff", func := "loop.example/g00675/laws.FnGeneve", spec := "fnGeneve", inPlace := ["internal/abi.NoEscape", "internal/bytealg.MakeNoZero"], unfollowed := true, recurses := true, apart := false, narrowed := true }
def FnGeneveUptoSaid : Prop := fnGeneveUptoRow.holds Try.pinned (OpenSpec.upto fnGeneveSpec)

/-- 'laws.FnCritical', WHERE WHAT IT READS IS OF BULK AT MOST 1048576: true; the input reads as it did. -/
def fnCriticalUptoRow : OpenClaim := { program := "ytgbpecjgpiffmaa", sum := "33c4bec2758c68bfcb26f9007aa44887a3d7c4759f5a0f634149a986299adcff", func := "loop.example/g00675/laws.FnCritical", spec := "fnCritical", inPlace := ["internal/abi.NoEscape", "internal/bytealg.MakeNoZero"], unfollowed := true, recurses := true, apart := false, narrowed := true }
def FnCriticalUptoSaid : Prop := fnCriticalUptoRow.holds Try.pinned (OpenSpec.upto fnCriticalSpec)

end Rows
end Go.Proofs.Ytgbpecjgpiffmaa
