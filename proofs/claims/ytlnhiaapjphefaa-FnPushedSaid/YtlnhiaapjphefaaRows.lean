/-
  No cell of these rows narrows 'for every input' (looked for: loops, veiled, ifaces, maps, wideKeys, modest, calm, conditions, laid).
  DERIVED. THE GIVEN ROWS OF THIS SEAT. 7 by the template 'for every input the law returns true; each argument reads behind the call as it read before'; 0 by the template 'total and deterministic' (their statements: YtlnhiaapjphefaaTotals.lean).
  GIVEN WITH THE SEED: the statements are not yours to turn. If you find one false, say at which input.
  Laid BY PROGRAM, IN A SANDBOX (cutbox-rows.mjs): the forced cells as the released guide's own fill.sh prints them over the translation 6072f1911f113120… (all of the seat's roots in one cut). By AI agents, Wed Nov 11 2026. No macro, syntax, notation, axiom, sorry.
-/
import Derived.Test.YtlnhiaapjphefaaChecked
import GoSem.Claim
import GoSem.ClaimJoined
import GoSem.ClaimMapViews
import Derived.JoinedTies
import Derived.KernelRfl
namespace Go.Proofs.Ytlnhiaapjphefaa
/- THE CELL 'sum', in the pinned program and in every row, IS THE sha256 OF THE DUMP (.gsa) THAT YtlnhiaapjphefaaProg.lean LOADS. Nothing in Lean hashes anything: it is a label: what it is worth is what the hold of that sum in a sandbox is worth. -/
noncomputable def Try.pinned : Pinned := { name := "ytlnhiaapjphefaa", sum := "6072f1911f113120fb6ad7020d9f13dc9b14a8fa85a3d3e78c796a949cdc1af7", checked := Try.checked }
namespace Rows
def none {H : Type} : Left H := { results := [], args := [] }

/-- 'laws.FnVxlan': WHATEVER THE INPUT: true; the input reads as it did. -/
def fnVxlanSpec : ChangeSpec := { name := "fnVxlan", fn := fun _ => fun
  | [d] => { results := [.lit (.bool true)], args := [d] }
  | _ => none }
def fnVxlanRow : OpenClaim := { program := "ytlnhiaapjphefaa", sum := "6072f1911f113120fb6ad7020d9f13dc9b14a8fa85a3d3e78c796a949cdc1af7", func := "loop.example/g00675/laws.FnVxlan", spec := "fnVxlan", inPlace := ["internal/abi.NoEscape", "internal/bytealg.MakeNoZero"], unfollowed := true, recurses := true, apart := false }
def FnVxlanSaid : Prop := fnVxlanRow.holds Try.pinned (OpenSpec.ofChange fnVxlanSpec)

/-- ITS FALSE NEIGHBOUR: 'it returns false'. Refute it at one input. -/
def fnVxlanWrong : ChangeSpec := { name := "fnVxlan", fn := fun _ => fun
  | [d] => { results := [.lit (.bool false)], args := [d] }
  | _ => none }
def FnVxlanWrongFalsely : Prop := fnVxlanRow.holds Try.pinned (OpenSpec.ofChange fnVxlanWrong)

/-- 'laws.FnGeneve': WHATEVER THE INPUT: true; the input reads as it did. -/
def fnGeneveSpec : ChangeSpec := { name := "fnGeneve", fn := fun _ => fun
  | [d] => { results := [.lit (.bool true)], args := [d] }
  | _ => none }
def fnGeneveRow : OpenClaim := { program := "ytlnhiaapjphefaa", sum := "6072f1911f113120fb6ad7020d9f13dc9b14a8fa85a3d3e78c796a949cdc1af7", func := "loop.example/g00675/laws.FnGeneve", spec := "fnGeneve", inPlace := ["internal/abi.NoEscape", "internal/bytealg.MakeNoZero"], unfollowed := true, recurses := true, apart := false }
def FnGeneveSaid : Prop := fnGeneveRow.holds Try.pinned (OpenSpec.ofChange fnGeneveSpec)

/-- ITS FALSE NEIGHBOUR: 'it returns false'. Refute it at one input. -/
def fnGeneveWrong : ChangeSpec := { name := "fnGeneve", fn := fun _ => fun
  | [d] => { results := [.lit (.bool false)], args := [d] }
  | _ => none }
def FnGeneveWrongFalsely : Prop := fnGeneveRow.holds Try.pinned (OpenSpec.ofChange fnGeneveWrong)

/-- 'laws.FnCritical': WHATEVER THE INPUT: true; the input reads as it did. -/
def fnCriticalSpec : ChangeSpec := { name := "fnCritical", fn := fun _ => fun
  | [d] => { results := [.lit (.bool true)], args := [d] }
  | _ => none }
def fnCriticalRow : OpenClaim := { program := "ytlnhiaapjphefaa", sum := "6072f1911f113120fb6ad7020d9f13dc9b14a8fa85a3d3e78c796a949cdc1af7", func := "loop.example/g00675/laws.FnCritical", spec := "fnCritical", inPlace := ["internal/abi.NoEscape", "internal/bytealg.MakeNoZero"], unfollowed := true, recurses := true, apart := false }
def FnCriticalSaid : Prop := fnCriticalRow.holds Try.pinned (OpenSpec.ofChange fnCriticalSpec)

/-- ITS FALSE NEIGHBOUR: 'it returns false'. Refute it at one input. -/
def fnCriticalWrong : ChangeSpec := { name := "fnCritical", fn := fun _ => fun
  | [d] => { results := [.lit (.bool false)], args := [d] }
  | _ => none }
def FnCriticalWrongFalsely : Prop := fnCriticalRow.holds Try.pinned (OpenSpec.ofChange fnCriticalWrong)

/-- 'laws.FnGre': WHATEVER THE INPUT: true; the input reads as it did. -/
def fnGreSpec : ChangeSpec := { name := "fnGre", fn := fun _ => fun
  | [d] => { results := [.lit (.bool true)], args := [d] }
  | _ => none }
def fnGreRow : OpenClaim := { program := "ytlnhiaapjphefaa", sum := "6072f1911f113120fb6ad7020d9f13dc9b14a8fa85a3d3e78c796a949cdc1af7", func := "loop.example/g00675/laws.FnGre", spec := "fnGre", inPlace := ["internal/abi.NoEscape", "internal/bytealg.MakeNoZero"], unfollowed := true, recurses := true, apart := false }
def FnGreSaid : Prop := fnGreRow.holds Try.pinned (OpenSpec.ofChange fnGreSpec)

/-- ITS FALSE NEIGHBOUR: 'it returns false'. Refute it at one input. -/
def fnGreWrong : ChangeSpec := { name := "fnGre", fn := fun _ => fun
  | [d] => { results := [.lit (.bool false)], args := [d] }
  | _ => none }
def FnGreWrongFalsely : Prop := fnGreRow.holds Try.pinned (OpenSpec.ofChange fnGreWrong)

/-- 'laws.FnGreTurned': WHATEVER THE INPUT: true; the input reads as it did. -/
def fnGreTurnedSpec : ChangeSpec := { name := "fnGreTurned", fn := fun _ => fun
  | [d] => { results := [.lit (.bool true)], args := [d] }
  | _ => none }
def fnGreTurnedRow : OpenClaim := { program := "ytlnhiaapjphefaa", sum := "6072f1911f113120fb6ad7020d9f13dc9b14a8fa85a3d3e78c796a949cdc1af7", func := "loop.example/g00675/laws.FnGreTurned", spec := "fnGreTurned", inPlace := ["internal/abi.NoEscape", "internal/bytealg.MakeNoZero"], unfollowed := true, recurses := true, apart := false }
def FnGreTurnedSaid : Prop := fnGreTurnedRow.holds Try.pinned (OpenSpec.ofChange fnGreTurnedSpec)

/-- ITS FALSE NEIGHBOUR: 'it returns false'. Refute it at one input. -/
def fnGreTurnedWrong : ChangeSpec := { name := "fnGreTurned", fn := fun _ => fun
  | [d] => { results := [.lit (.bool false)], args := [d] }
  | _ => none }
def FnGreTurnedWrongFalsely : Prop := fnGreTurnedRow.holds Try.pinned (OpenSpec.ofChange fnGreTurnedWrong)

/-- 'laws.FnMpls': WHATEVER THE INPUT: true; the input reads as it did. -/
def fnMplsSpec : ChangeSpec := { name := "fnMpls", fn := fun _ => fun
  | [d] => { results := [.lit (.bool true)], args := [d] }
  | _ => none }
def fnMplsRow : OpenClaim := { program := "ytlnhiaapjphefaa", sum := "6072f1911f113120fb6ad7020d9f13dc9b14a8fa85a3d3e78c796a949cdc1af7", func := "loop.example/g00675/laws.FnMpls", spec := "fnMpls", inPlace := ["internal/abi.NoEscape", "internal/bytealg.MakeNoZero"], unfollowed := true, recurses := true, apart := false }
def FnMplsSaid : Prop := fnMplsRow.holds Try.pinned (OpenSpec.ofChange fnMplsSpec)

/-- ITS FALSE NEIGHBOUR: 'it returns false'. Refute it at one input. -/
def fnMplsWrong : ChangeSpec := { name := "fnMpls", fn := fun _ => fun
  | [d] => { results := [.lit (.bool false)], args := [d] }
  | _ => none }
def FnMplsWrongFalsely : Prop := fnMplsRow.holds Try.pinned (OpenSpec.ofChange fnMplsWrong)

/-- 'laws.FnPushed': WHATEVER THE INPUT: true; the input reads as it did. -/
def fnPushedSpec : ChangeSpec := { name := "fnPushed", fn := fun _ => fun
  | [d] => { results := [.lit (.bool true)], args := [d] }
  | _ => none }
def fnPushedRow : OpenClaim := { program := "ytlnhiaapjphefaa", sum := "6072f1911f113120fb6ad7020d9f13dc9b14a8fa85a3d3e78c796a949cdc1af7", func := "loop.example/g00675/laws.FnPushed", spec := "fnPushed", unfollowed := true, recurses := true, apart := false }
def FnPushedSaid : Prop := fnPushedRow.holds Try.pinned (OpenSpec.ofChange fnPushedSpec)

/-- ITS FALSE NEIGHBOUR: 'it returns false'. Refute it at one input. -/
def fnPushedWrong : ChangeSpec := { name := "fnPushed", fn := fun _ => fun
  | [d] => { results := [.lit (.bool false)], args := [d] }
  | _ => none }
def FnPushedWrongFalsely : Prop := fnPushedRow.holds Try.pinned (OpenSpec.ofChange fnPushedWrong)

/- THE SECOND FORM. 'bulk': how many values and letters a reading holds, each counted each time it is reached (what is shared counts as often as it is met; a slice's spare places count too). A statement '..UptoSaid' is the law's where the arguments, and the package variables that the reading takes, are together of bulk at most 1048576: NARROWER than '..Said'. Prove '..Said' where nothing that the law and all that it calls make is longer than what came in: it says more and counts as full. Else prove '..UptoSaid'. A law counts once. -/
mutual
def uptoBulk {H : Type} : DataW H → Nat
  | .lit (.string bytes) => bytes.length + 1
  | .lit _ => 1
  | .nil => 1
  | .ptr d => uptoBulk d + 1
  | .slice elems spare => uptoBulkAll elems + uptoBulkAll spare + 1
  | .agg parts => uptoBulkAll parts + 1
  | .iface _ d => uptoBulk d + 1
  | .map entries => uptoBulkEntries entries + 1
  | .held _ => 1
def uptoBulkAll {H : Type} : List (DataW H) → Nat
  | [] => 0
  | d :: r => uptoBulk d + uptoBulkAll r
def uptoBulkEntries {H : Type} : List (Lit × DataW H) → Nat
  | [] => 0
  | x :: r => uptoBulkEntry x + uptoBulkEntries r
def uptoBulkEntry {H : Type} : Lit × DataW H → Nat
  | (.string bytes, d) => bytes.length + uptoBulk d + 1
  | (_, d) => uptoBulk d + 1
 end
def uptoSmall : (H : Type) → List (DataW H) → Bool := fun _ ds => decide (uptoBulkAll ds ≤ 1048576)
def OpenSpec.upto (s : _root_.Go.ChangeSpec) : _root_.Go.OpenSpec := { _root_.Go.OpenSpec.ofChange s with cond := some uptoSmall }

/-- 'laws.FnVxlan', WHERE WHAT IT READS IS OF BULK AT MOST 1048576: true; the input reads as it did. -/
def fnVxlanUptoRow : OpenClaim := { program := "ytlnhiaapjphefaa", sum := "6072f1911f113120fb6ad7020d9f13dc9b14a8fa85a3d3e78c796a949cdc1af7", func := "loop.example/g00675/laws.FnVxlan", spec := "fnVxlan", inPlace := ["internal/abi.NoEscape", "internal/bytealg.MakeNoZero"], unfollowed := true, recurses := true, apart := false, narrowed := true }
def FnVxlanUptoSaid : Prop := fnVxlanUptoRow.holds Try.pinned (OpenSpec.upto fnVxlanSpec)

/-- 'laws.FnGeneve', WHERE WHAT IT READS IS OF BULK AT MOST 1048576: true; the input reads as it did. -/
def fnGeneveUptoRow : OpenClaim := { program := "ytlnhiaapjphefaa", sum := "6072f1911f113120fb6ad7020d9f13dc9b14a8fa85a3d3e78c796a949cdc1af7", func := "loop.example/g00675/laws.FnGeneve", spec := "fnGeneve", inPlace := ["internal/abi.NoEscape", "internal/bytealg.MakeNoZero"], unfollowed := true, recurses := true, apart := false, narrowed := true }
def FnGeneveUptoSaid : Prop := fnGeneveUptoRow.holds Try.pinned (OpenSpec.upto fnGeneveSpec)

/-- 'laws.FnCritical', WHERE WHAT IT READS IS OF BULK AT MOST 1048576: true; the input reads as it did. -/
def fnCriticalUptoRow : OpenClaim := { program := "ytlnhiaapjphefaa", sum := "6072f1911f113120fb6ad7020d9f13dc9b14a8fa85a3d3e78c796a949cdc1af7", func := "loop.example/g00675/laws.FnCritical", spec := "fnCritical", inPlace := ["internal/abi.NoEscape", "internal/bytealg.MakeNoZero"], unfollowed := true, recurses := true, apart := false, narrowed := true }
def FnCriticalUptoSaid : Prop := fnCriticalUptoRow.holds Try.pinned (OpenSpec.upto fnCriticalSpec)

/-- 'laws.FnGre', WHERE WHAT IT READS IS OF BULK AT MOST 1048576: true; the input reads as it did. -/
def fnGreUptoRow : OpenClaim := { program := "ytlnhiaapjphefaa", sum := "6072f1911f113120fb6ad7020d9f13dc9b14a8fa85a3d3e78c796a949cdc1af7", func := "loop.example/g00675/laws.FnGre", spec := "fnGre", inPlace := ["internal/abi.NoEscape", "internal/bytealg.MakeNoZero"], unfollowed := true, recurses := true, apart := false, narrowed := true }
def FnGreUptoSaid : Prop := fnGreUptoRow.holds Try.pinned (OpenSpec.upto fnGreSpec)

/-- 'laws.FnGreTurned', WHERE WHAT IT READS IS OF BULK AT MOST 1048576: true; the input reads as it did. -/
def fnGreTurnedUptoRow : OpenClaim := { program := "ytlnhiaapjphefaa", sum := "6072f1911f113120fb6ad7020d9f13dc9b14a8fa85a3d3e78c796a949cdc1af7", func := "loop.example/g00675/laws.FnGreTurned", spec := "fnGreTurned", inPlace := ["internal/abi.NoEscape", "internal/bytealg.MakeNoZero"], unfollowed := true, recurses := true, apart := false, narrowed := true }
def FnGreTurnedUptoSaid : Prop := fnGreTurnedUptoRow.holds Try.pinned (OpenSpec.upto fnGreTurnedSpec)

/-- 'laws.FnMpls', WHERE WHAT IT READS IS OF BULK AT MOST 1048576: true; the input reads as it did. -/
def fnMplsUptoRow : OpenClaim := { program := "ytlnhiaapjphefaa", sum := "6072f1911f113120fb6ad7020d9f13dc9b14a8fa85a3d3e78c796a949cdc1af7", func := "loop.example/g00675/laws.FnMpls", spec := "fnMpls", inPlace := ["internal/abi.NoEscape", "internal/bytealg.MakeNoZero"], unfollowed := true, recurses := true, apart := false, narrowed := true }
def FnMplsUptoSaid : Prop := fnMplsUptoRow.holds Try.pinned (OpenSpec.upto fnMplsSpec)

/-- 'laws.FnPushed', WHERE WHAT IT READS IS OF BULK AT MOST 1048576: true; the input reads as it did. -/
def fnPushedUptoRow : OpenClaim := { program := "ytlnhiaapjphefaa", sum := "6072f1911f113120fb6ad7020d9f13dc9b14a8fa85a3d3e78c796a949cdc1af7", func := "loop.example/g00675/laws.FnPushed", spec := "fnPushed", unfollowed := true, recurses := true, apart := false, narrowed := true }
def FnPushedUptoSaid : Prop := fnPushedUptoRow.holds Try.pinned (OpenSpec.upto fnPushedSpec)

end Rows
end Go.Proofs.Ytlnhiaapjphefaa
