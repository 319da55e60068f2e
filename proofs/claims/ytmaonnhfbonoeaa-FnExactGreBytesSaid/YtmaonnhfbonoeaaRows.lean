/-
  No cell of these rows narrows 'for every input' (looked for: loops, veiled, ifaces, maps, wideKeys, modest, calm, conditions, laid).
  DERIVED. THE GIVEN ROWS OF THIS SEAT. 10 by the template 'for every input the law returns true; each argument reads behind the call as it read before'; 0 by the template 'total and deterministic' (their statements: YtmaonnhfbonoeaaTotals.lean).
  GIVEN WITH THE SEED: the statements are not yours to turn. If you find one false, say at which input.
  Laid BY PROGRAM, IN A SANDBOX (cutbox-rows.mjs): the forced cells as the released guide's own fill.sh prints them over the translation 63f2b38d5514fc43… (all of the seat's roots in one cut). By AI agents, Wed Nov 11 2026. No macro, syntax, notation, axiom, sorry.
-/
import Derived.Test.YtmaonnhfbonoeaaChecked
import GoSem.Claim
import GoSem.ClaimJoined
import GoSem.ClaimMapViews
import Derived.JoinedTies
import Derived.KernelRfl
namespace Go.Proofs.Ytmaonnhfbonoeaa
/- THE CELL 'sum', in the pinned program and in every row, IS THE sha256 OF THE DUMP (.gsa) THAT YtmaonnhfbonoeaaProg.lean LOADS. Nothing in Lean hashes anything: it is a label: what it is worth is what the hold of that sum in a sandbox is worth. -/
noncomputable def Try.pinned : Pinned := { name := "ytmaonnhfbonoeaa", sum := "63f2b38d5514fc43b2971cbf361c09b5d7d7b7d808656a4dba115b6034478e55", checked := Try.checked }
namespace Rows
def none {H : Type} : Left H := { results := [], args := [] }

/-- 'laws.FnExactVxlanBytes': WHATEVER THE INPUT: true; the input reads as it did. -/
def fnExactVxlanBytesSpec : ChangeSpec := { name := "fnExactVxlanBytes", fn := fun _ => fun
  | [d1, d2] => { results := [.lit (.bool true)], args := [d1, d2] }
  | _ => none }
def fnExactVxlanBytesRow : OpenClaim := { program := "ytmaonnhfbonoeaa", sum := "63f2b38d5514fc43b2971cbf361c09b5d7d7b7d808656a4dba115b6034478e55", func := "loop.example/g00675/laws.FnExactVxlanBytes", spec := "fnExactVxlanBytes", unfollowed := true, recurses := true, apart := false }
def FnExactVxlanBytesSaid : Prop := fnExactVxlanBytesRow.holds Try.pinned (OpenSpec.ofChange fnExactVxlanBytesSpec)

/-- ITS FALSE NEIGHBOUR: 'it returns false'. Refute it at one input. -/
def fnExactVxlanBytesWrong : ChangeSpec := { name := "fnExactVxlanBytes", fn := fun _ => fun
  | [d1, d2] => { results := [.lit (.bool false)], args := [d1, d2] }
  | _ => none }
def FnExactVxlanBytesWrongFalsely : Prop := fnExactVxlanBytesRow.holds Try.pinned (OpenSpec.ofChange fnExactVxlanBytesWrong)

/-- 'laws.FnExactReadVxlan': WHATEVER THE INPUT: true; the input reads as it did. -/
def fnExactReadVxlanSpec : ChangeSpec := { name := "fnExactReadVxlan", fn := fun _ => fun
  | [d] => { results := [.lit (.bool true)], args := [d] }
  | _ => none }
def fnExactReadVxlanRow : OpenClaim := { program := "ytmaonnhfbonoeaa", sum := "63f2b38d5514fc43b2971cbf361c09b5d7d7b7d808656a4dba115b6034478e55", func := "loop.example/g00675/laws.FnExactReadVxlan", spec := "fnExactReadVxlan", inPlace := ["internal/abi.NoEscape", "internal/bytealg.MakeNoZero"], unfollowed := true, recurses := true, apart := false }
def FnExactReadVxlanSaid : Prop := fnExactReadVxlanRow.holds Try.pinned (OpenSpec.ofChange fnExactReadVxlanSpec)

/-- ITS FALSE NEIGHBOUR: 'it returns false'. Refute it at one input. -/
def fnExactReadVxlanWrong : ChangeSpec := { name := "fnExactReadVxlan", fn := fun _ => fun
  | [d] => { results := [.lit (.bool false)], args := [d] }
  | _ => none }
def FnExactReadVxlanWrongFalsely : Prop := fnExactReadVxlanRow.holds Try.pinned (OpenSpec.ofChange fnExactReadVxlanWrong)

/-- 'laws.FnExactGeneveBytes': WHATEVER THE INPUT: true; the input reads as it did. -/
def fnExactGeneveBytesSpec : ChangeSpec := { name := "fnExactGeneveBytes", fn := fun _ => fun
  | [d1, d2, d3] => { results := [.lit (.bool true)], args := [d1, d2, d3] }
  | _ => none }
def fnExactGeneveBytesRow : OpenClaim := { program := "ytmaonnhfbonoeaa", sum := "63f2b38d5514fc43b2971cbf361c09b5d7d7b7d808656a4dba115b6034478e55", func := "loop.example/g00675/laws.FnExactGeneveBytes", spec := "fnExactGeneveBytes", unfollowed := true, recurses := true, apart := false }
def FnExactGeneveBytesSaid : Prop := fnExactGeneveBytesRow.holds Try.pinned (OpenSpec.ofChange fnExactGeneveBytesSpec)

/-- ITS FALSE NEIGHBOUR: 'it returns false'. Refute it at one input. -/
def fnExactGeneveBytesWrong : ChangeSpec := { name := "fnExactGeneveBytes", fn := fun _ => fun
  | [d1, d2, d3] => { results := [.lit (.bool false)], args := [d1, d2, d3] }
  | _ => none }
def FnExactGeneveBytesWrongFalsely : Prop := fnExactGeneveBytesRow.holds Try.pinned (OpenSpec.ofChange fnExactGeneveBytesWrong)

/-- 'laws.FnExactReadGeneve': WHATEVER THE INPUT: true; the input reads as it did. -/
def fnExactReadGeneveSpec : ChangeSpec := { name := "fnExactReadGeneve", fn := fun _ => fun
  | [d] => { results := [.lit (.bool true)], args := [d] }
  | _ => none }
def fnExactReadGeneveRow : OpenClaim := { program := "ytmaonnhfbonoeaa", sum := "63f2b38d5514fc43b2971cbf361c09b5d7d7b7d808656a4dba115b6034478e55", func := "loop.example/g00675/laws.FnExactReadGeneve", spec := "fnExactReadGeneve", inPlace := ["internal/abi.NoEscape", "internal/bytealg.MakeNoZero"], unfollowed := true, recurses := true, apart := false }
def FnExactReadGeneveSaid : Prop := fnExactReadGeneveRow.holds Try.pinned (OpenSpec.ofChange fnExactReadGeneveSpec)

/-- ITS FALSE NEIGHBOUR: 'it returns false'. Refute it at one input. -/
def fnExactReadGeneveWrong : ChangeSpec := { name := "fnExactReadGeneve", fn := fun _ => fun
  | [d] => { results := [.lit (.bool false)], args := [d] }
  | _ => none }
def FnExactReadGeneveWrongFalsely : Prop := fnExactReadGeneveRow.holds Try.pinned (OpenSpec.ofChange fnExactReadGeneveWrong)

/-- 'laws.FnExactGreBytes': WHATEVER THE INPUT: true; the input reads as it did. -/
def fnExactGreBytesSpec : ChangeSpec := { name := "fnExactGreBytes", fn := fun _ => fun
  | [d] => { results := [.lit (.bool true)], args := [d] }
  | _ => none }
def fnExactGreBytesRow : OpenClaim := { program := "ytmaonnhfbonoeaa", sum := "63f2b38d5514fc43b2971cbf361c09b5d7d7b7d808656a4dba115b6034478e55", func := "loop.example/g00675/laws.FnExactGreBytes", spec := "fnExactGreBytes", inPlace := ["internal/abi.NoEscape", "internal/bytealg.MakeNoZero"], unfollowed := true, recurses := true, apart := false }
def FnExactGreBytesSaid : Prop := fnExactGreBytesRow.holds Try.pinned (OpenSpec.ofChange fnExactGreBytesSpec)

/-- ITS FALSE NEIGHBOUR: 'it returns false'. Refute it at one input. -/
def fnExactGreBytesWrong : ChangeSpec := { name := "fnExactGreBytes", fn := fun _ => fun
  | [d] => { results := [.lit (.bool false)], args := [d] }
  | _ => none }
def FnExactGreBytesWrongFalsely : Prop := fnExactGreBytesRow.holds Try.pinned (OpenSpec.ofChange fnExactGreBytesWrong)

/-- 'laws.FnExactReadGre': WHATEVER THE INPUT: true; the input reads as it did. -/
def fnExactReadGreSpec : ChangeSpec := { name := "fnExactReadGre", fn := fun _ => fun
  | [d] => { results := [.lit (.bool true)], args := [d] }
  | _ => none }
def fnExactReadGreRow : OpenClaim := { program := "ytmaonnhfbonoeaa", sum := "63f2b38d5514fc43b2971cbf361c09b5d7d7b7d808656a4dba115b6034478e55", func := "loop.example/g00675/laws.FnExactReadGre", spec := "fnExactReadGre", inPlace := ["internal/abi.NoEscape", "internal/bytealg.MakeNoZero"], unfollowed := true, recurses := true, apart := false }
def FnExactReadGreSaid : Prop := fnExactReadGreRow.holds Try.pinned (OpenSpec.ofChange fnExactReadGreSpec)

/-- ITS FALSE NEIGHBOUR: 'it returns false'. Refute it at one input. -/
def fnExactReadGreWrong : ChangeSpec := { name := "fnExactReadGre", fn := fun _ => fun
  | [d] => { results := [.lit (.bool false)], args := [d] }
  | _ => none }
def FnExactReadGreWrongFalsely : Prop := fnExactReadGreRow.holds Try.pinned (OpenSpec.ofChange fnExactReadGreWrong)

/-- 'laws.FnExactMplsBytes': WHATEVER THE INPUT: true; the input reads as it did. -/
def fnExactMplsBytesSpec : ChangeSpec := { name := "fnExactMplsBytes", fn := fun _ => fun
  | [d1, d2] => { results := [.lit (.bool true)], args := [d1, d2] }
  | _ => none }
def fnExactMplsBytesRow : OpenClaim := { program := "ytmaonnhfbonoeaa", sum := "63f2b38d5514fc43b2971cbf361c09b5d7d7b7d808656a4dba115b6034478e55", func := "loop.example/g00675/laws.FnExactMplsBytes", spec := "fnExactMplsBytes", unfollowed := true, recurses := true, apart := false }
def FnExactMplsBytesSaid : Prop := fnExactMplsBytesRow.holds Try.pinned (OpenSpec.ofChange fnExactMplsBytesSpec)

/-- ITS FALSE NEIGHBOUR: 'it returns false'. Refute it at one input. -/
def fnExactMplsBytesWrong : ChangeSpec := { name := "fnExactMplsBytes", fn := fun _ => fun
  | [d1, d2] => { results := [.lit (.bool false)], args := [d1, d2] }
  | _ => none }
def FnExactMplsBytesWrongFalsely : Prop := fnExactMplsBytesRow.holds Try.pinned (OpenSpec.ofChange fnExactMplsBytesWrong)

/-- 'laws.FnExactReadMpls': WHATEVER THE INPUT: true; the input reads as it did. -/
def fnExactReadMplsSpec : ChangeSpec := { name := "fnExactReadMpls", fn := fun _ => fun
  | [d] => { results := [.lit (.bool true)], args := [d] }
  | _ => none }
def fnExactReadMplsRow : OpenClaim := { program := "ytmaonnhfbonoeaa", sum := "63f2b38d5514fc43b2971cbf361c09b5d7d7b7d808656a4dba115b6034478e55", func := "loop.example/g00675/laws.FnExactReadMpls", spec := "fnExactReadMpls", inPlace := ["internal/abi.NoEscape", "internal/bytealg.MakeNoZero"], unfollowed := true, recurses := true, apart := false }
def FnExactReadMplsSaid : Prop := fnExactReadMplsRow.holds Try.pinned (OpenSpec.ofChange fnExactReadMplsSpec)

/-- ITS FALSE NEIGHBOUR: 'it returns false'. Refute it at one input. -/
def fnExactReadMplsWrong : ChangeSpec := { name := "fnExactReadMpls", fn := fun _ => fun
  | [d] => { results := [.lit (.bool false)], args := [d] }
  | _ => none }
def FnExactReadMplsWrongFalsely : Prop := fnExactReadMplsRow.holds Try.pinned (OpenSpec.ofChange fnExactReadMplsWrong)

/-- 'laws.FnExactPushed': WHATEVER THE INPUT: true; the input reads as it did. -/
def fnExactPushedSpec : ChangeSpec := { name := "fnExactPushed", fn := fun _ => fun
  | [d1, d2] => { results := [.lit (.bool true)], args := [d1, d2] }
  | _ => none }
def fnExactPushedRow : OpenClaim := { program := "ytmaonnhfbonoeaa", sum := "63f2b38d5514fc43b2971cbf361c09b5d7d7b7d808656a4dba115b6034478e55", func := "loop.example/g00675/laws.FnExactPushed", spec := "fnExactPushed", apart := false }
def FnExactPushedSaid : Prop := fnExactPushedRow.holds Try.pinned (OpenSpec.ofChange fnExactPushedSpec)

/-- ITS FALSE NEIGHBOUR: 'it returns false'. Refute it at one input. -/
def fnExactPushedWrong : ChangeSpec := { name := "fnExactPushed", fn := fun _ => fun
  | [d1, d2] => { results := [.lit (.bool false)], args := [d1, d2] }
  | _ => none }
def FnExactPushedWrongFalsely : Prop := fnExactPushedRow.holds Try.pinned (OpenSpec.ofChange fnExactPushedWrong)

/-- 'laws.FnExactPopped': WHATEVER THE INPUT: true; the input reads as it did. -/
def fnExactPoppedSpec : ChangeSpec := { name := "fnExactPopped", fn := fun _ => fun
  | [d] => { results := [.lit (.bool true)], args := [d] }
  | _ => none }
def fnExactPoppedRow : OpenClaim := { program := "ytmaonnhfbonoeaa", sum := "63f2b38d5514fc43b2971cbf361c09b5d7d7b7d808656a4dba115b6034478e55", func := "loop.example/g00675/laws.FnExactPopped", spec := "fnExactPopped", apart := false }
def FnExactPoppedSaid : Prop := fnExactPoppedRow.holds Try.pinned (OpenSpec.ofChange fnExactPoppedSpec)

/-- ITS FALSE NEIGHBOUR: 'it returns false'. Refute it at one input. -/
def fnExactPoppedWrong : ChangeSpec := { name := "fnExactPopped", fn := fun _ => fun
  | [d] => { results := [.lit (.bool false)], args := [d] }
  | _ => none }
def FnExactPoppedWrongFalsely : Prop := fnExactPoppedRow.holds Try.pinned (OpenSpec.ofChange fnExactPoppedWrong)

/- THE SECOND FORM. 'bulk': how many values and letters a reading holds, each counted each time it is reached (what is shared counts as often as it is met; a slice's spare places count too). A statement '..UptoSaid' is the law's where the arguments, and the package variables that the reading takes, are together of bulk at most 1048576: NARROWER than '..Said'. Prove '..Said' where nothing that the law and all that it calls make is longer than what came in: it says more and counts as full. Else prove '..UptoSaid'. A law counts once. -/
mutual
def uptoBulk {H : Type} : DataW H → Nat
  | .lit (.string bytes) => bytes.length + 1
  | .lit _ => 1
  | .nil => 1
  | .ptr d => uptoBulk d + 1
  | .slice elems spare => uptoBulkAll elems + uptoBulkAll spare + 1
  | .agg parts => uptoBulkAll parts + 1
  | .iface _ d => uptoBulk d + 1
  | .map entries => uptoBulkEntries entries + 1
  | .held _ => 1
def uptoBulkAll {H : Type} : List (DataW H) → Nat
  | [] => 0
  | d :: r => uptoBulk d + uptoBulkAll r
def uptoBulkEntries {H : Type} : List (Lit × DataW H) → Nat
  | [] => 0
  | x :: r => uptoBulkEntry x + uptoBulkEntries r
def uptoBulkEntry {H : Type} : Lit × DataW H → Nat
  | (.string bytes, d) => bytes.length + uptoBulk d + 1
  | (_, d) => uptoBulk d + 1
 end
def uptoSmall : (H : Type) → List (DataW H) → Bool := fun _ ds => decide (uptoBulkAll ds ≤ 1048576)
def OpenSpec.upto (s : _root_.Go.ChangeSpec) : _root_.Go.OpenSpec := { _root_.Go.OpenSpec.ofChange s with cond := some uptoSmall }

/-- 'laws.FnExactVxlanBytes', WHERE WHAT IT READS IS OF BULK AT MOST 1048576: true; the input reads as it did. -/
def fnExactVxlanBytesUptoRow : OpenClaim := { program := "ytmaonnhfbonoeaa", sum := "63f2b38d5514fc43b2971cbf361c09b5d7d7b7d808656a4dba115b6034478e55", func := "loop.example/g00675/laws.FnExactVxlanBytes", spec := "fnExactVxlanBytes", unfollowed := true, recurses := true, apart := false, narrowed := true }
def FnExactVxlanBytesUptoSaid : Prop := fnExactVxlanBytesUptoRow.holds Try.pinned (OpenSpec.upto fnExactVxlanBytesSpec)

/-- 'laws.FnExactReadVxlan', WHERE WHAT IT READS IS OF BULK AT MOST 1048576: true; the input reads as it did. -/
def fnExactReadVxlanUptoRow : OpenClaim := { program := "ytmaonnhfbonoeaa", sum := "63f2b38d5514fc43b2971cbf361c09b5d7d7b7d808656a4dba115b6034478e55", func := "loop.example/g00675/laws.FnExactReadVxlan", spec := "fnExactReadVxlan", inPlace := ["internal/abi.NoEscape", "internal/bytealg.MakeNoZero"], unfollowed := true, recurses := true, apart := false, narrowed := true }
def FnExactReadVxlanUptoSaid : Prop := fnExactReadVxlanUptoRow.holds Try.pinned (OpenSpec.upto fnExactReadVxlanSpec)

/-- 'laws.FnExactGeneveBytes', WHERE WHAT IT READS IS OF BULK AT MOST 1048576: true; the input reads as it did. -/
def fnExactGeneveBytesUptoRow : OpenClaim := { program := "ytmaonnhfbonoeaa", sum := "63f2b38d5514fc43b2971cbf361c09b5d7d7b7d808656a4dba115b6034478e55", func := "loop.example/g00675/laws.FnExactGeneveBytes", spec := "fnExactGeneveBytes", unfollowed := true, recurses := true, apart := false, narrowed := true }
def FnExactGeneveBytesUptoSaid : Prop := fnExactGeneveBytesUptoRow.holds Try.pinned (OpenSpec.upto fnExactGeneveBytesSpec)

/-- 'laws.FnExactReadGeneve', WHERE WHAT IT READS IS OF BULK AT MOST 1048576: true; the input reads as it did. -/
def fnExactReadGeneveUptoRow : OpenClaim := { program := "ytmaonnhfbonoeaa", sum := "63f2b38d5514fc43b2971cbf361c09b5d7d7b7d808656a4dba115b6034478e55", func := "loop.example/g00675/laws.FnExactReadGeneve", spec := "fnExactReadGeneve", inPlace := ["internal/abi.NoEscape", "internal/bytealg.MakeNoZero"], unfollowed := true, recurses := true, apart := false, narrowed := true }
def FnExactReadGeneveUptoSaid : Prop := fnExactReadGeneveUptoRow.holds Try.pinned (OpenSpec.upto fnExactReadGeneveSpec)

/-- 'laws.FnExactGreBytes', WHERE WHAT IT READS IS OF BULK AT MOST 1048576: true; the input reads as it did. -/
def fnExactGreBytesUptoRow : OpenClaim := { program := "ytmaonnhfbonoeaa", sum := "63f2b38d5514fc43b2971cbf361c09b5d7d7b7d808656a4dba115b6034478e55", func := "loop.example/g00675/laws.FnExactGreBytes", spec := "fnExactGreBytes", inPlace := ["internal/abi.NoEscape", "internal/bytealg.MakeNoZero"], unfollowed := true, recurses := true, apart := false, narrowed := true }
def FnExactGreBytesUptoSaid : Prop := fnExactGreBytesUptoRow.holds Try.pinned (OpenSpec.upto fnExactGreBytesSpec)

/-- 'laws.FnExactReadGre', WHERE WHAT IT READS IS OF BULK AT MOST 1048576: true; the input reads as it did. -/
def fnExactReadGreUptoRow : OpenClaim := { program := "ytmaonnhfbonoeaa", sum := "63f2b38d5514fc43b2971cbf361c09b5d7d7b7d808656a4dba115b6034478e55", func := "loop.example/g00675/laws.FnExactReadGre", spec := "fnExactReadGre", inPlace := ["internal/abi.NoEscape", "internal/bytealg.MakeNoZero"], unfollowed := true, recurses := true, apart := false, narrowed := true }
def FnExactReadGreUptoSaid : Prop := fnExactReadGreUptoRow.holds Try.pinned (OpenSpec.upto fnExactReadGreSpec)

/-- 'laws.FnExactMplsBytes', WHERE WHAT IT READS IS OF BULK AT MOST 1048576: true; the input reads as it did. -/
def fnExactMplsBytesUptoRow : OpenClaim := { program := "ytmaonnhfbonoeaa", sum := "63f2b38d5514fc43b2971cbf361c09b5d7d7b7d808656a4dba115b6034478e55", func := "loop.example/g00675/laws.FnExactMplsBytes", spec := "fnExactMplsBytes", unfollowed := true, recurses := true, apart := false, narrowed := true }
def FnExactMplsBytesUptoSaid : Prop := fnExactMplsBytesUptoRow.holds Try.pinned (OpenSpec.upto fnExactMplsBytesSpec)

/-- 'laws.FnExactReadMpls', WHERE WHAT IT READS IS OF BULK AT MOST 1048576: true; the input reads as it did. -/
def fnExactReadMplsUptoRow : OpenClaim := { program := "ytmaonnhfbonoeaa", sum := "63f2b38d5514fc43b2971cbf361c09b5d7d7b7d808656a4dba115b6034478e55", func := "loop.example/g00675/laws.FnExactReadMpls", spec := "fnExactReadMpls", inPlace := ["internal/abi.NoEscape", "internal/bytealg.MakeNoZero"], unfollowed := true, recurses := true, apart := false, narrowed := true }
def FnExactReadMplsUptoSaid : Prop := fnExactReadMplsUptoRow.holds Try.pinned (OpenSpec.upto fnExactReadMplsSpec)

/-- 'laws.FnExactPushed', WHERE WHAT IT READS IS OF BULK AT MOST 1048576: true; the input reads as it did. -/
def fnExactPushedUptoRow : OpenClaim := { program := "ytmaonnhfbonoeaa", sum := "63f2b38d5514fc43b2971cbf361c09b5d7d7b7d808656a4dba115b6034478e55", func := "loop.example/g00675/laws.FnExactPushed", spec := "fnExactPushed", apart := false, narrowed := true }
def FnExactPushedUptoSaid : Prop := fnExactPushedUptoRow.holds Try.pinned (OpenSpec.upto fnExactPushedSpec)

/-- 'laws.FnExactPopped', WHERE WHAT IT READS IS OF BULK AT MOST 1048576: true; the input reads as it did. -/
def fnExactPoppedUptoRow : OpenClaim := { program := "ytmaonnhfbonoeaa", sum := "63f2b38d5514fc43b2971cbf361c09b5d7d7b7d808656a4dba115b6034478e55", func := "loop.example/g00675/laws.FnExactPopped", spec := "fnExactPopped", apart := false, narrowed := true }
def FnExactPoppedUptoSaid : Prop := fnExactPoppedUptoRow.holds Try.pinned (OpenSpec.upto fnExactPoppedSpec)

end Rows
end Go.Proofs.Ytmaonnhfbonoeaa
