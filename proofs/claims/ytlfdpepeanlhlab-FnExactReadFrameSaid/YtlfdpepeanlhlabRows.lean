/-
  No cell of these rows narrows 'for every input' (looked for: loops, veiled, ifaces, maps, wideKeys, modest, calm, conditions, laid).
  DERIVED. THE GIVEN ROWS OF THIS SEAT. 11 by the template 'for every input the law returns true; each argument reads behind the call as it read before'; 0 by the template 'total and deterministic' (their statements: YtlfdpepeanlhlabTotals.lean).
  GIVEN WITH THE SEED: the statements are not yours to turn. If you find one false, say at which input.
  Laid BY PROGRAM, IN A SANDBOX (cutbox-rows.mjs): the forced cells as the released guide's own fill.sh prints them over the translation ad0ae7aa2fce693b… (all of the seat's roots in one cut). By AI agents, Wed Nov 11 2026. No macro, syntax, notation, axiom, sorry.
-/
import Derived.Test.YtlfdpepeanlhlabChecked
import GoSem.Claim
import GoSem.ClaimJoined
import GoSem.ClaimMapViews
import Derived.JoinedTies
import Derived.KernelRfl
namespace Go.Proofs.Ytlfdpepeanlhlab
/- THE CELL 'sum', in the pinned program and in every row, IS THE sha256 OF THE DUMP (.gsa) THAT YtlfdpepeanlhlabProg.lean LOADS. Nothing in Lean hashes anything: it is a label: what it is worth is what the hold of that sum in a sandbox is worth. -/
noncomputable def Try.pinned : Pinned := { name := "ytlfdpepeanlhlab", sum := "ad0ae7aa2fce693b84c0c39e1f97b81f424ce0fe939f376a5aca329c2611d4b5", checked := Try.checked }
namespace Rows
def none {H : Type} : Left H := { results := [], args := [] }

/-- 'laws.FnEthers': WHATEVER THE INPUT: true; the input reads as it did. -/
def fnEthersSpec : ChangeSpec := { name := "fnEthers", fn := fun _ => fun
  | [d] => { results := [.lit (.bool true)], args := [d] }
  | _ => none }
def fnEthersRow : OpenClaim := { program := "ytlfdpepeanlhlab", sum := "ad0ae7aa2fce693b84c0c39e1f97b81f424ce0fe939f376a5aca329c2611d4b5", func := "loop.example/g00675/laws.FnEthers", spec := "fnEthers", apart := false }
def FnEthersSaid : Prop := fnEthersRow.holds Try.pinned (OpenSpec.ofChange fnEthersSpec)

/-- ITS FALSE NEIGHBOUR: 'it returns false'. Refute it at one input. -/
def fnEthersWrong : ChangeSpec := { name := "fnEthers", fn := fun _ => fun
  | [d] => { results := [.lit (.bool false)], args := [d] }
  | _ => none }
def FnEthersWrongFalsely : Prop := fnEthersRow.holds Try.pinned (OpenSpec.ofChange fnEthersWrong)

/-- 'laws.FnTags': WHATEVER THE INPUT: true; the input reads as it did. -/
def fnTagsSpec : ChangeSpec := { name := "fnTags", fn := fun _ => fun
  | [d] => { results := [.lit (.bool true)], args := [d] }
  | _ => none }
def fnTagsRow : OpenClaim := { program := "ytlfdpepeanlhlab", sum := "ad0ae7aa2fce693b84c0c39e1f97b81f424ce0fe939f376a5aca329c2611d4b5", func := "loop.example/g00675/laws.FnTags", spec := "fnTags", apart := false }
def FnTagsSaid : Prop := fnTagsRow.holds Try.pinned (OpenSpec.ofChange fnTagsSpec)

/-- ITS FALSE NEIGHBOUR: 'it returns false'. Refute it at one input. -/
def fnTagsWrong : ChangeSpec := { name := "fnTags", fn := fun _ => fun
  | [d] => { results := [.lit (.bool false)], args := [d] }
  | _ => none }
def FnTagsWrongFalsely : Prop := fnTagsRow.holds Try.pinned (OpenSpec.ofChange fnTagsWrong)

/-- 'laws.FnMacs': WHATEVER THE INPUT: true; the input reads as it did. -/
def fnMacsSpec : ChangeSpec := { name := "fnMacs", fn := fun _ => fun
  | [d] => { results := [.lit (.bool true)], args := [d] }
  | _ => none }
def fnMacsRow : OpenClaim := { program := "ytlfdpepeanlhlab", sum := "ad0ae7aa2fce693b84c0c39e1f97b81f424ce0fe939f376a5aca329c2611d4b5", func := "loop.example/g00675/laws.FnMacs", spec := "fnMacs", apart := false }
def FnMacsSaid : Prop := fnMacsRow.holds Try.pinned (OpenSpec.ofChange fnMacsSpec)

/-- ITS FALSE NEIGHBOUR: 'it returns false'. Refute it at one input. -/
def fnMacsWrong : ChangeSpec := { name := "fnMacs", fn := fun _ => fun
  | [d] => { results := [.lit (.bool false)], args := [d] }
  | _ => none }
def FnMacsWrongFalsely : Prop := fnMacsRow.holds Try.pinned (OpenSpec.ofChange fnMacsWrong)

/-- 'laws.FnFrameCut': WHATEVER THE INPUT: true; the input reads as it did. -/
def fnFrameCutSpec : ChangeSpec := { name := "fnFrameCut", fn := fun _ => fun
  | [d] => { results := [.lit (.bool true)], args := [d] }
  | _ => none }
def fnFrameCutRow : OpenClaim := { program := "ytlfdpepeanlhlab", sum := "ad0ae7aa2fce693b84c0c39e1f97b81f424ce0fe939f376a5aca329c2611d4b5", func := "loop.example/g00675/laws.FnFrameCut", spec := "fnFrameCut", apart := false }
def FnFrameCutSaid : Prop := fnFrameCutRow.holds Try.pinned (OpenSpec.ofChange fnFrameCutSpec)

/-- ITS FALSE NEIGHBOUR: 'it returns false'. Refute it at one input. -/
def fnFrameCutWrong : ChangeSpec := { name := "fnFrameCut", fn := fun _ => fun
  | [d] => { results := [.lit (.bool false)], args := [d] }
  | _ => none }
def FnFrameCutWrongFalsely : Prop := fnFrameCutRow.holds Try.pinned (OpenSpec.ofChange fnFrameCutWrong)

/-- 'laws.FnExactFrameOk': WHATEVER THE INPUT: true; the input reads as it did. -/
def fnExactFrameOkSpec : ChangeSpec := { name := "fnExactFrameOk", fn := fun _ => fun
  | [d] => { results := [.lit (.bool true)], args := [d] }
  | _ => none }
def fnExactFrameOkRow : OpenClaim := { program := "ytlfdpepeanlhlab", sum := "ad0ae7aa2fce693b84c0c39e1f97b81f424ce0fe939f376a5aca329c2611d4b5", func := "loop.example/g00675/laws.FnExactFrameOk", spec := "fnExactFrameOk", apart := false }
def FnExactFrameOkSaid : Prop := fnExactFrameOkRow.holds Try.pinned (OpenSpec.ofChange fnExactFrameOkSpec)

/-- ITS FALSE NEIGHBOUR: 'it returns false'. Refute it at one input. -/
def fnExactFrameOkWrong : ChangeSpec := { name := "fnExactFrameOk", fn := fun _ => fun
  | [d] => { results := [.lit (.bool false)], args := [d] }
  | _ => none }
def FnExactFrameOkWrongFalsely : Prop := fnExactFrameOkRow.holds Try.pinned (OpenSpec.ofChange fnExactFrameOkWrong)

/-- 'laws.FnExactFrameBytes': WHATEVER THE INPUT: true; the input reads as it did. -/
def fnExactFrameBytesSpec : ChangeSpec := { name := "fnExactFrameBytes", fn := fun _ => fun
  | [d] => { results := [.lit (.bool true)], args := [d] }
  | _ => none }
def fnExactFrameBytesRow : OpenClaim := { program := "ytlfdpepeanlhlab", sum := "ad0ae7aa2fce693b84c0c39e1f97b81f424ce0fe939f376a5aca329c2611d4b5", func := "loop.example/g00675/laws.FnExactFrameBytes", spec := "fnExactFrameBytes", apart := false }
def FnExactFrameBytesSaid : Prop := fnExactFrameBytesRow.holds Try.pinned (OpenSpec.ofChange fnExactFrameBytesSpec)

/-- ITS FALSE NEIGHBOUR: 'it returns false'. Refute it at one input. -/
def fnExactFrameBytesWrong : ChangeSpec := { name := "fnExactFrameBytes", fn := fun _ => fun
  | [d] => { results := [.lit (.bool false)], args := [d] }
  | _ => none }
def FnExactFrameBytesWrongFalsely : Prop := fnExactFrameBytesRow.holds Try.pinned (OpenSpec.ofChange fnExactFrameBytesWrong)

/-- 'laws.FnExactReadFrame': WHATEVER THE INPUT: true; the input reads as it did. -/
def fnExactReadFrameSpec : ChangeSpec := { name := "fnExactReadFrame", fn := fun _ => fun
  | [d] => { results := [.lit (.bool true)], args := [d] }
  | _ => none }
def fnExactReadFrameRow : OpenClaim := { program := "ytlfdpepeanlhlab", sum := "ad0ae7aa2fce693b84c0c39e1f97b81f424ce0fe939f376a5aca329c2611d4b5", func := "loop.example/g00675/laws.FnExactReadFrame", spec := "fnExactReadFrame", apart := false }
def FnExactReadFrameSaid : Prop := fnExactReadFrameRow.holds Try.pinned (OpenSpec.ofChange fnExactReadFrameSpec)

/-- ITS FALSE NEIGHBOUR: 'it returns false'. Refute it at one input. -/
def fnExactReadFrameWrong : ChangeSpec := { name := "fnExactReadFrame", fn := fun _ => fun
  | [d] => { results := [.lit (.bool false)], args := [d] }
  | _ => none }
def FnExactReadFrameWrongFalsely : Prop := fnExactReadFrameRow.holds Try.pinned (OpenSpec.ofChange fnExactReadFrameWrong)

/-- 'laws.FnExactMacText': WHATEVER THE INPUT: true; the input reads as it did. -/
def fnExactMacTextSpec : ChangeSpec := { name := "fnExactMacText", fn := fun _ => fun
  | [d] => { results := [.lit (.bool true)], args := [d] }
  | _ => none }
def fnExactMacTextRow : OpenClaim := { program := "ytlfdpepeanlhlab", sum := "ad0ae7aa2fce693b84c0c39e1f97b81f424ce0fe939f376a5aca329c2611d4b5", func := "loop.example/g00675/laws.FnExactMacText", spec := "fnExactMacText", apart := false }
def FnExactMacTextSaid : Prop := fnExactMacTextRow.holds Try.pinned (OpenSpec.ofChange fnExactMacTextSpec)

/-- ITS FALSE NEIGHBOUR: 'it returns false'. Refute it at one input. -/
def fnExactMacTextWrong : ChangeSpec := { name := "fnExactMacText", fn := fun _ => fun
  | [d] => { results := [.lit (.bool false)], args := [d] }
  | _ => none }
def FnExactMacTextWrongFalsely : Prop := fnExactMacTextRow.holds Try.pinned (OpenSpec.ofChange fnExactMacTextWrong)

/-- 'laws.FnExactReadMac': WHATEVER THE INPUT: true; the input reads as it did. -/
def fnExactReadMacSpec : ChangeSpec := { name := "fnExactReadMac", fn := fun _ => fun
  | [d] => { results := [.lit (.bool true)], args := [d] }
  | _ => none }
def fnExactReadMacRow : OpenClaim := { program := "ytlfdpepeanlhlab", sum := "ad0ae7aa2fce693b84c0c39e1f97b81f424ce0fe939f376a5aca329c2611d4b5", func := "loop.example/g00675/laws.FnExactReadMac", spec := "fnExactReadMac", apart := false }
def FnExactReadMacSaid : Prop := fnExactReadMacRow.holds Try.pinned (OpenSpec.ofChange fnExactReadMacSpec)

/-- ITS FALSE NEIGHBOUR: 'it returns false'. Refute it at one input. -/
def fnExactReadMacWrong : ChangeSpec := { name := "fnExactReadMac", fn := fun _ => fun
  | [d] => { results := [.lit (.bool false)], args := [d] }
  | _ => none }
def FnExactReadMacWrongFalsely : Prop := fnExactReadMacRow.holds Try.pinned (OpenSpec.ofChange fnExactReadMacWrong)

/-- 'laws.FnExactTagged': WHATEVER THE INPUT: true; the input reads as it did. -/
def fnExactTaggedSpec : ChangeSpec := { name := "fnExactTagged", fn := fun _ => fun
  | [d1, d2] => { results := [.lit (.bool true)], args := [d1, d2] }
  | _ => none }
def fnExactTaggedRow : OpenClaim := { program := "ytlfdpepeanlhlab", sum := "ad0ae7aa2fce693b84c0c39e1f97b81f424ce0fe939f376a5aca329c2611d4b5", func := "loop.example/g00675/laws.FnExactTagged", spec := "fnExactTagged", apart := false }
def FnExactTaggedSaid : Prop := fnExactTaggedRow.holds Try.pinned (OpenSpec.ofChange fnExactTaggedSpec)

/-- ITS FALSE NEIGHBOUR: 'it returns false'. Refute it at one input. -/
def fnExactTaggedWrong : ChangeSpec := { name := "fnExactTagged", fn := fun _ => fun
  | [d1, d2] => { results := [.lit (.bool false)], args := [d1, d2] }
  | _ => none }
def FnExactTaggedWrongFalsely : Prop := fnExactTaggedRow.holds Try.pinned (OpenSpec.ofChange fnExactTaggedWrong)

/-- 'laws.FnExactUntagged': WHATEVER THE INPUT: true; the input reads as it did. -/
def fnExactUntaggedSpec : ChangeSpec := { name := "fnExactUntagged", fn := fun _ => fun
  | [d] => { results := [.lit (.bool true)], args := [d] }
  | _ => none }
def fnExactUntaggedRow : OpenClaim := { program := "ytlfdpepeanlhlab", sum := "ad0ae7aa2fce693b84c0c39e1f97b81f424ce0fe939f376a5aca329c2611d4b5", func := "loop.example/g00675/laws.FnExactUntagged", spec := "fnExactUntagged", apart := false }
def FnExactUntaggedSaid : Prop := fnExactUntaggedRow.holds Try.pinned (OpenSpec.ofChange fnExactUntaggedSpec)

/-- ITS FALSE NEIGHBOUR: 'it returns false'. Refute it at one input. -/
def fnExactUntaggedWrong : ChangeSpec := { name := "fnExactUntagged", fn := fun _ => fun
  | [d] => { results := [.lit (.bool false)], args := [d] }
  | _ => none }
def FnExactUntaggedWrongFalsely : Prop := fnExactUntaggedRow.holds Try.pinned (OpenSpec.ofChange fnExactUntaggedWrong)

/- THE SECOND FORM. 'bulk': how many values and letters a reading holds, each counted each time it is reached (what is shared counts as often as it is met; a slice's spare places count too). A statement '..UptoSaid' is the law's where the arguments, and the package variables that the reading takes, are together of bulk at most 1048576: NARROWER than '..Said'. Prove '..Said' where nothing that the law and all that it calls make is longer than what came in: it says more and counts as full. Else prove '..UptoSaid'. A law counts once. -/
mutual
def uptoBulk {H : Type} : DataW H → Nat
  | .lit (.string bytes) => bytes.length + 1
  | .lit _ => 1
  | .nil => 1
  | .ptr d => uptoBulk d + 1
  | .slice elems spare => uptoBulkAll elems + uptoBulkAll spare + 1
  | .agg parts => uptoBulkAll parts + 1
  | .iface _ d => uptoBulk d + 1
  | .map entries => uptoBulkEntries entries + 1
  | .held _ => 1
def uptoBulkAll {H : Type} : List (DataW H) → Nat
  | [] => 0
  | d :: r => uptoBulk d + uptoBulkAll r
def uptoBulkEntries {H : Type} : List (Lit × DataW H) → Nat
  | [] => 0
  | x :: r => uptoBulkEntry x + uptoBulkEntries r
def uptoBulkEntry {H : Type} : Lit × DataW H → Nat
  | (.string bytes, d) => bytes.length + uptoBulk d + 1
  | (_, d) => uptoBulk d + 1
 end
def uptoSmall : (H : Type) → List (DataW H) → Bool := fun _ ds => decide (uptoBulkAll ds ≤ 1048576)
def OpenSpec.upto (s : _root_.Go.ChangeSpec) : _root_.Go.OpenSpec := { _root_.Go.OpenSpec.ofChange s with cond := some uptoSmall }

/-- 'laws.FnEthers', WHERE WHAT IT READS IS OF BULK AT MOST 1048576: true; the input reads as it did. -/
def fnEthersUptoRow : OpenClaim := { program := "ytlfdpepeanlhlab", sum := "ad0ae7aa2fce693b84c0c39e1f97b81f424ce0fe939f376a5aca329c2611d4b5", func := "loop.example/g00675/laws.FnEthers", spec := "fnEthers", apart := false, narrowed := true }
def FnEthersUptoSaid : Prop := fnEthersUptoRow.holds Try.pinned (OpenSpec.upto fnEthersSpec)

/-- 'laws.FnTags', WHERE WHAT IT READS IS OF BULK AT MOST 1048576: true; the input reads as it did. -/
def fnTagsUptoRow : OpenClaim := { program := "ytlfdpepeanlhlab", sum := "ad0ae7aa2fce693b84c0c39e1f97b81f424ce0fe939f376a5aca329c2611d4b5", func := "loop.example/g00675/laws.FnTags", spec := "fnTags", apart := false, narrowed := true }
def FnTagsUptoSaid : Prop := fnTagsUptoRow.holds Try.pinned (OpenSpec.upto fnTagsSpec)

/-- 'laws.FnMacs', WHERE WHAT IT READS IS OF BULK AT MOST 1048576: true; the input reads as it did. -/
def fnMacsUptoRow : OpenClaim := { program := "ytlfdpepeanlhlab", sum := "ad0ae7aa2fce693b84c0c39e1f97b81f424ce0fe939f376a5aca329c2611d4b5", func := "loop.example/g00675/laws.FnMacs", spec := "fnMacs", apart := false, narrowed := true }
def FnMacsUptoSaid : Prop := fnMacsUptoRow.holds Try.pinned (OpenSpec.upto fnMacsSpec)

/-- 'laws.FnFrameCut', WHERE WHAT IT READS IS OF BULK AT MOST 1048576: true; the input reads as it did. -/
def fnFrameCutUptoRow : OpenClaim := { program := "ytlfdpepeanlhlab", sum := "ad0ae7aa2fce693b84c0c39e1f97b81f424ce0fe939f376a5aca329c2611d4b5", func := "loop.example/g00675/laws.FnFrameCut", spec := "fnFrameCut", apart := false, narrowed := true }
def FnFrameCutUptoSaid : Prop := fnFrameCutUptoRow.holds Try.pinned (OpenSpec.upto fnFrameCutSpec)

/-- 'laws.FnExactFrameOk', WHERE WHAT IT READS IS OF BULK AT MOST 1048576: true; the input reads as it did. -/
def fnExactFrameOkUptoRow : OpenClaim := { program := "ytlfdpepeanlhlab", sum := "ad0ae7aa2fce693b84c0c39e1f97b81f424ce0fe939f376a5aca329c2611d4b5", func := "loop.example/g00675/laws.FnExactFrameOk", spec := "fnExactFrameOk", apart := false, narrowed := true }
def FnExactFrameOkUptoSaid : Prop := fnExactFrameOkUptoRow.holds Try.pinned (OpenSpec.upto fnExactFrameOkSpec)

/-- 'laws.FnExactFrameBytes', WHERE WHAT IT READS IS OF BULK AT MOST 1048576: true; the input reads as it did. -/
def fnExactFrameBytesUptoRow : OpenClaim := { program := "ytlfdpepeanlhlab", sum := "ad0ae7aa2fce693b84c0c39e1f97b81f424ce0fe939f376a5aca329c2611d4b5", func := "loop.example/g00675/laws.FnExactFrameBytes", spec := "fnExactFrameBytes", apart := false, narrowed := true }
def FnExactFrameBytesUptoSaid : Prop := fnExactFrameBytesUptoRow.holds Try.pinned (OpenSpec.upto fnExactFrameBytesSpec)

/-- 'laws.FnExactReadFrame', WHERE WHAT IT READS IS OF BULK AT MOST 1048576: true; the input reads as it did. -/
def fnExactReadFrameUptoRow : OpenClaim := { program := "ytlfdpepeanlhlab", sum := "ad0ae7aa2fce693b84c0c39e1f97b81f424ce0fe939f376a5aca329c2611d4b5", func := "loop.example/g00675/laws.FnExactReadFrame", spec := "fnExactReadFrame", apart := false, narrowed := true }
def FnExactReadFrameUptoSaid : Prop := fnExactReadFrameUptoRow.holds Try.pinned (OpenSpec.upto fnExactReadFrameSpec)

/-- 'laws.FnExactMacText', WHERE WHAT IT READS IS OF BULK AT MOST 1048576: true; the input reads as it did. -/
def fnExactMacTextUptoRow : OpenClaim := { program := "ytlfdpepeanlhlab", sum := "ad0ae7aa2fce693b84c0c39e1f97b81f424ce0fe939f376a5aca329c2611d4b5", func := "loop.example/g00675/laws.FnExactMacText", spec := "fnExactMacText", apart := false, narrowed := true }
def FnExactMacTextUptoSaid : Prop := fnExactMacTextUptoRow.holds Try.pinned (OpenSpec.upto fnExactMacTextSpec)

/-- 'laws.FnExactReadMac', WHERE WHAT IT READS IS OF BULK AT MOST 1048576: true; the input reads as it did. -/
def fnExactReadMacUptoRow : OpenClaim := { program := "ytlfdpepeanlhlab", sum := "ad0ae7aa2fce693b84c0c39e1f97b81f424ce0fe939f376a5aca329c2611d4b5", func := "loop.example/g00675/laws.FnExactReadMac", spec := "fnExactReadMac", apart := false, narrowed := true }
def FnExactReadMacUptoSaid : Prop := fnExactReadMacUptoRow.holds Try.pinned (OpenSpec.upto fnExactReadMacSpec)

/-- 'laws.FnExactTagged', WHERE WHAT IT READS IS OF BULK AT MOST 1048576: true; the input reads as it did. -/
def fnExactTaggedUptoRow : OpenClaim := { program := "ytlfdpepeanlhlab", sum := "ad0ae7aa2fce693b84c0c39e1f97b81f424ce0fe939f376a5aca329c2611d4b5", func := "loop.example/g00675/laws.FnExactTagged", spec := "fnExactTagged", apart := false, narrowed := true }
def FnExactTaggedUptoSaid : Prop := fnExactTaggedUptoRow.holds Try.pinned (OpenSpec.upto fnExactTaggedSpec)

/-- 'laws.FnExactUntagged', WHERE WHAT IT READS IS OF BULK AT MOST 1048576: true; the input reads as it did. -/
def fnExactUntaggedUptoRow : OpenClaim := { program := "ytlfdpepeanlhlab", sum := "ad0ae7aa2fce693b84c0c39e1f97b81f424ce0fe939f376a5aca329c2611d4b5", func := "loop.example/g00675/laws.FnExactUntagged", spec := "fnExactUntagged", apart := false, narrowed := true }
def FnExactUntaggedUptoSaid : Prop := fnExactUntaggedUptoRow.holds Try.pinned (OpenSpec.upto fnExactUntaggedSpec)

end Rows
end Go.Proofs.Ytlfdpepeanlhlab
