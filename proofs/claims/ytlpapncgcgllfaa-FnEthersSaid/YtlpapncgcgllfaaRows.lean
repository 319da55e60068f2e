/-
  No cell of these rows narrows 'for every input' (looked for: loops, veiled, ifaces, maps, wideKeys, modest, calm, conditions, laid).
  DERIVED. THE GIVEN ROWS OF THIS SEAT. 4 by the template 'for every input the law returns true; each argument reads behind the call as it read before'; 0 by the template 'total and deterministic' (their statements: YtlpapncgcgllfaaTotals.lean).
  GIVEN WITH THE SEED: the statements are not yours to turn. If you find one false, say at which input.
  Laid BY PROGRAM, IN A SANDBOX (cutbox-rows.mjs): the forced cells as the released guide's own fill.sh prints them over the translation 3ae4620f61a8e9e0… (all of the seat's roots in one cut). By AI agents, Wed Nov 11 2026. No macro, syntax, notation, axiom, sorry.
-/
import Derived.Test.YtlpapncgcgllfaaChecked
import GoSem.Claim
import GoSem.ClaimJoined
import GoSem.ClaimMapViews
import Derived.JoinedTies
import Derived.KernelRfl
namespace Go.Proofs.Ytlpapncgcgllfaa
/- THE CELL 'sum', in the pinned program and in every row, IS THE sha256 OF THE DUMP (.gsa) THAT YtlpapncgcgllfaaProg.lean LOADS. Nothing in Lean hashes anything: it is a label: what it is worth is what the hold of that sum in a sandbox is worth. -/
noncomputable def Try.pinned : Pinned := { name := "ytlpapncgcgllfaa", sum := "3ae4620f61a8e9e0ecde490ce7d3c15831119a34d6b056e64a8a75b90a378a3e", checked := Try.checked }
namespace Rows
def none {H : Type} : Left H := { results := [], args := [] }

/-- 'laws.FnExactReadFrame': WHATEVER THE INPUT: true; the input reads as it did. -/
def fnExactReadFrameSpec : ChangeSpec := { name := "fnExactReadFrame", fn := fun _ => fun
  | [d] => { results := [.lit (.bool true)], args := [d] }
  | _ => none }
def fnExactReadFrameRow : OpenClaim := { program := "ytlpapncgcgllfaa", sum := "3ae4620f61a8e9e0ecde490ce7d3c15831119a34d6b056e64a8a75b90a378a3e", func := "loop.example/g00675/laws.FnExactReadFrame", spec := "fnExactReadFrame", apart := false }
def FnExactReadFrameSaid : Prop := fnExactReadFrameRow.holds Try.pinned (OpenSpec.ofChange fnExactReadFrameSpec)

/-- ITS FALSE NEIGHBOUR: 'it returns false'. Refute it at one input. -/
def fnExactReadFrameWrong : ChangeSpec := { name := "fnExactReadFrame", fn := fun _ => fun
  | [d] => { results := [.lit (.bool false)], args := [d] }
  | _ => none }
def FnExactReadFrameWrongFalsely : Prop := fnExactReadFrameRow.holds Try.pinned (OpenSpec.ofChange fnExactReadFrameWrong)

/-- 'laws.FnEthers': WHATEVER THE INPUT: true; the input reads as it did. -/
def fnEthersSpec : ChangeSpec := { name := "fnEthers", fn := fun _ => fun
  | [d] => { results := [.lit (.bool true)], args := [d] }
  | _ => none }
def fnEthersRow : OpenClaim := { program := "ytlpapncgcgllfaa", sum := "3ae4620f61a8e9e0ecde490ce7d3c15831119a34d6b056e64a8a75b90a378a3e", func := "loop.example/g00675/laws.FnEthers", spec := "fnEthers", apart := false }
def FnEthersSaid : Prop := fnEthersRow.holds Try.pinned (OpenSpec.ofChange fnEthersSpec)

/-- ITS FALSE NEIGHBOUR: 'it returns false'. Refute it at one input. -/
def fnEthersWrong : ChangeSpec := { name := "fnEthers", fn := fun _ => fun
  | [d] => { results := [.lit (.bool false)], args := [d] }
  | _ => none }
def FnEthersWrongFalsely : Prop := fnEthersRow.holds Try.pinned (OpenSpec.ofChange fnEthersWrong)

/-- 'laws.FnFrameCut': WHATEVER THE INPUT: true; the input reads as it did. -/
def fnFrameCutSpec : ChangeSpec := { name := "fnFrameCut", fn := fun _ => fun
  | [d] => { results := [.lit (.bool true)], args := [d] }
  | _ => none }
def fnFrameCutRow : OpenClaim := { program := "ytlpapncgcgllfaa", sum := "3ae4620f61a8e9e0ecde490ce7d3c15831119a34d6b056e64a8a75b90a378a3e", func := "loop.example/g00675/laws.FnFrameCut", spec := "fnFrameCut", apart := false }
def FnFrameCutSaid : Prop := fnFrameCutRow.holds Try.pinned (OpenSpec.ofChange fnFrameCutSpec)

/-- ITS FALSE NEIGHBOUR: 'it returns false'. Refute it at one input. -/
def fnFrameCutWrong : ChangeSpec := { name := "fnFrameCut", fn := fun _ => fun
  | [d] => { results := [.lit (.bool false)], args := [d] }
  | _ => none }
def FnFrameCutWrongFalsely : Prop := fnFrameCutRow.holds Try.pinned (OpenSpec.ofChange fnFrameCutWrong)

/-- 'laws.FnTags': WHATEVER THE INPUT: true; the input reads as it did. -/
def fnTagsSpec : ChangeSpec := { name := "fnTags", fn := fun _ => fun
  | [d] => { results := [.lit (.bool true)], args := [d] }
  | _ => none }
def fnTagsRow : OpenClaim := { program := "ytlpapncgcgllfaa", sum := "3ae4620f61a8e9e0ecde490ce7d3c15831119a34d6b056e64a8a75b90a378a3e", func := "loop.example/g00675/laws.FnTags", spec := "fnTags", apart := false }
def FnTagsSaid : Prop := fnTagsRow.holds Try.pinned (OpenSpec.ofChange fnTagsSpec)

/-- ITS FALSE NEIGHBOUR: 'it returns false'. Refute it at one input. -/
def fnTagsWrong : ChangeSpec := { name := "fnTags", fn := fun _ => fun
  | [d] => { results := [.lit (.bool false)], args := [d] }
  | _ => none }
def FnTagsWrongFalsely : Prop := fnTagsRow.holds Try.pinned (OpenSpec.ofChange fnTagsWrong)

/- THE SECOND FORM. 'bulk': how many values and letters a reading holds, each counted each time it is reached (what is shared counts as often as it is met; a slice's spare places count too). A statement '..UptoSaid' is the law's where the arguments, and the package variables that the reading takes, are together of bulk at most 1048576: NARROWER than '..Said'. Prove '..Said' where nothing that the law and all that it calls make is longer than what came in: it says more and counts as full. Else prove '..UptoSaid'. A law counts once. -/
mutual
def uptoBulk {H : Type} : DataW H → Nat
  | .lit (.string bytes) => bytes.length + 1
  | .lit _ => 1
  | .nil => 1
  | .ptr d => uptoBulk d + 1
  | .slice elems spare => uptoBulkAll elems + uptoBulkAll spare + 1
  | .agg parts => uptoBulkAll parts + 1
  | .iface _ d => uptoBulk d + 1
  | .map entries => uptoBulkEntries entries + 1
  | .held _ => 1
def uptoBulkAll {H : Type} : List (DataW H) → Nat
  | [] => 0
  | d :: r => uptoBulk d + uptoBulkAll r
def uptoBulkEntries {H : Type} : List (Lit × DataW H) → Nat
  | [] => 0
  | x :: r => uptoBulkEntry x + uptoBulkEntries r
def uptoBulkEntry {H : Type} : Lit × DataW H → Nat
  | (.string bytes, d) => bytes.length + uptoBulk d + 1
  | (_, d) => uptoBulk d + 1
 end
def uptoSmall : (H : Type) → List (DataW H) → Bool := fun _ ds => decide (uptoBulkAll ds ≤ 1048576)
def OpenSpec.upto (s : _root_.Go.ChangeSpec) : _root_.Go.OpenSpec := { _root_.Go.OpenSpec.ofChange s with cond := some uptoSmall }

/-- 'laws.FnExactReadFrame', WHERE WHAT IT READS IS OF BULK AT MOST 1048576: true; the input reads as it did. -/
def fnExactReadFrameUptoRow : OpenClaim := { program := "ytlpapncgcgllfaa", sum := "3ae4620f61a8e9e0ecde490ce7d3c15831119a34d6b056e64a8a75b90a378a3e", func := "loop.example/g00675/laws.FnExactReadFrame", spec := "fnExactReadFrame", apart := false, narrowed := true }
def FnExactReadFrameUptoSaid : Prop := fnExactReadFrameUptoRow.holds Try.pinned (OpenSpec.upto fnExactReadFrameSpec)

/-- 'laws.FnEthers', WHERE WHAT IT READS IS OF BULK AT MOST 1048576: true; the input reads as it did. -/
def fnEthersUptoRow : OpenClaim := { program := "ytlpapncgcgllfaa", sum := "3ae4620f61a8e9e0ecde490ce7d3c15831119a34d6b056e64a8a75b90a378a3e", func := "loop.example/g00675/laws.FnEthers", spec := "fnEthers", apart := false, narrowed := true }
def FnEthersUptoSaid : Prop := fnEthersUptoRow.holds Try.pinned (OpenSpec.upto fnEthersSpec)

/-- 'laws.FnFrameCut', WHERE WHAT IT READS IS OF BULK AT MOST 1048576: true; the input reads as it did. -/
def fnFrameCutUptoRow : OpenClaim := { program := "ytlpapncgcgllfaa", sum := "3ae4620f61a8e9e0ecde490ce7d3c15831119a34d6b056e64a8a75b90a378a3e", func := "loop.example/g00675/laws.FnFrameCut", spec := "fnFrameCut", apart := false, narrowed := true }
def FnFrameCutUptoSaid : Prop := fnFrameCutUptoRow.holds Try.pinned (OpenSpec.upto fnFrameCutSpec)

/-- 'laws.FnTags', WHERE WHAT IT READS IS OF BULK AT MOST 1048576: true; the input reads as it did. -/
def fnTagsUptoRow : OpenClaim := { program := "ytlpapncgcgllfaa", sum := "3ae4620f61a8e9e0ecde490ce7d3c15831119a34d6b056e64a8a75b90a378a3e", func := "loop.example/g00675/laws.FnTags", spec := "fnTags", apart := false, narrowed := true }
def FnTagsUptoSaid : Prop := fnTagsUptoRow.holds Try.pinned (OpenSpec.upto fnTagsSpec)

end Rows
end Go.Proofs.Ytlpapncgcgllfaa
