/-
  No cell of these rows narrows 'for every input' (looked for: loops, veiled, ifaces, maps, wideKeys, modest, calm, conditions, laid).
  DERIVED. THE GIVEN ROWS OF THIS SEAT. 7 by the template 'for every input the law returns true; each argument reads behind the call as it read before'; 0 by the template 'total and deterministic' (their statements: YtllaghicmmkpcaaTotals.lean).
  GIVEN WITH THE SEED: the statements are not yours to turn. If you find one false, say at which input.
  Laid BY PROGRAM, IN A SANDBOX (cutbox-rows.mjs): the forced cells as the released guide's own fill.sh prints them over the translation 6b9973e81070d1ca… (all of the seat's roots in one cut). By AI agents, Wed Nov 11 2026. No macro, syntax, notation, axiom, sorry.
-/
import Derived.Test.YtllaghicmmkpcaaChecked
import GoSem.Claim
import GoSem.ClaimJoined
import GoSem.ClaimMapViews
import Derived.JoinedTies
import Derived.KernelRfl
namespace Go.Proofs.Ytllaghicmmkpcaa
/- THE CELL 'sum', in the pinned program and in every row, IS THE sha256 OF THE DUMP (.gsa) THAT YtllaghicmmkpcaaProg.lean LOADS. Nothing in Lean hashes anything: it is a label: what it is worth is what the hold of that sum in a sandbox is worth. -/
noncomputable def Try.pinned : Pinned := { name := "ytllaghicmmkpcaa", sum := "6b9973e81070d1ca4542e50098a37fc95fcd30640e18acf0113cc885b19ccaa8", checked := Try.checked }
namespace Rows
def none {H : Type} : Left H := { results := [], args := [] }

/-- 'laws.FnExactIpOk': WHATEVER THE INPUT: true; the input reads as it did. -/
def fnExactIpOkSpec : ChangeSpec := { name := "fnExactIpOk", fn := fun _ => fun
  | [d] => { results := [.lit (.bool true)], args := [d] }
  | _ => none }
def fnExactIpOkRow : OpenClaim := { program := "ytllaghicmmkpcaa", sum := "6b9973e81070d1ca4542e50098a37fc95fcd30640e18acf0113cc885b19ccaa8", func := "loop.example/g00675/laws.FnExactIpOk", spec := "fnExactIpOk", apart := false }
def FnExactIpOkSaid : Prop := fnExactIpOkRow.holds Try.pinned (OpenSpec.ofChange fnExactIpOkSpec)

/-- ITS FALSE NEIGHBOUR: 'it returns false'. Refute it at one input. -/
def fnExactIpOkWrong : ChangeSpec := { name := "fnExactIpOk", fn := fun _ => fun
  | [d] => { results := [.lit (.bool false)], args := [d] }
  | _ => none }
def FnExactIpOkWrongFalsely : Prop := fnExactIpOkRow.holds Try.pinned (OpenSpec.ofChange fnExactIpOkWrong)

/-- 'laws.FnExactIpBytes': WHATEVER THE INPUT: true; the input reads as it did. -/
def fnExactIpBytesSpec : ChangeSpec := { name := "fnExactIpBytes", fn := fun _ => fun
  | [d] => { results := [.lit (.bool true)], args := [d] }
  | _ => none }
def fnExactIpBytesRow : OpenClaim := { program := "ytllaghicmmkpcaa", sum := "6b9973e81070d1ca4542e50098a37fc95fcd30640e18acf0113cc885b19ccaa8", func := "loop.example/g00675/laws.FnExactIpBytes", spec := "fnExactIpBytes", apart := false }
def FnExactIpBytesSaid : Prop := fnExactIpBytesRow.holds Try.pinned (OpenSpec.ofChange fnExactIpBytesSpec)

/-- ITS FALSE NEIGHBOUR: 'it returns false'. Refute it at one input. -/
def fnExactIpBytesWrong : ChangeSpec := { name := "fnExactIpBytes", fn := fun _ => fun
  | [d] => { results := [.lit (.bool false)], args := [d] }
  | _ => none }
def FnExactIpBytesWrongFalsely : Prop := fnExactIpBytesRow.holds Try.pinned (OpenSpec.ofChange fnExactIpBytesWrong)

/-- 'laws.FnExactUdpBytes': WHATEVER THE INPUT: true; the input reads as it did. -/
def fnExactUdpBytesSpec : ChangeSpec := { name := "fnExactUdpBytes", fn := fun _ => fun
  | [d1, d2, d3] => { results := [.lit (.bool true)], args := [d1, d2, d3] }
  | _ => none }
def fnExactUdpBytesRow : OpenClaim := { program := "ytllaghicmmkpcaa", sum := "6b9973e81070d1ca4542e50098a37fc95fcd30640e18acf0113cc885b19ccaa8", func := "loop.example/g00675/laws.FnExactUdpBytes", spec := "fnExactUdpBytes", inPlace := ["internal/abi.NoEscape", "internal/bytealg.MakeNoZero"], apart := false }
def FnExactUdpBytesSaid : Prop := fnExactUdpBytesRow.holds Try.pinned (OpenSpec.ofChange fnExactUdpBytesSpec)

/-- ITS FALSE NEIGHBOUR: 'it returns false'. Refute it at one input. -/
def fnExactUdpBytesWrong : ChangeSpec := { name := "fnExactUdpBytes", fn := fun _ => fun
  | [d1, d2, d3] => { results := [.lit (.bool false)], args := [d1, d2, d3] }
  | _ => none }
def FnExactUdpBytesWrongFalsely : Prop := fnExactUdpBytesRow.holds Try.pinned (OpenSpec.ofChange fnExactUdpBytesWrong)

/-- 'laws.FnExactReadUdp': WHATEVER THE INPUT: true; the input reads as it did. -/
def fnExactReadUdpSpec : ChangeSpec := { name := "fnExactReadUdp", fn := fun _ => fun
  | [d1, d2, d3] => { results := [.lit (.bool true)], args := [d1, d2, d3] }
  | _ => none }
def fnExactReadUdpRow : OpenClaim := { program := "ytllaghicmmkpcaa", sum := "6b9973e81070d1ca4542e50098a37fc95fcd30640e18acf0113cc885b19ccaa8", func := "loop.example/g00675/laws.FnExactReadUdp", spec := "fnExactReadUdp", inPlace := ["internal/abi.NoEscape", "internal/bytealg.MakeNoZero"], apart := false }
def FnExactReadUdpSaid : Prop := fnExactReadUdpRow.holds Try.pinned (OpenSpec.ofChange fnExactReadUdpSpec)

/-- ITS FALSE NEIGHBOUR: 'it returns false'. Refute it at one input. -/
def fnExactReadUdpWrong : ChangeSpec := { name := "fnExactReadUdp", fn := fun _ => fun
  | [d1, d2, d3] => { results := [.lit (.bool false)], args := [d1, d2, d3] }
  | _ => none }
def FnExactReadUdpWrongFalsely : Prop := fnExactReadUdpRow.holds Try.pinned (OpenSpec.ofChange fnExactReadUdpWrong)

/-- 'laws.FnEthers': WHATEVER THE INPUT: true; the input reads as it did. -/
def fnEthersSpec : ChangeSpec := { name := "fnEthers", fn := fun _ => fun
  | [d] => { results := [.lit (.bool true)], args := [d] }
  | _ => none }
def fnEthersRow : OpenClaim := { program := "ytllaghicmmkpcaa", sum := "6b9973e81070d1ca4542e50098a37fc95fcd30640e18acf0113cc885b19ccaa8", func := "loop.example/g00675/laws.FnEthers", spec := "fnEthers", apart := false }
def FnEthersSaid : Prop := fnEthersRow.holds Try.pinned (OpenSpec.ofChange fnEthersSpec)

/-- ITS FALSE NEIGHBOUR: 'it returns false'. Refute it at one input. -/
def fnEthersWrong : ChangeSpec := { name := "fnEthers", fn := fun _ => fun
  | [d] => { results := [.lit (.bool false)], args := [d] }
  | _ => none }
def FnEthersWrongFalsely : Prop := fnEthersRow.holds Try.pinned (OpenSpec.ofChange fnEthersWrong)

/-- 'laws.FnTags': WHATEVER THE INPUT: true; the input reads as it did. -/
def fnTagsSpec : ChangeSpec := { name := "fnTags", fn := fun _ => fun
  | [d] => { results := [.lit (.bool true)], args := [d] }
  | _ => none }
def fnTagsRow : OpenClaim := { program := "ytllaghicmmkpcaa", sum := "6b9973e81070d1ca4542e50098a37fc95fcd30640e18acf0113cc885b19ccaa8", func := "loop.example/g00675/laws.FnTags", spec := "fnTags", apart := false }
def FnTagsSaid : Prop := fnTagsRow.holds Try.pinned (OpenSpec.ofChange fnTagsSpec)

/-- ITS FALSE NEIGHBOUR: 'it returns false'. Refute it at one input. -/
def fnTagsWrong : ChangeSpec := { name := "fnTags", fn := fun _ => fun
  | [d] => { results := [.lit (.bool false)], args := [d] }
  | _ => none }
def FnTagsWrongFalsely : Prop := fnTagsRow.holds Try.pinned (OpenSpec.ofChange fnTagsWrong)

/-- 'laws.FnFrameCut': WHATEVER THE INPUT: true; the input reads as it did. -/
def fnFrameCutSpec : ChangeSpec := { name := "fnFrameCut", fn := fun _ => fun
  | [d] => { results := [.lit (.bool true)], args := [d] }
  | _ => none }
def fnFrameCutRow : OpenClaim := { program := "ytllaghicmmkpcaa", sum := "6b9973e81070d1ca4542e50098a37fc95fcd30640e18acf0113cc885b19ccaa8", func := "loop.example/g00675/laws.FnFrameCut", spec := "fnFrameCut", apart := false }
def FnFrameCutSaid : Prop := fnFrameCutRow.holds Try.pinned (OpenSpec.ofChange fnFrameCutSpec)

/-- ITS FALSE NEIGHBOUR: 'it returns false'. Refute it at one input. -/
def fnFrameCutWrong : ChangeSpec := { name := "fnFrameCut", fn := fun _ => fun
  | [d] => { results := [.lit (.bool false)], args := [d] }
  | _ => none }
def FnFrameCutWrongFalsely : Prop := fnFrameCutRow.holds Try.pinned (OpenSpec.ofChange fnFrameCutWrong)

/- THE SECOND FORM. 'bulk': how many values and letters a reading holds, each counted each time it is reached (what is shared counts as often as it is met; a slice's spare places count too). A statement '..UptoSaid' is the law's where the arguments, and the package variables that the reading takes, are together of bulk at most 1048576: NARROWER than '..Said'. Prove '..Said' where nothing that the law and all that it calls make is longer than what came in: it says more and counts as full. Else prove '..UptoSaid'. A law counts once. -/
mutual
def uptoBulk {H : Type} : DataW H → Nat
  | .lit (.string bytes) => bytes.length + 1
  | .lit _ => 1
  | .nil => 1
  | .ptr d => uptoBulk d + 1
  | .slice elems spare => uptoBulkAll elems + uptoBulkAll spare + 1
  | .agg parts => uptoBulkAll parts + 1
  | .iface _ d => uptoBulk d + 1
  | .map entries => uptoBulkEntries entries + 1
  | .held _ => 1
def uptoBulkAll {H : Type} : List (DataW H) → Nat
  | [] => 0
  | d :: r => uptoBulk d + uptoBulkAll r
def uptoBulkEntries {H : Type} : List (Lit × DataW H) → Nat
  | [] => 0
  | x :: r => uptoBulkEntry x + uptoBulkEntries r
def uptoBulkEntry {H : Type} : Lit × DataW H → Nat
  | (.string bytes, d) => bytes.length + uptoBulk d + 1
  | (_, d) => uptoBulk d + 1
 end
def uptoSmall : (H : Type) → List (DataW H) → Bool := fun _ ds => decide (uptoBulkAll ds ≤ 1048576)
def OpenSpec.upto (s : _root_.Go.ChangeSpec) : _root_.Go.OpenSpec := { _root_.Go.OpenSpec.ofChange s with cond := some uptoSmall }

/-- 'laws.FnExactIpOk', WHERE WHAT IT READS IS OF BULK AT MOST 1048576: true; the input reads as it did. -/
def fnExactIpOkUptoRow : OpenClaim := { program := "ytllaghicmmkpcaa", sum := "6b9973e81070d1ca4542e50098a37fc95fcd30640e18acf0113cc885b19ccaa8", func := "loop.example/g00675/laws.FnExactIpOk", spec := "fnExactIpOk", apart := false, narrowed := true }
def FnExactIpOkUptoSaid : Prop := fnExactIpOkUptoRow.holds Try.pinned (OpenSpec.upto fnExactIpOkSpec)

/-- 'laws.FnExactIpBytes', WHERE WHAT IT READS IS OF BULK AT MOST 1048576: true; the input reads as it did. -/
def fnExactIpBytesUptoRow : OpenClaim := { program := "ytllaghicmmkpcaa", sum := "6b9973e81070d1ca4542e50098a37fc95fcd30640e18acf0113cc885b19ccaa8", func := "loop.example/g00675/laws.FnExactIpBytes", spec := "fnExactIpBytes", apart := false, narrowed := true }
def FnExactIpBytesUptoSaid : Prop := fnExactIpBytesUptoRow.holds Try.pinned (OpenSpec.upto fnExactIpBytesSpec)

/-- 'laws.FnExactUdpBytes', WHERE WHAT IT READS IS OF BULK AT MOST 1048576: true; the input reads as it did. -/
def fnExactUdpBytesUptoRow : OpenClaim := { program := "ytllaghicmmkpcaa", sum := "6b9973e81070d1ca4542e50098a37fc95fcd30640e18acf0113cc885b19ccaa8", func := "loop.example/g00675/laws.FnExactUdpBytes", spec := "fnExactUdpBytes", inPlace := ["internal/abi.NoEscape", "internal/bytealg.MakeNoZero"], apart := false, narrowed := true }
def FnExactUdpBytesUptoSaid : Prop := fnExactUdpBytesUptoRow.holds Try.pinned (OpenSpec.upto fnExactUdpBytesSpec)

/-- 'laws.FnExactReadUdp', WHERE WHAT IT READS IS OF BULK AT MOST 1048576: true; the input reads as it did. -/
def fnExactReadUdpUptoRow : OpenClaim := { program := "ytllaghicmmkpcaa", sum := "6b9973e81070d1ca4542e50098a37fc95fcd30640e18acf0113cc885b19ccaa8", func := "loop.example/g00675/laws.FnExactReadUdp", spec := "fnExactReadUdp", inPlace := ["internal/abi.NoEscape", "internal/bytealg.MakeNoZero"], apart := false, narrowed := true }
def FnExactReadUdpUptoSaid : Prop := fnExactReadUdpUptoRow.holds Try.pinned (OpenSpec.upto fnExactReadUdpSpec)

/-- 'laws.FnEthers', WHERE WHAT IT READS IS OF BULK AT MOST 1048576: true; the input reads as it did. -/
def fnEthersUptoRow : OpenClaim := { program := "ytllaghicmmkpcaa", sum := "6b9973e81070d1ca4542e50098a37fc95fcd30640e18acf0113cc885b19ccaa8", func := "loop.example/g00675/laws.FnEthers", spec := "fnEthers", apart := false, narrowed := true }
def FnEthersUptoSaid : Prop := fnEthersUptoRow.holds Try.pinned (OpenSpec.upto fnEthersSpec)

/-- 'laws.FnTags', WHERE WHAT IT READS IS OF BULK AT MOST 1048576: true; the input reads as it did. -/
def fnTagsUptoRow : OpenClaim := { program := "ytllaghicmmkpcaa", sum := "6b9973e81070d1ca4542e50098a37fc95fcd30640e18acf0113cc885b19ccaa8", func := "loop.example/g00675/laws.FnTags", spec := "fnTags", apart := false, narrowed := true }
def FnTagsUptoSaid : Prop := fnTagsUptoRow.holds Try.pinned (OpenSpec.upto fnTagsSpec)

/-- 'laws.FnFrameCut', WHERE WHAT IT READS IS OF BULK AT MOST 1048576: true; the input reads as it did. -/
def fnFrameCutUptoRow : OpenClaim := { program := "ytllaghicmmkpcaa", sum := "6b9973e81070d1ca4542e50098a37fc95fcd30640e18acf0113cc885b19ccaa8", func := "loop.example/g00675/laws.FnFrameCut", spec := "fnFrameCut", apart := false, narrowed := true }
def FnFrameCutUptoSaid : Prop := fnFrameCutUptoRow.holds Try.pinned (OpenSpec.upto fnFrameCutSpec)

end Rows
end Go.Proofs.Ytllaghicmmkpcaa
