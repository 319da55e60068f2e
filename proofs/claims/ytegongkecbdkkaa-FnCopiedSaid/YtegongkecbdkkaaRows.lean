/-
  No cell of these rows narrows 'for every input' (looked for: loops, veiled, ifaces, maps, wideKeys, modest, calm, conditions, laid).
  DERIVED. THE GIVEN ROWS OF THIS SEAT. 12 by the template 'for every input the law returns true; each argument reads behind the call as it read before'; 0 by the template 'total and deterministic' (their statements: YtegongkecbdkkaaTotals.lean).
  GIVEN WITH THE SEED: the statements are not yours to turn. If you find one false, say at which input.
  Laid BY PROGRAM, IN A SANDBOX (cutbox-rows.mjs): the forced cells as the released guide's own fill.sh prints them over the translation b40f01a468b1a7ac… (all of the seat's roots in one cut). By AI agents, Wed Nov 11 2026. No macro, syntax, notation, axiom, sorry.
-/
import Derived.Test.YtegongkecbdkkaaChecked
import GoSem.Claim
import GoSem.ClaimJoined
import GoSem.ClaimMapViews
import Derived.JoinedTies
import Derived.KernelRfl
namespace Go.Proofs.Ytegongkecbdkkaa
/- THE CELL 'sum', in the pinned program and in every row, IS THE sha256 OF THE DUMP (.gsa) THAT YtegongkecbdkkaaProg.lean LOADS. Nothing in Lean hashes anything: it is a label: what it is worth is what the hold of that sum in a sandbox is worth. -/
noncomputable def Try.pinned : Pinned := { name := "ytegongkecbdkkaa", sum := "b40f01a468b1a7ac1f33a4579f86d359b2c02e62672aaf7b1e9f4c53e42513a4", checked := Try.checked }
namespace Rows
def none {H : Type} : Left H := { results := [], args := [] }

/-- 'laws.FnFragments': WHATEVER THE INPUT: true; the input reads as it did. -/
def fnFragmentsSpec : ChangeSpec := { name := "fnFragments", fn := fun _ => fun
  | [d] => { results := [.lit (.bool true)], args := [d] }
  | _ => none }
def fnFragmentsRow : OpenClaim := { program := "ytegongkecbdkkaa", sum := "b40f01a468b1a7ac1f33a4579f86d359b2c02e62672aaf7b1e9f4c53e42513a4", func := "loop.example/g00675/laws.FnFragments", spec := "fnFragments", inPlace := ["internal/abi.NoEscape"], unfollowed := true, recurses := true, apart := false }
def FnFragmentsSaid : Prop := fnFragmentsRow.holds Try.pinned (OpenSpec.ofChange fnFragmentsSpec)

/-- ITS FALSE NEIGHBOUR: 'it returns false'. Refute it at one input. -/
def fnFragmentsWrong : ChangeSpec := { name := "fnFragments", fn := fun _ => fun
  | [d] => { results := [.lit (.bool false)], args := [d] }
  | _ => none }
def FnFragmentsWrongFalsely : Prop := fnFragmentsRow.holds Try.pinned (OpenSpec.ofChange fnFragmentsWrong)

/-- 'laws.FnFragmentsTwice': WHATEVER THE INPUT: true; the input reads as it did. -/
def fnFragmentsTwiceSpec : ChangeSpec := { name := "fnFragmentsTwice", fn := fun _ => fun
  | [d] => { results := [.lit (.bool true)], args := [d] }
  | _ => none }
def fnFragmentsTwiceRow : OpenClaim := { program := "ytegongkecbdkkaa", sum := "b40f01a468b1a7ac1f33a4579f86d359b2c02e62672aaf7b1e9f4c53e42513a4", func := "loop.example/g00675/laws.FnFragmentsTwice", spec := "fnFragmentsTwice", inPlace := ["internal/abi.NoEscape"], unfollowed := true, recurses := true, apart := false }
def FnFragmentsTwiceSaid : Prop := fnFragmentsTwiceRow.holds Try.pinned (OpenSpec.ofChange fnFragmentsTwiceSpec)

/-- ITS FALSE NEIGHBOUR: 'it returns false'. Refute it at one input. -/
def fnFragmentsTwiceWrong : ChangeSpec := { name := "fnFragmentsTwice", fn := fun _ => fun
  | [d] => { results := [.lit (.bool false)], args := [d] }
  | _ => none }
def FnFragmentsTwiceWrongFalsely : Prop := fnFragmentsTwiceRow.holds Try.pinned (OpenSpec.ofChange fnFragmentsTwiceWrong)

/-- 'laws.FnFewest': WHATEVER THE INPUT: true; the input reads as it did. -/
def fnFewestSpec : ChangeSpec := { name := "fnFewest", fn := fun _ => fun
  | [d] => { results := [.lit (.bool true)], args := [d] }
  | _ => none }
def fnFewestRow : OpenClaim := { program := "ytegongkecbdkkaa", sum := "b40f01a468b1a7ac1f33a4579f86d359b2c02e62672aaf7b1e9f4c53e42513a4", func := "loop.example/g00675/laws.FnFewest", spec := "fnFewest", unfollowed := true, recurses := true, apart := false }
def FnFewestSaid : Prop := fnFewestRow.holds Try.pinned (OpenSpec.ofChange fnFewestSpec)

/-- ITS FALSE NEIGHBOUR: 'it returns false'. Refute it at one input. -/
def fnFewestWrong : ChangeSpec := { name := "fnFewest", fn := fun _ => fun
  | [d] => { results := [.lit (.bool false)], args := [d] }
  | _ => none }
def FnFewestWrongFalsely : Prop := fnFewestRow.holds Try.pinned (OpenSpec.ofChange fnFewestWrong)

/-- 'laws.FnCopied': WHATEVER THE INPUT: true; the input reads as it did. -/
def fnCopiedSpec : ChangeSpec := { name := "fnCopied", fn := fun _ => fun
  | [d] => { results := [.lit (.bool true)], args := [d] }
  | _ => none }
def fnCopiedRow : OpenClaim := { program := "ytegongkecbdkkaa", sum := "b40f01a468b1a7ac1f33a4579f86d359b2c02e62672aaf7b1e9f4c53e42513a4", func := "loop.example/g00675/laws.FnCopied", spec := "fnCopied", unfollowed := true, recurses := true, apart := false }
def FnCopiedSaid : Prop := fnCopiedRow.holds Try.pinned (OpenSpec.ofChange fnCopiedSpec)

/-- ITS FALSE NEIGHBOUR: 'it returns false'. Refute it at one input. -/
def fnCopiedWrong : ChangeSpec := { name := "fnCopied", fn := fun _ => fun
  | [d] => { results := [.lit (.bool false)], args := [d] }
  | _ => none }
def FnCopiedWrongFalsely : Prop := fnCopiedRow.holds Try.pinned (OpenSpec.ofChange fnCopiedWrong)

/-- 'laws.FnJoined': WHATEVER THE INPUT: true; the input reads as it did. -/
def fnJoinedSpec : ChangeSpec := { name := "fnJoined", fn := fun _ => fun
  | [d] => { results := [.lit (.bool true)], args := [d] }
  | _ => none }
def fnJoinedRow : OpenClaim := { program := "ytegongkecbdkkaa", sum := "b40f01a468b1a7ac1f33a4579f86d359b2c02e62672aaf7b1e9f4c53e42513a4", func := "loop.example/g00675/laws.FnJoined", spec := "fnJoined", inPlace := ["internal/abi.NoEscape"], apart := false }
def FnJoinedSaid : Prop := fnJoinedRow.holds Try.pinned (OpenSpec.ofChange fnJoinedSpec)

/-- ITS FALSE NEIGHBOUR: 'it returns false'. Refute it at one input. -/
def fnJoinedWrong : ChangeSpec := { name := "fnJoined", fn := fun _ => fun
  | [d] => { results := [.lit (.bool false)], args := [d] }
  | _ => none }
def FnJoinedWrongFalsely : Prop := fnJoinedRow.holds Try.pinned (OpenSpec.ofChange fnJoinedWrong)

/-- 'laws.FnFilled': WHATEVER THE INPUT: true; the input reads as it did. -/
def fnFilledSpec : ChangeSpec := { name := "fnFilled", fn := fun _ => fun
  | [d] => { results := [.lit (.bool true)], args := [d] }
  | _ => none }
def fnFilledRow : OpenClaim := { program := "ytegongkecbdkkaa", sum := "b40f01a468b1a7ac1f33a4579f86d359b2c02e62672aaf7b1e9f4c53e42513a4", func := "loop.example/g00675/laws.FnFilled", spec := "fnFilled", apart := false }
def FnFilledSaid : Prop := fnFilledRow.holds Try.pinned (OpenSpec.ofChange fnFilledSpec)

/-- ITS FALSE NEIGHBOUR: 'it returns false'. Refute it at one input. -/
def fnFilledWrong : ChangeSpec := { name := "fnFilled", fn := fun _ => fun
  | [d] => { results := [.lit (.bool false)], args := [d] }
  | _ => none }
def FnFilledWrongFalsely : Prop := fnFilledRow.holds Try.pinned (OpenSpec.ofChange fnFilledWrong)

/-- 'laws.FnFilledAgain': WHATEVER THE INPUT: true; the input reads as it did. -/
def fnFilledAgainSpec : ChangeSpec := { name := "fnFilledAgain", fn := fun _ => fun
  | [d] => { results := [.lit (.bool true)], args := [d] }
  | _ => none }
def fnFilledAgainRow : OpenClaim := { program := "ytegongkecbdkkaa", sum := "b40f01a468b1a7ac1f33a4579f86d359b2c02e62672aaf7b1e9f4c53e42513a4", func := "loop.example/g00675/laws.FnFilledAgain", spec := "fnFilledAgain", apart := false }
def FnFilledAgainSaid : Prop := fnFilledAgainRow.holds Try.pinned (OpenSpec.ofChange fnFilledAgainSpec)

/-- ITS FALSE NEIGHBOUR: 'it returns false'. Refute it at one input. -/
def fnFilledAgainWrong : ChangeSpec := { name := "fnFilledAgain", fn := fun _ => fun
  | [d] => { results := [.lit (.bool false)], args := [d] }
  | _ => none }
def FnFilledAgainWrongFalsely : Prop := fnFilledAgainRow.holds Try.pinned (OpenSpec.ofChange fnFilledAgainWrong)

/-- 'laws.FnHoles': WHATEVER THE INPUT: true; the input reads as it did. -/
def fnHolesSpec : ChangeSpec := { name := "fnHoles", fn := fun _ => fun
  | [d] => { results := [.lit (.bool true)], args := [d] }
  | _ => none }
def fnHolesRow : OpenClaim := { program := "ytegongkecbdkkaa", sum := "b40f01a468b1a7ac1f33a4579f86d359b2c02e62672aaf7b1e9f4c53e42513a4", func := "loop.example/g00675/laws.FnHoles", spec := "fnHoles", inPlace := ["internal/abi.NoEscape", "internal/bytealg.MakeNoZero"], apart := false }
def FnHolesSaid : Prop := fnHolesRow.holds Try.pinned (OpenSpec.ofChange fnHolesSpec)

/-- ITS FALSE NEIGHBOUR: 'it returns false'. Refute it at one input. -/
def fnHolesWrong : ChangeSpec := { name := "fnHoles", fn := fun _ => fun
  | [d] => { results := [.lit (.bool false)], args := [d] }
  | _ => none }
def FnHolesWrongFalsely : Prop := fnHolesRow.holds Try.pinned (OpenSpec.ofChange fnHolesWrong)

/-- 'laws.FnOffer': WHATEVER THE INPUT: true; the input reads as it did. -/
def fnOfferSpec : ChangeSpec := { name := "fnOffer", fn := fun _ => fun
  | [d] => { results := [.lit (.bool true)], args := [d] }
  | _ => none }
def fnOfferRow : OpenClaim := { program := "ytegongkecbdkkaa", sum := "b40f01a468b1a7ac1f33a4579f86d359b2c02e62672aaf7b1e9f4c53e42513a4", func := "loop.example/g00675/laws.FnOffer", spec := "fnOffer", unfollowed := true, recurses := true, apart := false }
def FnOfferSaid : Prop := fnOfferRow.holds Try.pinned (OpenSpec.ofChange fnOfferSpec)

/-- ITS FALSE NEIGHBOUR: 'it returns false'. Refute it at one input. -/
def fnOfferWrong : ChangeSpec := { name := "fnOffer", fn := fun _ => fun
  | [d] => { results := [.lit (.bool false)], args := [d] }
  | _ => none }
def FnOfferWrongFalsely : Prop := fnOfferRow.holds Try.pinned (OpenSpec.ofChange fnOfferWrong)

/-- 'laws.FnWhole': WHATEVER THE INPUT: true; the input reads as it did. -/
def fnWholeSpec : ChangeSpec := { name := "fnWhole", fn := fun _ => fun
  | [d] => { results := [.lit (.bool true)], args := [d] }
  | _ => none }
def fnWholeRow : OpenClaim := { program := "ytegongkecbdkkaa", sum := "b40f01a468b1a7ac1f33a4579f86d359b2c02e62672aaf7b1e9f4c53e42513a4", func := "loop.example/g00675/laws.FnWhole", spec := "fnWhole", unfollowed := true, recurses := true, apart := false }
def FnWholeSaid : Prop := fnWholeRow.holds Try.pinned (OpenSpec.ofChange fnWholeSpec)

/-- ITS FALSE NEIGHBOUR: 'it returns false'. Refute it at one input. -/
def fnWholeWrong : ChangeSpec := { name := "fnWhole", fn := fun _ => fun
  | [d] => { results := [.lit (.bool false)], args := [d] }
  | _ => none }
def FnWholeWrongFalsely : Prop := fnWholeRow.holds Try.pinned (OpenSpec.ofChange fnWholeWrong)

/-- 'laws.FnExpired': WHATEVER THE INPUT: true; the input reads as it did. -/
def fnExpiredSpec : ChangeSpec := { name := "fnExpired", fn := fun _ => fun
  | [d] => { results := [.lit (.bool true)], args := [d] }
  | _ => none }
def fnExpiredRow : OpenClaim := { program := "ytegongkecbdkkaa", sum := "b40f01a468b1a7ac1f33a4579f86d359b2c02e62672aaf7b1e9f4c53e42513a4", func := "loop.example/g00675/laws.FnExpired", spec := "fnExpired", unfollowed := true, recurses := true, apart := false }
def FnExpiredSaid : Prop := fnExpiredRow.holds Try.pinned (OpenSpec.ofChange fnExpiredSpec)

/-- ITS FALSE NEIGHBOUR: 'it returns false'. Refute it at one input. -/
def fnExpiredWrong : ChangeSpec := { name := "fnExpired", fn := fun _ => fun
  | [d] => { results := [.lit (.bool false)], args := [d] }
  | _ => none }
def FnExpiredWrongFalsely : Prop := fnExpiredRow.holds Try.pinned (OpenSpec.ofChange fnExpiredWrong)

/-- 'laws.FnOthers': WHATEVER THE INPUT: true; the input reads as it did. -/
def fnOthersSpec : ChangeSpec := { name := "fnOthers", fn := fun _ => fun
  | [d] => { results := [.lit (.bool true)], args := [d] }
  | _ => none }
def fnOthersRow : OpenClaim := { program := "ytegongkecbdkkaa", sum := "b40f01a468b1a7ac1f33a4579f86d359b2c02e62672aaf7b1e9f4c53e42513a4", func := "loop.example/g00675/laws.FnOthers", spec := "fnOthers", unfollowed := true, recurses := true, apart := false }
def FnOthersSaid : Prop := fnOthersRow.holds Try.pinned (OpenSpec.ofChange fnOthersSpec)

/-- ITS FALSE NEIGHBOUR: 'it returns false'. Refute it at one input. -/
def fnOthersWrong : ChangeSpec := { name := "fnOthers", fn := fun _ => fun
  | [d] => { results := [.lit (.bool false)], args := [d] }
  | _ => none }
def FnOthersWrongFalsely : Prop := fnOthersRow.holds Try.pinned (OpenSpec.ofChange fnOthersWrong)

/- THE SECOND FORM. 'bulk': how many values and letters a reading holds, each counted each time it is reached (what is shared counts as often as it is met; a slice's spare places count too). A statement '..UptoSaid' is the law's where the arguments, and the package variables that the reading takes, are together of bulk at most 1048576: NARROWER than '..Said'. Prove '..Said' where nothing that the law and all that it calls make is longer than what came in: it says more and counts as full. Else prove '..UptoSaid'. A law counts once. -/
mutual
def uptoBulk {H : Type} : DataW H → Nat
  | .lit (.string bytes) => bytes.length + 1
  | .lit _ => 1
  | .nil => 1
  | .ptr d => uptoBulk d + 1
  | .slice elems spare => uptoBulkAll elems + uptoBulkAll spare + 1
  | .agg parts => uptoBulkAll parts + 1
  | .iface _ d => uptoBulk d + 1
  | .map entries => uptoBulkEntries entries + 1
  | .held _ => 1
def uptoBulkAll {H : Type} : List (DataW H) → Nat
  | [] => 0
  | d :: r => uptoBulk d + uptoBulkAll r
def uptoBulkEntries {H : Type} : List (Lit × DataW H) → Nat
  | [] => 0
  | x :: r => uptoBulkEntry x + uptoBulkEntries r
def uptoBulkEntry {H : Type} : Lit × DataW H → Nat
  | (.string bytes, d) => bytes.length + uptoBulk d + 1
  | (_, d) => uptoBulk d + 1
 end
def uptoSmall : (H : Type) → List (DataW H) → Bool := fun _ ds => decide (uptoBulkAll ds ≤ 1048576)
def OpenSpec.upto (s : _root_.Go.ChangeSpec) : _root_.Go.OpenSpec := { _root_.Go.OpenSpec.ofChange s with cond := some uptoSmall }

/-- 'laws.FnFragments', WHERE WHAT IT READS IS OF BULK AT MOST 1048576: true; the input reads as it did. -/
def fnFragmentsUptoRow : OpenClaim := { program := "ytegongkecbdkkaa", sum := "b40f01a468b1a7ac1f33a4579f86d359b2c02e62672aaf7b1e9f4c53e42513a4", func := "loop.example/g00675/laws.FnFragments", spec := "fnFragments", inPlace := ["internal/abi.NoEscape"], unfollowed := true, recurses := true, apart := false, narrowed := true }
def FnFragmentsUptoSaid : Prop := fnFragmentsUptoRow.holds Try.pinned (OpenSpec.upto fnFragmentsSpec)

/-- 'laws.FnFragmentsTwice', WHERE WHAT IT READS IS OF BULK AT MOST 1048576: true; the input reads as it did. -/
def fnFragmentsTwiceUptoRow : OpenClaim := { program := "ytegongkecbdkkaa", sum := "b40f01a468b1a7ac1f33a4579f86d359b2c02e62672aaf7b1e9f4c53e42513a4", func := "loop.example/g00675/laws.FnFragmentsTwice", spec := "fnFragmentsTwice", inPlace := ["internal/abi.NoEscape"], unfollowed := true, recurses := true, apart := false, narrowed := true }
def FnFragmentsTwiceUptoSaid : Prop := fnFragmentsTwiceUptoRow.holds Try.pinned (OpenSpec.upto fnFragmentsTwiceSpec)

/-- 'laws.FnFewest', WHERE WHAT IT READS IS OF BULK AT MOST 1048576: true; the input reads as it did. -/
def fnFewestUptoRow : OpenClaim := { program := "ytegongkecbdkkaa", sum := "b40f01a468b1a7ac1f33a4579f86d359b2c02e62672aaf7b1e9f4c53e42513a4", func := "loop.example/g00675/laws.FnFewest", spec := "fnFewest", unfollowed := true, recurses := true, apart := false, narrowed := true }
def FnFewestUptoSaid : Prop := fnFewestUptoRow.holds Try.pinned (OpenSpec.upto fnFewestSpec)

/-- 'laws.FnCopied', WHERE WHAT IT READS IS OF BULK AT MOST 1048576: true; the input reads as it did. -/
def fnCopiedUptoRow : OpenClaim := { program := "ytegongkecbdkkaa", sum := "b40f01a468b1a7ac1f33a4579f86d359b2c02e62672aaf7b1e9f4c53e42513a4", func := "loop.example/g00675/laws.FnCopied", spec := "fnCopied", unfollowed := true, recurses := true, apart := false, narrowed := true }
def FnCopiedUptoSaid : Prop := fnCopiedUptoRow.holds Try.pinned (OpenSpec.upto fnCopiedSpec)

/-- 'laws.FnJoined', WHERE WHAT IT READS IS OF BULK AT MOST 1048576: true; the input reads as it did. -/
def fnJoinedUptoRow : OpenClaim := { program := "ytegongkecbdkkaa", sum := "b40f01a468b1a7ac1f33a4579f86d359b2c02e62672aaf7b1e9f4c53e42513a4", func := "loop.example/g00675/laws.FnJoined", spec := "fnJoined", inPlace := ["internal/abi.NoEscape"], apart := false, narrowed := true }
def FnJoinedUptoSaid : Prop := fnJoinedUptoRow.holds Try.pinned (OpenSpec.upto fnJoinedSpec)

/-- 'laws.FnFilled', WHERE WHAT IT READS IS OF BULK AT MOST 1048576: true; the input reads as it did. -/
def fnFilledUptoRow : OpenClaim := { program := "ytegongkecbdkkaa", sum := "b40f01a468b1a7ac1f33a4579f86d359b2c02e62672aaf7b1e9f4c53e42513a4", func := "loop.example/g00675/laws.FnFilled", spec := "fnFilled", apart := false, narrowed := true }
def FnFilledUptoSaid : Prop := fnFilledUptoRow.holds Try.pinned (OpenSpec.upto fnFilledSpec)

/-- 'laws.FnFilledAgain', WHERE WHAT IT READS IS OF BULK AT MOST 1048576: true; the input reads as it did. -/
def fnFilledAgainUptoRow : OpenClaim := { program := "ytegongkecbdkkaa", sum := "b40f01a468b1a7ac1f33a4579f86d359b2c02e62672aaf7b1e9f4c53e42513a4", func := "loop.example/g00675/laws.FnFilledAgain", spec := "fnFilledAgain", apart := false, narrowed := true }
def FnFilledAgainUptoSaid : Prop := fnFilledAgainUptoRow.holds Try.pinned (OpenSpec.upto fnFilledAgainSpec)

/-- 'laws.FnHoles', WHERE WHAT IT READS IS OF BULK AT MOST 1048576: true; the input reads as it did. -/
def fnHolesUptoRow : OpenClaim := { program := "ytegongkecbdkkaa", sum := "b40f01a468b1a7ac1f33a4579f86d359b2c02e62672aaf7b1e9f4c53e42513a4", func := "loop.example/g00675/laws.FnHoles", spec := "fnHoles", inPlace := ["internal/abi.NoEscape", "internal/bytealg.MakeNoZero"], apart := false, narrowed := true }
def FnHolesUptoSaid : Prop := fnHolesUptoRow.holds Try.pinned (OpenSpec.upto fnHolesSpec)

/-- 'laws.FnOffer', WHERE WHAT IT READS IS OF BULK AT MOST 1048576: true; the input reads as it did. -/
def fnOfferUptoRow : OpenClaim := { program := "ytegongkecbdkkaa", sum := "b40f01a468b1a7ac1f33a4579f86d359b2c02e62672aaf7b1e9f4c53e42513a4", func := "loop.example/g00675/laws.FnOffer", spec := "fnOffer", unfollowed := true, recurses := true, apart := false, narrowed := true }
def FnOfferUptoSaid : Prop := fnOfferUptoRow.holds Try.pinned (OpenSpec.upto fnOfferSpec)

/-- 'laws.FnWhole', WHERE WHAT IT READS IS OF BULK AT MOST 1048576: true; the input reads as it did. -/
def fnWholeUptoRow : OpenClaim := { program := "ytegongkecbdkkaa", sum := "b40f01a468b1a7ac1f33a4579f86d359b2c02e62672aaf7b1e9f4c53e42513a4", func := "loop.example/g00675/laws.FnWhole", spec := "fnWhole", unfollowed := true, recurses := true, apart := false, narrowed := true }
def FnWholeUptoSaid : Prop := fnWholeUptoRow.holds Try.pinned (OpenSpec.upto fnWholeSpec)

/-- 'laws.FnExpired', WHERE WHAT IT READS IS OF BULK AT MOST 1048576: true; the input reads as it did. -/
def fnExpiredUptoRow : OpenClaim := { program := "ytegongkecbdkkaa", sum := "b40f01a468b1a7ac1f33a4579f86d359b2c02e62672aaf7b1e9f4c53e42513a4", func := "loop.example/g00675/laws.FnExpired", spec := "fnExpired", unfollowed := true, recurses := true, apart := false, narrowed := true }
def FnExpiredUptoSaid : Prop := fnExpiredUptoRow.holds Try.pinned (OpenSpec.upto fnExpiredSpec)

/-- 'laws.FnOthers', WHERE WHAT IT READS IS OF BULK AT MOST 1048576: true; the input reads as it did. -/
def fnOthersUptoRow : OpenClaim := { program := "ytegongkecbdkkaa", sum := "b40f01a468b1a7ac1f33a4579f86d359b2c02e62672aaf7b1e9f4c53e42513a4", func := "loop.example/g00675/laws.FnOthers", spec := "fnOthers", unfollowed := true, recurses := true, apart := false, narrowed := true }
def FnOthersUptoSaid : Prop := fnOthersUptoRow.holds Try.pinned (OpenSpec.upto fnOthersSpec)

end Rows
end Go.Proofs.Ytegongkecbdkkaa
