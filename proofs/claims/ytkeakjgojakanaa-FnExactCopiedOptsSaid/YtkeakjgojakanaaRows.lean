/-
  No cell of these rows narrows 'for every input' (looked for: loops, veiled, ifaces, maps, wideKeys, modest, calm, conditions, laid).
  DERIVED. THE GIVEN ROWS OF THIS SEAT. 9 by the template 'for every input the law returns true; each argument reads behind the call as it read before'; 0 by the template 'total and deterministic' (their statements: YtkeakjgojakanaaTotals.lean).
  GIVEN WITH THE SEED: the statements are not yours to turn. If you find one false, say at which input.
  Laid BY PROGRAM, IN A SANDBOX (cutbox-rows.mjs): the forced cells as the released guide's own fill.sh prints them over the translation 09acae7e729d9568… (all of the seat's roots in one cut). By AI agents, Wed Nov 11 2026. No macro, syntax, notation, axiom, sorry.
-/
import Derived.Test.YtkeakjgojakanaaChecked
import GoSem.Claim
import GoSem.ClaimJoined
import GoSem.ClaimMapViews
import Derived.JoinedTies
import Derived.KernelRfl
namespace Go.Proofs.Ytkeakjgojakanaa
/- THE CELL 'sum', in the pinned program and in every row, IS THE sha256 OF THE DUMP (.gsa) THAT YtkeakjgojakanaaProg.lean LOADS. Nothing in Lean hashes anything: it is a label: what it is worth is what the hold of that sum in a sandbox is worth. -/
noncomputable def Try.pinned : Pinned := { name := "ytkeakjgojakanaa", sum := "09acae7e729d9568cc16c55c4ca19be8601b888ecda777fdd7b8ead5cc7eb288", checked := Try.checked }
namespace Rows
def none {H : Type} : Left H := { results := [], args := [] }

/-- 'laws.FnExactEndOk': WHATEVER THE INPUT: true; the input reads as it did. -/
def fnExactEndOkSpec : ChangeSpec := { name := "fnExactEndOk", fn := fun _ => fun
  | [d] => { results := [.lit (.bool true)], args := [d] }
  | _ => none }
def fnExactEndOkRow : OpenClaim := { program := "ytkeakjgojakanaa", sum := "09acae7e729d9568cc16c55c4ca19be8601b888ecda777fdd7b8ead5cc7eb288", func := "loop.example/g00675/laws.FnExactEndOk", spec := "fnExactEndOk", apart := false }
def FnExactEndOkSaid : Prop := fnExactEndOkRow.holds Try.pinned (OpenSpec.ofChange fnExactEndOkSpec)

/-- ITS FALSE NEIGHBOUR: 'it returns false'. Refute it at one input. -/
def fnExactEndOkWrong : ChangeSpec := { name := "fnExactEndOk", fn := fun _ => fun
  | [d] => { results := [.lit (.bool false)], args := [d] }
  | _ => none }
def FnExactEndOkWrongFalsely : Prop := fnExactEndOkRow.holds Try.pinned (OpenSpec.ofChange fnExactEndOkWrong)

/-- 'laws.FnExactCopiedOpts': WHATEVER THE INPUT: true; the input reads as it did. -/
def fnExactCopiedOptsSpec : ChangeSpec := { name := "fnExactCopiedOpts", fn := fun _ => fun
  | [d] => { results := [.lit (.bool true)], args := [d] }
  | _ => none }
def fnExactCopiedOptsRow : OpenClaim := { program := "ytkeakjgojakanaa", sum := "09acae7e729d9568cc16c55c4ca19be8601b888ecda777fdd7b8ead5cc7eb288", func := "loop.example/g00675/laws.FnExactCopiedOpts", spec := "fnExactCopiedOpts", unfollowed := true, recurses := true, apart := false }
def FnExactCopiedOptsSaid : Prop := fnExactCopiedOptsRow.holds Try.pinned (OpenSpec.ofChange fnExactCopiedOptsSpec)

/-- ITS FALSE NEIGHBOUR: 'it returns false'. Refute it at one input. -/
def fnExactCopiedOptsWrong : ChangeSpec := { name := "fnExactCopiedOpts", fn := fun _ => fun
  | [d] => { results := [.lit (.bool false)], args := [d] }
  | _ => none }
def FnExactCopiedOptsWrongFalsely : Prop := fnExactCopiedOptsRow.holds Try.pinned (OpenSpec.ofChange fnExactCopiedOptsWrong)

/-- 'laws.FnExactFragments': WHATEVER THE INPUT: true; the input reads as it did. -/
def fnExactFragmentsSpec : ChangeSpec := { name := "fnExactFragments", fn := fun _ => fun
  | [d1, d2] => { results := [.lit (.bool true)], args := [d1, d2] }
  | _ => none }
def fnExactFragmentsRow : OpenClaim := { program := "ytkeakjgojakanaa", sum := "09acae7e729d9568cc16c55c4ca19be8601b888ecda777fdd7b8ead5cc7eb288", func := "loop.example/g00675/laws.FnExactFragments", spec := "fnExactFragments", unfollowed := true, recurses := true, apart := false }
def FnExactFragmentsSaid : Prop := fnExactFragmentsRow.holds Try.pinned (OpenSpec.ofChange fnExactFragmentsSpec)

/-- ITS FALSE NEIGHBOUR: 'it returns false'. Refute it at one input. -/
def fnExactFragmentsWrong : ChangeSpec := { name := "fnExactFragments", fn := fun _ => fun
  | [d1, d2] => { results := [.lit (.bool false)], args := [d1, d2] }
  | _ => none }
def FnExactFragmentsWrongFalsely : Prop := fnExactFragmentsRow.holds Try.pinned (OpenSpec.ofChange fnExactFragmentsWrong)

/-- 'laws.FnExactJoined': WHATEVER THE INPUT: true; the input reads as it did. -/
def fnExactJoinedSpec : ChangeSpec := { name := "fnExactJoined", fn := fun _ => fun
  | [d] => { results := [.lit (.bool true)], args := [d] }
  | _ => none }
def fnExactJoinedRow : OpenClaim := { program := "ytkeakjgojakanaa", sum := "09acae7e729d9568cc16c55c4ca19be8601b888ecda777fdd7b8ead5cc7eb288", func := "loop.example/g00675/laws.FnExactJoined", spec := "fnExactJoined", inPlace := ["internal/abi.NoEscape"], apart := false }
def FnExactJoinedSaid : Prop := fnExactJoinedRow.holds Try.pinned (OpenSpec.ofChange fnExactJoinedSpec)

/-- ITS FALSE NEIGHBOUR: 'it returns false'. Refute it at one input. -/
def fnExactJoinedWrong : ChangeSpec := { name := "fnExactJoined", fn := fun _ => fun
  | [d] => { results := [.lit (.bool false)], args := [d] }
  | _ => none }
def FnExactJoinedWrongFalsely : Prop := fnExactJoinedRow.holds Try.pinned (OpenSpec.ofChange fnExactJoinedWrong)

/-- 'laws.FnExactFilled': WHATEVER THE INPUT: true; the input reads as it did. -/
def fnExactFilledSpec : ChangeSpec := { name := "fnExactFilled", fn := fun _ => fun
  | [d1, d2, d3] => { results := [.lit (.bool true)], args := [d1, d2, d3] }
  | _ => none }
def fnExactFilledRow : OpenClaim := { program := "ytkeakjgojakanaa", sum := "09acae7e729d9568cc16c55c4ca19be8601b888ecda777fdd7b8ead5cc7eb288", func := "loop.example/g00675/laws.FnExactFilled", spec := "fnExactFilled", apart := false }
def FnExactFilledSaid : Prop := fnExactFilledRow.holds Try.pinned (OpenSpec.ofChange fnExactFilledSpec)

/-- ITS FALSE NEIGHBOUR: 'it returns false'. Refute it at one input. -/
def fnExactFilledWrong : ChangeSpec := { name := "fnExactFilled", fn := fun _ => fun
  | [d1, d2, d3] => { results := [.lit (.bool false)], args := [d1, d2, d3] }
  | _ => none }
def FnExactFilledWrongFalsely : Prop := fnExactFilledRow.holds Try.pinned (OpenSpec.ofChange fnExactFilledWrong)

/-- 'laws.FnExactHoles': WHATEVER THE INPUT: true; the input reads as it did. -/
def fnExactHolesSpec : ChangeSpec := { name := "fnExactHoles", fn := fun _ => fun
  | [d1, d2] => { results := [.lit (.bool true)], args := [d1, d2] }
  | _ => none }
def fnExactHolesRow : OpenClaim := { program := "ytkeakjgojakanaa", sum := "09acae7e729d9568cc16c55c4ca19be8601b888ecda777fdd7b8ead5cc7eb288", func := "loop.example/g00675/laws.FnExactHoles", spec := "fnExactHoles", inPlace := ["internal/abi.NoEscape", "internal/bytealg.MakeNoZero"], apart := false }
def FnExactHolesSaid : Prop := fnExactHolesRow.holds Try.pinned (OpenSpec.ofChange fnExactHolesSpec)

/-- ITS FALSE NEIGHBOUR: 'it returns false'. Refute it at one input. -/
def fnExactHolesWrong : ChangeSpec := { name := "fnExactHoles", fn := fun _ => fun
  | [d1, d2] => { results := [.lit (.bool false)], args := [d1, d2] }
  | _ => none }
def FnExactHolesWrongFalsely : Prop := fnExactHolesRow.holds Try.pinned (OpenSpec.ofChange fnExactHolesWrong)

/-- 'laws.FnExactBufOk': WHATEVER THE INPUT: true; the input reads as it did. -/
def fnExactBufOkSpec : ChangeSpec := { name := "fnExactBufOk", fn := fun _ => fun
  | [d] => { results := [.lit (.bool true)], args := [d] }
  | _ => none }
def fnExactBufOkRow : OpenClaim := { program := "ytkeakjgojakanaa", sum := "09acae7e729d9568cc16c55c4ca19be8601b888ecda777fdd7b8ead5cc7eb288", func := "loop.example/g00675/laws.FnExactBufOk", spec := "fnExactBufOk", unfollowed := true, recurses := true, apart := false }
def FnExactBufOkSaid : Prop := fnExactBufOkRow.holds Try.pinned (OpenSpec.ofChange fnExactBufOkSpec)

/-- ITS FALSE NEIGHBOUR: 'it returns false'. Refute it at one input. -/
def fnExactBufOkWrong : ChangeSpec := { name := "fnExactBufOk", fn := fun _ => fun
  | [d] => { results := [.lit (.bool false)], args := [d] }
  | _ => none }
def FnExactBufOkWrongFalsely : Prop := fnExactBufOkRow.holds Try.pinned (OpenSpec.ofChange fnExactBufOkWrong)

/-- 'laws.FnExactOffer': WHATEVER THE INPUT: true; the input reads as it did. -/
def fnExactOfferSpec : ChangeSpec := { name := "fnExactOffer", fn := fun _ => fun
  | [d1, d2, d3] => { results := [.lit (.bool true)], args := [d1, d2, d3] }
  | _ => none }
def fnExactOfferRow : OpenClaim := { program := "ytkeakjgojakanaa", sum := "09acae7e729d9568cc16c55c4ca19be8601b888ecda777fdd7b8ead5cc7eb288", func := "loop.example/g00675/laws.FnExactOffer", spec := "fnExactOffer", unfollowed := true, recurses := true, apart := false }
def FnExactOfferSaid : Prop := fnExactOfferRow.holds Try.pinned (OpenSpec.ofChange fnExactOfferSpec)

/-- ITS FALSE NEIGHBOUR: 'it returns false'. Refute it at one input. -/
def fnExactOfferWrong : ChangeSpec := { name := "fnExactOffer", fn := fun _ => fun
  | [d1, d2, d3] => { results := [.lit (.bool false)], args := [d1, d2, d3] }
  | _ => none }
def FnExactOfferWrongFalsely : Prop := fnExactOfferRow.holds Try.pinned (OpenSpec.ofChange fnExactOfferWrong)

/-- 'laws.FnExactExpired': WHATEVER THE INPUT: true; the input reads as it did. -/
def fnExactExpiredSpec : ChangeSpec := { name := "fnExactExpired", fn := fun _ => fun
  | [d1, d2] => { results := [.lit (.bool true)], args := [d1, d2] }
  | _ => none }
def fnExactExpiredRow : OpenClaim := { program := "ytkeakjgojakanaa", sum := "09acae7e729d9568cc16c55c4ca19be8601b888ecda777fdd7b8ead5cc7eb288", func := "loop.example/g00675/laws.FnExactExpired", spec := "fnExactExpired", unfollowed := true, recurses := true, apart := false }
def FnExactExpiredSaid : Prop := fnExactExpiredRow.holds Try.pinned (OpenSpec.ofChange fnExactExpiredSpec)

/-- ITS FALSE NEIGHBOUR: 'it returns false'. Refute it at one input. -/
def fnExactExpiredWrong : ChangeSpec := { name := "fnExactExpired", fn := fun _ => fun
  | [d1, d2] => { results := [.lit (.bool false)], args := [d1, d2] }
  | _ => none }
def FnExactExpiredWrongFalsely : Prop := fnExactExpiredRow.holds Try.pinned (OpenSpec.ofChange fnExactExpiredWrong)

/- THE SECOND FORM. 'bulk': how many values and letters a reading holds, each counted each time it is reached (what is shared counts as often as it is met; a slice's spare places count too). A statement '..UptoSaid' is the law's where the arguments, and the package variables that the reading takes, are together of bulk at most 1048576: NARROWER than '..Said'. Prove '..Said' where nothing that the law and all that it calls make is longer than what came in: it says more and counts as full. Else prove '..UptoSaid'. A law counts once. -/
mutual
def uptoBulk {H : Type} : DataW H → Nat
  | .lit (.string bytes) => bytes.length + 1
  | .lit _ => 1
  | .nil => 1
  | .ptr d => uptoBulk d + 1
  | .slice elems spare => uptoBulkAll elems + uptoBulkAll spare + 1
  | .agg parts => uptoBulkAll parts + 1
  | .iface _ d => uptoBulk d + 1
  | .map entries => uptoBulkEntries entries + 1
  | .held _ => 1
def uptoBulkAll {H : Type} : List (DataW H) → Nat
  | [] => 0
  | d :: r => uptoBulk d + uptoBulkAll r
def uptoBulkEntries {H : Type} : List (Lit × DataW H) → Nat
  | [] => 0
  | x :: r => uptoBulkEntry x + uptoBulkEntries r
def uptoBulkEntry {H : Type} : Lit × DataW H → Nat
  | (.string bytes, d) => bytes.length + uptoBulk d + 1
  | (_, d) => uptoBulk d + 1
 end
def uptoSmall : (H : Type) → List (DataW H) → Bool := fun _ ds => decide (uptoBulkAll ds ≤ 1048576)
def OpenSpec.upto (s : _root_.Go.ChangeSpec) : _root_.Go.OpenSpec := { _root_.Go.OpenSpec.ofChange s with cond := some uptoSmall }

/-- 'laws.FnExactEndOk', WHERE WHAT IT READS IS OF BULK AT MOST 1048576: true; the input reads as it did. -/
def fnExactEndOkUptoRow : OpenClaim := { program := "ytkeakjgojakanaa", sum := "09acae7e729d9568cc16c55c4ca19be8601b888ecda777fdd7b8ead5cc7eb288", func := "loop.example/g00675/laws.FnExactEndOk", spec := "fnExactEndOk", apart := false, narrowed := true }
def FnExactEndOkUptoSaid : Prop := fnExactEndOkUptoRow.holds Try.pinned (OpenSpec.upto fnExactEndOkSpec)

/-- 'laws.FnExactCopiedOpts', WHERE WHAT IT READS IS OF BULK AT MOST 1048576: true; the input reads as it did. -/
def fnExactCopiedOptsUptoRow : OpenClaim := { program := "ytkeakjgojakanaa", sum := "09acae7e729d9568cc16c55c4ca19be8601b888ecda777fdd7b8ead5cc7eb288", func := "loop.example/g00675/laws.FnExactCopiedOpts", spec := "fnExactCopiedOpts", unfollowed := true, recurses := true, apart := false, narrowed := true }
def FnExactCopiedOptsUptoSaid : Prop := fnExactCopiedOptsUptoRow.holds Try.pinned (OpenSpec.upto fnExactCopiedOptsSpec)

/-- 'laws.FnExactFragments', WHERE WHAT IT READS IS OF BULK AT MOST 1048576: true; the input reads as it did. -/
def fnExactFragmentsUptoRow : OpenClaim := { program := "ytkeakjgojakanaa", sum := "09acae7e729d9568cc16c55c4ca19be8601b888ecda777fdd7b8ead5cc7eb288", func := "loop.example/g00675/laws.FnExactFragments", spec := "fnExactFragments", unfollowed := true, recurses := true, apart := false, narrowed := true }
def FnExactFragmentsUptoSaid : Prop := fnExactFragmentsUptoRow.holds Try.pinned (OpenSpec.upto fnExactFragmentsSpec)

/-- 'laws.FnExactJoined', WHERE WHAT IT READS IS OF BULK AT MOST 1048576: true; the input reads as it did. -/
def fnExactJoinedUptoRow : OpenClaim := { program := "ytkeakjgojakanaa", sum := "09acae7e729d9568cc16c55c4ca19be8601b888ecda777fdd7b8ead5cc7eb288", func := "loop.example/g00675/laws.FnExactJoined", spec := "fnExactJoined", inPlace := ["internal/abi.NoEscape"], apart := false, narrowed := true }
def FnExactJoinedUptoSaid : Prop := fnExactJoinedUptoRow.holds Try.pinned (OpenSpec.upto fnExactJoinedSpec)

/-- 'laws.FnExactFilled', WHERE WHAT IT READS IS OF BULK AT MOST 1048576: true; the input reads as it did. -/
def fnExactFilledUptoRow : OpenClaim := { program := "ytkeakjgojakanaa", sum := "09acae7e729d9568cc16c55c4ca19be8601b888ecda777fdd7b8ead5cc7eb288", func := "loop.example/g00675/laws.FnExactFilled", spec := "fnExactFilled", apart := false, narrowed := true }
def FnExactFilledUptoSaid : Prop := fnExactFilledUptoRow.holds Try.pinned (OpenSpec.upto fnExactFilledSpec)

/-- 'laws.FnExactHoles', WHERE WHAT IT READS IS OF BULK AT MOST 1048576: true; the input reads as it did. -/
def fnExactHolesUptoRow : OpenClaim := { program := "ytkeakjgojakanaa", sum := "09acae7e729d9568cc16c55c4ca19be8601b888ecda777fdd7b8ead5cc7eb288", func := "loop.example/g00675/laws.FnExactHoles", spec := "fnExactHoles", inPlace := ["internal/abi.NoEscape", "internal/bytealg.MakeNoZero"], apart := false, narrowed := true }
def FnExactHolesUptoSaid : Prop := fnExactHolesUptoRow.holds Try.pinned (OpenSpec.upto fnExactHolesSpec)

/-- 'laws.FnExactBufOk', WHERE WHAT IT READS IS OF BULK AT MOST 1048576: true; the input reads as it did. -/
def fnExactBufOkUptoRow : OpenClaim := { program := "ytkeakjgojakanaa", sum := "09acae7e729d9568cc16c55c4ca19be8601b888ecda777fdd7b8ead5cc7eb288", func := "loop.example/g00675/laws.FnExactBufOk", spec := "fnExactBufOk", unfollowed := true, recurses := true, apart := false, narrowed := true }
def FnExactBufOkUptoSaid : Prop := fnExactBufOkUptoRow.holds Try.pinned (OpenSpec.upto fnExactBufOkSpec)

/-- 'laws.FnExactOffer', WHERE WHAT IT READS IS OF BULK AT MOST 1048576: true; the input reads as it did. -/
def fnExactOfferUptoRow : OpenClaim := { program := "ytkeakjgojakanaa", sum := "09acae7e729d9568cc16c55c4ca19be8601b888ecda777fdd7b8ead5cc7eb288", func := "loop.example/g00675/laws.FnExactOffer", spec := "fnExactOffer", unfollowed := true, recurses := true, apart := false, narrowed := true }
def FnExactOfferUptoSaid : Prop := fnExactOfferUptoRow.holds Try.pinned (OpenSpec.upto fnExactOfferSpec)

/-- 'laws.FnExactExpired', WHERE WHAT IT READS IS OF BULK AT MOST 1048576: true; the input reads as it did. -/
def fnExactExpiredUptoRow : OpenClaim := { program := "ytkeakjgojakanaa", sum := "09acae7e729d9568cc16c55c4ca19be8601b888ecda777fdd7b8ead5cc7eb288", func := "loop.example/g00675/laws.FnExactExpired", spec := "fnExactExpired", unfollowed := true, recurses := true, apart := false, narrowed := true }
def FnExactExpiredUptoSaid : Prop := fnExactExpiredUptoRow.holds Try.pinned (OpenSpec.upto fnExactExpiredSpec)

end Rows
end Go.Proofs.Ytkeakjgojakanaa
