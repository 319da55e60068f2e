/-
  No cell of these rows narrows 'for every input' (looked for: loops, veiled, ifaces, maps, wideKeys, modest, calm, conditions, laid).
  DERIVED. THE GIVEN ROWS OF THIS SEAT. 9 by the template 'for every input the law returns true; each argument reads behind the call as it read before'; 0 by the template 'total and deterministic' (their statements: YtijbemejbemcmaaTotals.lean).
  GIVEN WITH THE SEED: the statements are not yours to turn. If you find one false, say at which input.
  Laid BY PROGRAM, IN A SANDBOX (cutbox-rows.mjs): the forced cells as the released guide's own fill.sh prints them over the translation a6520af6fbbc9a12… (all of the seat's roots in one cut). By AI agents, Wed Nov 11 2026. No macro, syntax, notation, axiom, sorry.
-/
import Derived.Test.YtijbemejbemcmaaChecked
import GoSem.Claim
import GoSem.ClaimJoined
import GoSem.ClaimMapViews
import Derived.JoinedTies
import Derived.KernelRfl
namespace Go.Proofs.Ytijbemejbemcmaa
/- THE CELL 'sum', in the pinned program and in every row, IS THE sha256 OF THE DUMP (.gsa) THAT YtijbemejbemcmaaProg.lean LOADS. Nothing in Lean hashes anything: it is a label: what it is worth is what the hold of that sum in a sandbox is worth. -/
noncomputable def Try.pinned : Pinned := { name := "ytijbemejbemcmaa", sum := "a6520af6fbbc9a1271103860860f63b5085f82c81ad409e629022670a39ec314", checked := Try.checked }
namespace Rows
def none {H : Type} : Left H := { results := [], args := [] }

/-- 'laws.FnExactExactPut': WHATEVER THE INPUT: true; the input reads as it did. -/
def fnExactExactPutSpec : ChangeSpec := { name := "fnExactExactPut", fn := fun _ => fun
  | [d1, d2, d3] => { results := [.lit (.bool true)], args := [d1, d2, d3] }
  | _ => none }
def fnExactExactPutRow : OpenClaim := { program := "ytijbemejbemcmaa", sum := "a6520af6fbbc9a1271103860860f63b5085f82c81ad409e629022670a39ec314", func := "loop.example/g00675/laws.FnExactExactPut", spec := "fnExactExactPut", unfollowed := true, recurses := true, apart := false }
def FnExactExactPutSaid : Prop := fnExactExactPutRow.holds Try.pinned (OpenSpec.ofChange fnExactExactPutSpec)

/-- ITS FALSE NEIGHBOUR: 'it returns false'. Refute it at one input. -/
def fnExactExactPutWrong : ChangeSpec := { name := "fnExactExactPut", fn := fun _ => fun
  | [d1, d2, d3] => { results := [.lit (.bool false)], args := [d1, d2, d3] }
  | _ => none }
def FnExactExactPutWrongFalsely : Prop := fnExactExactPutRow.holds Try.pinned (OpenSpec.ofChange fnExactExactPutWrong)

/-- 'laws.FnExactExactFind': WHATEVER THE INPUT: true; the input reads as it did. -/
def fnExactExactFindSpec : ChangeSpec := { name := "fnExactExactFind", fn := fun _ => fun
  | [d1, d2] => { results := [.lit (.bool true)], args := [d1, d2] }
  | _ => none }
def fnExactExactFindRow : OpenClaim := { program := "ytijbemejbemcmaa", sum := "a6520af6fbbc9a1271103860860f63b5085f82c81ad409e629022670a39ec314", func := "loop.example/g00675/laws.FnExactExactFind", spec := "fnExactExactFind", unfollowed := true, recurses := true, apart := false }
def FnExactExactFindSaid : Prop := fnExactExactFindRow.holds Try.pinned (OpenSpec.ofChange fnExactExactFindSpec)

/-- ITS FALSE NEIGHBOUR: 'it returns false'. Refute it at one input. -/
def fnExactExactFindWrong : ChangeSpec := { name := "fnExactExactFind", fn := fun _ => fun
  | [d1, d2] => { results := [.lit (.bool false)], args := [d1, d2] }
  | _ => none }
def FnExactExactFindWrongFalsely : Prop := fnExactExactFindRow.holds Try.pinned (OpenSpec.ofChange fnExactExactFindWrong)

/-- 'laws.FnExactPrefixPut': WHATEVER THE INPUT: true; the input reads as it did. -/
def fnExactPrefixPutSpec : ChangeSpec := { name := "fnExactPrefixPut", fn := fun _ => fun
  | [d1, d2, d3, d4] => { results := [.lit (.bool true)], args := [d1, d2, d3, d4] }
  | _ => none }
def fnExactPrefixPutRow : OpenClaim := { program := "ytijbemejbemcmaa", sum := "a6520af6fbbc9a1271103860860f63b5085f82c81ad409e629022670a39ec314", func := "loop.example/g00675/laws.FnExactPrefixPut", spec := "fnExactPrefixPut", unfollowed := true, recurses := true, apart := false }
def FnExactPrefixPutSaid : Prop := fnExactPrefixPutRow.holds Try.pinned (OpenSpec.ofChange fnExactPrefixPutSpec)

/-- ITS FALSE NEIGHBOUR: 'it returns false'. Refute it at one input. -/
def fnExactPrefixPutWrong : ChangeSpec := { name := "fnExactPrefixPut", fn := fun _ => fun
  | [d1, d2, d3, d4] => { results := [.lit (.bool false)], args := [d1, d2, d3, d4] }
  | _ => none }
def FnExactPrefixPutWrongFalsely : Prop := fnExactPrefixPutRow.holds Try.pinned (OpenSpec.ofChange fnExactPrefixPutWrong)

/-- 'laws.FnExactPrefixFind': WHATEVER THE INPUT: true; the input reads as it did. -/
def fnExactPrefixFindSpec : ChangeSpec := { name := "fnExactPrefixFind", fn := fun _ => fun
  | [d1, d2] => { results := [.lit (.bool true)], args := [d1, d2] }
  | _ => none }
def fnExactPrefixFindRow : OpenClaim := { program := "ytijbemejbemcmaa", sum := "a6520af6fbbc9a1271103860860f63b5085f82c81ad409e629022670a39ec314", func := "loop.example/g00675/laws.FnExactPrefixFind", spec := "fnExactPrefixFind", unfollowed := true, recurses := true, apart := false }
def FnExactPrefixFindSaid : Prop := fnExactPrefixFindRow.holds Try.pinned (OpenSpec.ofChange fnExactPrefixFindSpec)

/-- ITS FALSE NEIGHBOUR: 'it returns false'. Refute it at one input. -/
def fnExactPrefixFindWrong : ChangeSpec := { name := "fnExactPrefixFind", fn := fun _ => fun
  | [d1, d2] => { results := [.lit (.bool false)], args := [d1, d2] }
  | _ => none }
def FnExactPrefixFindWrongFalsely : Prop := fnExactPrefixFindRow.holds Try.pinned (OpenSpec.ofChange fnExactPrefixFindWrong)

/-- 'laws.FnExactTernPut': WHATEVER THE INPUT: true; the input reads as it did. -/
def fnExactTernPutSpec : ChangeSpec := { name := "fnExactTernPut", fn := fun _ => fun
  | [d1, d2, d3, d4, d5] => { results := [.lit (.bool true)], args := [d1, d2, d3, d4, d5] }
  | _ => none }
def fnExactTernPutRow : OpenClaim := { program := "ytijbemejbemcmaa", sum := "a6520af6fbbc9a1271103860860f63b5085f82c81ad409e629022670a39ec314", func := "loop.example/g00675/laws.FnExactTernPut", spec := "fnExactTernPut", unfollowed := true, recurses := true, apart := false }
def FnExactTernPutSaid : Prop := fnExactTernPutRow.holds Try.pinned (OpenSpec.ofChange fnExactTernPutSpec)

/-- ITS FALSE NEIGHBOUR: 'it returns false'. Refute it at one input. -/
def fnExactTernPutWrong : ChangeSpec := { name := "fnExactTernPut", fn := fun _ => fun
  | [d1, d2, d3, d4, d5] => { results := [.lit (.bool false)], args := [d1, d2, d3, d4, d5] }
  | _ => none }
def FnExactTernPutWrongFalsely : Prop := fnExactTernPutRow.holds Try.pinned (OpenSpec.ofChange fnExactTernPutWrong)

/-- 'laws.FnExactTernFind': WHATEVER THE INPUT: true; the input reads as it did. -/
def fnExactTernFindSpec : ChangeSpec := { name := "fnExactTernFind", fn := fun _ => fun
  | [d1, d2] => { results := [.lit (.bool true)], args := [d1, d2] }
  | _ => none }
def fnExactTernFindRow : OpenClaim := { program := "ytijbemejbemcmaa", sum := "a6520af6fbbc9a1271103860860f63b5085f82c81ad409e629022670a39ec314", func := "loop.example/g00675/laws.FnExactTernFind", spec := "fnExactTernFind", unfollowed := true, recurses := true, apart := false }
def FnExactTernFindSaid : Prop := fnExactTernFindRow.holds Try.pinned (OpenSpec.ofChange fnExactTernFindSpec)

/-- ITS FALSE NEIGHBOUR: 'it returns false'. Refute it at one input. -/
def fnExactTernFindWrong : ChangeSpec := { name := "fnExactTernFind", fn := fun _ => fun
  | [d1, d2] => { results := [.lit (.bool false)], args := [d1, d2] }
  | _ => none }
def FnExactTernFindWrongFalsely : Prop := fnExactTernFindRow.holds Try.pinned (OpenSpec.ofChange fnExactTernFindWrong)

/-- 'laws.FnExactExactDrop': WHATEVER THE INPUT: true; the input reads as it did. -/
def fnExactExactDropSpec : ChangeSpec := { name := "fnExactExactDrop", fn := fun _ => fun
  | [d1, d2] => { results := [.lit (.bool true)], args := [d1, d2] }
  | _ => none }
def fnExactExactDropRow : OpenClaim := { program := "ytijbemejbemcmaa", sum := "a6520af6fbbc9a1271103860860f63b5085f82c81ad409e629022670a39ec314", func := "loop.example/g00675/laws.FnExactExactDrop", spec := "fnExactExactDrop", unfollowed := true, recurses := true, apart := false }
def FnExactExactDropSaid : Prop := fnExactExactDropRow.holds Try.pinned (OpenSpec.ofChange fnExactExactDropSpec)

/-- ITS FALSE NEIGHBOUR: 'it returns false'. Refute it at one input. -/
def fnExactExactDropWrong : ChangeSpec := { name := "fnExactExactDrop", fn := fun _ => fun
  | [d1, d2] => { results := [.lit (.bool false)], args := [d1, d2] }
  | _ => none }
def FnExactExactDropWrongFalsely : Prop := fnExactExactDropRow.holds Try.pinned (OpenSpec.ofChange fnExactExactDropWrong)

/-- 'laws.FnExactPrefixDrop': WHATEVER THE INPUT: true; the input reads as it did. -/
def fnExactPrefixDropSpec : ChangeSpec := { name := "fnExactPrefixDrop", fn := fun _ => fun
  | [d1, d2, d3] => { results := [.lit (.bool true)], args := [d1, d2, d3] }
  | _ => none }
def fnExactPrefixDropRow : OpenClaim := { program := "ytijbemejbemcmaa", sum := "a6520af6fbbc9a1271103860860f63b5085f82c81ad409e629022670a39ec314", func := "loop.example/g00675/laws.FnExactPrefixDrop", spec := "fnExactPrefixDrop", unfollowed := true, recurses := true, apart := false }
def FnExactPrefixDropSaid : Prop := fnExactPrefixDropRow.holds Try.pinned (OpenSpec.ofChange fnExactPrefixDropSpec)

/-- ITS FALSE NEIGHBOUR: 'it returns false'. Refute it at one input. -/
def fnExactPrefixDropWrong : ChangeSpec := { name := "fnExactPrefixDrop", fn := fun _ => fun
  | [d1, d2, d3] => { results := [.lit (.bool false)], args := [d1, d2, d3] }
  | _ => none }
def FnExactPrefixDropWrongFalsely : Prop := fnExactPrefixDropRow.holds Try.pinned (OpenSpec.ofChange fnExactPrefixDropWrong)

/-- 'laws.FnExactTernDrop': WHATEVER THE INPUT: true; the input reads as it did. -/
def fnExactTernDropSpec : ChangeSpec := { name := "fnExactTernDrop", fn := fun _ => fun
  | [d1, d2, d3, d4] => { results := [.lit (.bool true)], args := [d1, d2, d3, d4] }
  | _ => none }
def fnExactTernDropRow : OpenClaim := { program := "ytijbemejbemcmaa", sum := "a6520af6fbbc9a1271103860860f63b5085f82c81ad409e629022670a39ec314", func := "loop.example/g00675/laws.FnExactTernDrop", spec := "fnExactTernDrop", unfollowed := true, recurses := true, apart := false }
def FnExactTernDropSaid : Prop := fnExactTernDropRow.holds Try.pinned (OpenSpec.ofChange fnExactTernDropSpec)

/-- ITS FALSE NEIGHBOUR: 'it returns false'. Refute it at one input. -/
def fnExactTernDropWrong : ChangeSpec := { name := "fnExactTernDrop", fn := fun _ => fun
  | [d1, d2, d3, d4] => { results := [.lit (.bool false)], args := [d1, d2, d3, d4] }
  | _ => none }
def FnExactTernDropWrongFalsely : Prop := fnExactTernDropRow.holds Try.pinned (OpenSpec.ofChange fnExactTernDropWrong)

/- THE SECOND FORM. 'bulk': how many values and letters a reading holds, each counted each time it is reached (what is shared counts as often as it is met; a slice's spare places count too). A statement '..UptoSaid' is the law's where the arguments, and the package variables that the reading takes, are together of bulk at most 1048576: NARROWER than '..Said'. Prove '..Said' where nothing that the law and all that it calls make is longer than what came in: it says more and counts as full. Else prove '..UptoSaid'. A law counts once. -/
mutual
def uptoBulk {H : Type} : DataW H → Nat
  | .lit (.string bytes) => bytes.length + 1
  | .lit _ => 1
  | .nil => 1
  | .ptr d => uptoBulk d + 1
  | .slice elems spare => uptoBulkAll elems + uptoBulkAll spare + 1
  | .agg parts => uptoBulkAll parts + 1
  | .iface _ d => uptoBulk d + 1
  | .map entries => uptoBulkEntries entries + 1
  | .held _ => 1
def uptoBulkAll {H : Type} : List (DataW H) → Nat
  | [] => 0
  | d :: r => uptoBulk d + uptoBulkAll r
def uptoBulkEntries {H : Type} : List (Lit × DataW H) → Nat
  | [] => 0
  | x :: r => uptoBulkEntry x + uptoBulkEntries r
def uptoBulkEntry {H : Type} : Lit × DataW H → Nat
  | (.string bytes, d) => bytes.length + uptoBulk d + 1
  | (_, d) => uptoBulk d + 1
 end
def uptoSmall : (H : Type) → List (DataW H) → Bool := fun _ ds => decide (uptoBulkAll ds ≤ 1048576)
def OpenSpec.upto (s : _root_.Go.ChangeSpec) : _root_.Go.OpenSpec := { _root_.Go.OpenSpec.ofChange s with cond := some uptoSmall }

/-- 'laws.FnExactExactPut', WHERE WHAT IT READS IS OF BULK AT MOST 1048576: true; the input reads as it did. -/
def fnExactExactPutUptoRow : OpenClaim := { program := "ytijbemejbemcmaa", sum := "a6520af6fbbc9a1271103860860f63b5085f82c81ad409e629022670a39ec314", func := "loop.example/g00675/laws.FnExactExactPut", spec := "fnExactExactPut", unfollowed := true, recurses := true, apart := false, narrowed := true }
def FnExactExactPutUptoSaid : Prop := fnExactExactPutUptoRow.holds Try.pinned (OpenSpec.upto fnExactExactPutSpec)

/-- 'laws.FnExactExactFind', WHERE WHAT IT READS IS OF BULK AT MOST 1048576: true; the input reads as it did. -/
def fnExactExactFindUptoRow : OpenClaim := { program := "ytijbemejbemcmaa", sum := "a6520af6fbbc9a1271103860860f63b5085f82c81ad409e629022670a39ec314", func := "loop.example/g00675/laws.FnExactExactFind", spec := "fnExactExactFind", unfollowed := true, recurses := true, apart := false, narrowed := true }
def FnExactExactFindUptoSaid : Prop := fnExactExactFindUptoRow.holds Try.pinned (OpenSpec.upto fnExactExactFindSpec)

/-- 'laws.FnExactPrefixPut', WHERE WHAT IT READS IS OF BULK AT MOST 1048576: true; the input reads as it did. -/
def fnExactPrefixPutUptoRow : OpenClaim := { program := "ytijbemejbemcmaa", sum := "a6520af6fbbc9a1271103860860f63b5085f82c81ad409e629022670a39ec314", func := "loop.example/g00675/laws.FnExactPrefixPut", spec := "fnExactPrefixPut", unfollowed := true, recurses := true, apart := false, narrowed := true }
def FnExactPrefixPutUptoSaid : Prop := fnExactPrefixPutUptoRow.holds Try.pinned (OpenSpec.upto fnExactPrefixPutSpec)

/-- 'laws.FnExactPrefixFind', WHERE WHAT IT READS IS OF BULK AT MOST 1048576: true; the input reads as it did. -/
def fnExactPrefixFindUptoRow : OpenClaim := { program := "ytijbemejbemcmaa", sum := "a6520af6fbbc9a1271103860860f63b5085f82c81ad409e629022670a39ec314", func := "loop.example/g00675/laws.FnExactPrefixFind", spec := "fnExactPrefixFind", unfollowed := true, recurses := true, apart := false, narrowed := true }
def FnExactPrefixFindUptoSaid : Prop := fnExactPrefixFindUptoRow.holds Try.pinned (OpenSpec.upto fnExactPrefixFindSpec)

/-- 'laws.FnExactTernPut', WHERE WHAT IT READS IS OF BULK AT MOST 1048576: true; the input reads as it did. -/
def fnExactTernPutUptoRow : OpenClaim := { program := "ytijbemejbemcmaa", sum := "a6520af6fbbc9a1271103860860f63b5085f82c81ad409e629022670a39ec314", func := "loop.example/g00675/laws.FnExactTernPut", spec := "fnExactTernPut", unfollowed := true, recurses := true, apart := false, narrowed := true }
def FnExactTernPutUptoSaid : Prop := fnExactTernPutUptoRow.holds Try.pinned (OpenSpec.upto fnExactTernPutSpec)

/-- 'laws.FnExactTernFind', WHERE WHAT IT READS IS OF BULK AT MOST 1048576: true; the input reads as it did. -/
def fnExactTernFindUptoRow : OpenClaim := { program := "ytijbemejbemcmaa", sum := "a6520af6fbbc9a1271103860860f63b5085f82c81ad409e629022670a39ec314", func := "loop.example/g00675/laws.FnExactTernFind", spec := "fnExactTernFind", unfollowed := true, recurses := true, apart := false, narrowed := true }
def FnExactTernFindUptoSaid : Prop := fnExactTernFindUptoRow.holds Try.pinned (OpenSpec.upto fnExactTernFindSpec)

/-- 'laws.FnExactExactDrop', WHERE WHAT IT READS IS OF BULK AT MOST 1048576: true; the input reads as it did. -/
def fnExactExactDropUptoRow : OpenClaim := { program := "ytijbemejbemcmaa", sum := "a6520af6fbbc9a1271103860860f63b5085f82c81ad409e629022670a39ec314", func := "loop.example/g00675/laws.FnExactExactDrop", spec := "fnExactExactDrop", unfollowed := true, recurses := true, apart := false, narrowed := true }
def FnExactExactDropUptoSaid : Prop := fnExactExactDropUptoRow.holds Try.pinned (OpenSpec.upto fnExactExactDropSpec)

/-- 'laws.FnExactPrefixDrop', WHERE WHAT IT READS IS OF BULK AT MOST 1048576: true; the input reads as it did. -/
def fnExactPrefixDropUptoRow : OpenClaim := { program := "ytijbemejbemcmaa", sum := "a6520af6fbbc9a1271103860860f63b5085f82c81ad409e629022670a39ec314", func := "loop.example/g00675/laws.FnExactPrefixDrop", spec := "fnExactPrefixDrop", unfollowed := true, recurses := true, apart := false, narrowed := true }
def FnExactPrefixDropUptoSaid : Prop := fnExactPrefixDropUptoRow.holds Try.pinned (OpenSpec.upto fnExactPrefixDropSpec)

/-- 'laws.FnExactTernDrop', WHERE WHAT IT READS IS OF BULK AT MOST 1048576: true; the input reads as it did. -/
def fnExactTernDropUptoRow : OpenClaim := { program := "ytijbemejbemcmaa", sum := "a6520af6fbbc9a1271103860860f63b5085f82c81ad409e629022670a39ec314", func := "loop.example/g00675/laws.FnExactTernDrop", spec := "fnExactTernDrop", unfollowed := true, recurses := true, apart := false, narrowed := true }
def FnExactTernDropUptoSaid : Prop := fnExactTernDropUptoRow.holds Try.pinned (OpenSpec.upto fnExactTernDropSpec)

end Rows
end Go.Proofs.Ytijbemejbemcmaa
