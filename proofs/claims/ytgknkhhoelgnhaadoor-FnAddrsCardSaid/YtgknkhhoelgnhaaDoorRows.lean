/-
  NARROWER THAN 'FOR EVERY INPUT', by the rows' own cells (each row's printed sentence says how): FnExactAddrText: laid · FnExactReadAddr: laid · FnExactHopped: ifaces, laid · FnIps: ifaces, laid · FnIpTurned: ifaces, laid · FnHopped: ifaces, laid · FnHops: ifaces, laid · FnAddrs: laid · FnIpEnds: ifaces, laid.
  DERIVED. THE GIVEN ROWS OF THIS SEAT. 9 by the template 'for every input the law returns true; each argument reads behind the call as it read before'; 0 by the template 'total and deterministic' (their statements: YtgknkhhoelgnhaaDoorTotals.lean).
  GIVEN WITH THE SEED: the statements are not yours to turn. If you find one false, say at which input.
  Laid BY PROGRAM, IN A SANDBOX (cutbox-rows.mjs): the forced cells as the released guide's own fill.sh prints them over the translation d60994524ae210cf… (all of the seat's roots in one cut). By AI agents, Wed Nov 11 2026. No macro, syntax, notation, axiom, sorry.
-/
import Derived.Test.YtgknkhhoelgnhaaDoorChecked
import GoSem.PinnedTables
import GoSem.Claim
import GoSem.ClaimJoined
import GoSem.ClaimMapViews
import Derived.JoinedTies
import Derived.KernelRfl
namespace Go.Proofs.YtgknkhhoelgnhaaDoor
/- THE CELL 'sum', in the pinned program and in every row, IS THE sha256 OF THE DUMP (.gsa) THAT YtgknkhhoelgnhaaDoorProg.lean LOADS. Nothing in Lean hashes anything: it is a label: what it is worth is what the hold of that sum in a sandbox is worth. -/
noncomputable def Tryd.pinned : Pinned := { name := "ytgknkhhoelgnhaadoor", sum := "d60994524ae210cfc01c0096921c08fe2f4c3eec9e2c904c8ccb75ac8ee6b5f0", checked := Tryd.checked }
namespace Rows
def none {H : Type} : Left H := { results := [], args := [] }

/- WHAT THE LISTED PACKAGE-LEVEL VARIABLES READ AS WHEN THE CALL BEGINS. Each datum BY PROGRAM (the guide's laid-datum.mjs) off the statement by which the dump's own 'gosem.cut.vars' lays the variable. In a bare row this is a premise. The card (YtgknkhhoelgnhaaDoorCards.lean) ties it to the program's text. -/
def laid_math_bits_deBruijn32tab {H : Type} : DataW H := .agg [.lit (.int .u8 0), .lit (.int .u8 1), .lit (.int .u8 28), .lit (.int .u8 2), .lit (.int .u8 29), .lit (.int .u8 14), .lit (.int .u8 24), .lit (.int .u8 3), .lit (.int .u8 30), .lit (.int .u8 22), .lit (.int .u8 20), .lit (.int .u8 15), .lit (.int .u8 25), .lit (.int .u8 17), .lit (.int .u8 4), .lit (.int .u8 8), .lit (.int .u8 31), .lit (.int .u8 27), .lit (.int .u8 13), .lit (.int .u8 23), .lit (.int .u8 21), .lit (.int .u8 19), .lit (.int .u8 16), .lit (.int .u8 7), .lit (.int .u8 26), .lit (.int .u8 12), .lit (.int .u8 18), .lit (.int .u8 6), .lit (.int .u8 11), .lit (.int .u8 5), .lit (.int .u8 10), .lit (.int .u8 9)]
def laid_math_bits_deBruijn64tab {H : Type} : DataW H := .agg [.lit (.int .u8 0), .lit (.int .u8 1), .lit (.int .u8 56), .lit (.int .u8 2), .lit (.int .u8 57), .lit (.int .u8 49), .lit (.int .u8 28), .lit (.int .u8 3), .lit (.int .u8 61), .lit (.int .u8 58), .lit (.int .u8 42), .lit (.int .u8 50), .lit (.int .u8 38), .lit (.int .u8 29), .lit (.int .u8 17), .lit (.int .u8 4), .lit (.int .u8 62), .lit (.int .u8 47), .lit (.int .u8 59), .lit (.int .u8 36), .lit (.int .u8 45), .lit (.int .u8 43), .lit (.int .u8 51), .lit (.int .u8 22), .lit (.int .u8 53), .lit (.int .u8 39), .lit (.int .u8 33), .lit (.int .u8 30), .lit (.int .u8 24), .lit (.int .u8 18), .lit (.int .u8 12), .lit (.int .u8 5), .lit (.int .u8 63), .lit (.int .u8 55), .lit (.int .u8 48), .lit (.int .u8 27), .lit (.int .u8 60), .lit (.int .u8 41), .lit (.int .u8 37), .lit (.int .u8 16), .lit (.int .u8 46), .lit (.int .u8 35), .lit (.int .u8 44), .lit (.int .u8 21), .lit (.int .u8 52), .lit (.int .u8 32), .lit (.int .u8 23), .lit (.int .u8 11), .lit (.int .u8 54), .lit (.int .u8 26), .lit (.int .u8 40), .lit (.int .u8 15), .lit (.int .u8 34), .lit (.int .u8 20), .lit (.int .u8 31), .lit (.int .u8 10), .lit (.int .u8 25), .lit (.int .u8 14), .lit (.int .u8 19), .lit (.int .u8 9), .lit (.int .u8 13), .lit (.int .u8 8), .lit (.int .u8 7), .lit (.int .u8 6)]
def laid_internal_strconv_uint64pow10 {H : Type} : DataW H := .agg [.lit (.int .u64 1), .lit (.int .u64 10), .lit (.int .u64 100), .lit (.int .u64 1000), .lit (.int .u64 10000), .lit (.int .u64 100000), .lit (.int .u64 1000000), .lit (.int .u64 10000000), .lit (.int .u64 100000000), .lit (.int .u64 1000000000), .lit (.int .u64 10000000000), .lit (.int .u64 100000000000), .lit (.int .u64 1000000000000), .lit (.int .u64 10000000000000), .lit (.int .u64 100000000000000), .lit (.int .u64 1000000000000000), .lit (.int .u64 10000000000000000), .lit (.int .u64 100000000000000000), .lit (.int .u64 1000000000000000000), .lit (.int .u64 10000000000000000000)]
def laid_unicode_utf8_acceptRanges {H : Type} : DataW H := .agg [.agg [.lit (.int .u8 128), .lit (.int .u8 191)], .agg [.lit (.int .u8 160), .lit (.int .u8 191)], .agg [.lit (.int .u8 128), .lit (.int .u8 159)], .agg [.lit (.int .u8 144), .lit (.int .u8 191)], .agg [.lit (.int .u8 128), .lit (.int .u8 143)], .agg [.lit (.int .u8 0), .lit (.int .u8 0)], .agg [.lit (.int .u8 0), .lit (.int .u8 0)], .agg [.lit (.int .u8 0), .lit (.int .u8 0)], .agg [.lit (.int .u8 0), .lit (.int .u8 0)], .agg [.lit (.int .u8 0), .lit (.int .u8 0)], .agg [.lit (.int .u8 0), .lit (.int .u8 0)], .agg [.lit (.int .u8 0), .lit (.int .u8 0)], .agg [.lit (.int .u8 0), .lit (.int .u8 0)], .agg [.lit (.int .u8 0), .lit (.int .u8 0)], .agg [.lit (.int .u8 0), .lit (.int .u8 0)], .agg [.lit (.int .u8 0), .lit (.int .u8 0)]]
def laid_strconv_ErrRange {H : Type} : DataW H := .iface "*errors.errorString" (.ptr (.agg [.lit (.string [118, 97, 108, 117, 101, 32, 111, 117, 116, 32, 111, 102, 32, 114, 97, 110, 103, 101])]))
def laid_strconv_ErrSyntax {H : Type} : DataW H := .iface "*errors.errorString" (.ptr (.agg [.lit (.string [105, 110, 118, 97, 108, 105, 100, 32, 115, 121, 110, 116, 97, 120])]))
/-- One of Go's own tables, pinned by name: the form's constant. -/
def laid_unicode_utf8_first : DataW Unit := Go.Pinned.utf8First
def laid_loop_example_g00675_impl_errIpShort {H : Type} : DataW H := .iface "*errors.errorString" (.ptr (.agg [.lit (.string [116, 111, 111, 32, 102, 101, 119, 32, 98, 121, 116, 101, 115, 32, 102, 111, 114, 32, 97, 32, 100, 97, 116, 97, 103, 114, 97, 109])]))
def laid_loop_example_g00675_impl_errIpVersion {H : Type} : DataW H := .iface "*errors.errorString" (.ptr (.agg [.lit (.string [97, 110, 111, 116, 104, 101, 114, 32, 118, 101, 114, 115, 105, 111, 110, 44, 32, 111, 114, 32, 97, 32, 108, 101, 110, 103, 116, 104, 32, 97, 104, 101, 97, 100, 32, 111, 102, 32, 116, 104, 101, 32, 100, 97, 116, 97, 32, 116, 104, 97, 116, 32, 109, 97, 121, 32, 110, 111, 116, 32, 98, 101])]))
def laid_loop_example_g00675_impl_errIpLength {H : Type} : DataW H := .iface "*errors.errorString" (.ptr (.agg [.lit (.string [110, 111, 116, 32, 97, 115, 32, 109, 97, 110, 121, 32, 98, 121, 116, 101, 115, 32, 97, 115, 32, 97, 114, 101, 32, 116, 111, 108, 100])]))
def laid_loop_example_g00675_impl_errIpSum {H : Type} : DataW H := .iface "*errors.errorString" (.ptr (.agg [.lit (.string [97, 110, 111, 116, 104, 101, 114, 32, 115, 117, 109])]))
def laid_loop_example_g00675_impl_errIpForm {H : Type} : DataW H := .iface "*errors.errorString" (.ptr (.agg [.lit (.string [102, 105, 101, 108, 100, 115, 32, 116, 104, 97, 116, 32, 109, 97, 121, 32, 110, 111, 116, 32, 98, 101])]))

/-- 'laws.FnExactAddrText': WHATEVER THE INPUT: true; the input reads as it did. -/
def fnExactAddrTextSpec : ChangeSpec := { name := "fnExactAddrText", fn := fun _ => fun
  | [d] => { results := [.lit (.bool true)], args := [d] }
  | _ => none }
def fnExactAddrTextRow : OpenClaim := { program := "ytgknkhhoelgnhaadoor", sum := "d60994524ae210cfc01c0096921c08fe2f4c3eec9e2c904c8ccb75ac8ee6b5f0", func := "loop.example/g00675/laws.FnExactAddrText", spec := "fnExactAddrText", inPlace := ["internal/abi.NoEscape", "internal/bytealg.MakeNoZero"], named := ["internal/strconv.uint64pow10", "math/bits.deBruijn32tab", "math/bits.deBruijn64tab"], apart := false, laid := [("math/bits.deBruijn32tab", laid_math_bits_deBruijn32tab), ("math/bits.deBruijn64tab", laid_math_bits_deBruijn64tab), ("internal/strconv.uint64pow10", laid_internal_strconv_uint64pow10)] }
def FnExactAddrTextSaid : Prop := fnExactAddrTextRow.holds Tryd.pinned (OpenSpec.ofChange fnExactAddrTextSpec)

/-- ITS FALSE NEIGHBOUR: 'it returns false'. Refute it at one input. -/
def fnExactAddrTextWrong : ChangeSpec := { name := "fnExactAddrText", fn := fun _ => fun
  | [d] => { results := [.lit (.bool false)], args := [d] }
  | _ => none }
def FnExactAddrTextWrongFalsely : Prop := fnExactAddrTextRow.holds Tryd.pinned (OpenSpec.ofChange fnExactAddrTextWrong)

/-- 'laws.FnExactReadAddr': WHATEVER THE INPUT: true; the input reads as it did. -/
def fnExactReadAddrSpec : ChangeSpec := { name := "fnExactReadAddr", fn := fun _ => fun
  | [d] => { results := [.lit (.bool true)], args := [d] }
  | _ => none }
def fnExactReadAddrRow : OpenClaim := { program := "ytgknkhhoelgnhaadoor", sum := "d60994524ae210cfc01c0096921c08fe2f4c3eec9e2c904c8ccb75ac8ee6b5f0", func := "loop.example/g00675/laws.FnExactReadAddr", spec := "fnExactReadAddr", inPlace := ["internal/bytealg.CountString", "internal/bytealg.IndexByteString", "internal/bytealg.IndexString"], recurses := true, named := ["unicode/utf8.first", "unicode/utf8.acceptRanges", "internal/bytealg.MaxLen", "strconv.ErrSyntax", "strconv.ErrRange", "internal/strconv.uint64pow10", "math/bits.deBruijn32tab", "math/bits.deBruijn64tab"], apart := false, laid := [("math/bits.deBruijn32tab", laid_math_bits_deBruijn32tab), ("math/bits.deBruijn64tab", laid_math_bits_deBruijn64tab), ("internal/strconv.uint64pow10", laid_internal_strconv_uint64pow10), ("unicode/utf8.acceptRanges", laid_unicode_utf8_acceptRanges), ("strconv.ErrRange", laid_strconv_ErrRange), ("strconv.ErrSyntax", laid_strconv_ErrSyntax), ("unicode/utf8.first", laid_unicode_utf8_first)] }
def FnExactReadAddrSaid : Prop := fnExactReadAddrRow.holds Tryd.pinned (OpenSpec.ofChange fnExactReadAddrSpec)

/-- ITS FALSE NEIGHBOUR: 'it returns false'. Refute it at one input. -/
def fnExactReadAddrWrong : ChangeSpec := { name := "fnExactReadAddr", fn := fun _ => fun
  | [d] => { results := [.lit (.bool false)], args := [d] }
  | _ => none }
def FnExactReadAddrWrongFalsely : Prop := fnExactReadAddrRow.holds Tryd.pinned (OpenSpec.ofChange fnExactReadAddrWrong)

/-- 'laws.FnExactHopped': WHATEVER THE INPUT: true; the input reads as it did. -/
def fnExactHoppedSpec : ChangeSpec := { name := "fnExactHopped", vars := ["loop.example/g00675/impl.errIpForm", "loop.example/g00675/impl.errIpShort", "loop.example/g00675/impl.errIpVersion", "loop.example/g00675/impl.errIpLength", "loop.example/g00675/impl.errIpSum"], fn := fun _ => fun
  | [d, g1, g2, g3, g4, g5] => { results := [.lit (.bool true)], args := [d], vars := [g1, g2, g3, g4, g5] }
  | _ => none }
def fnExactHoppedRow : OpenClaim := { program := "ytgknkhhoelgnhaadoor", sum := "d60994524ae210cfc01c0096921c08fe2f4c3eec9e2c904c8ccb75ac8ee6b5f0", func := "loop.example/g00675/laws.FnExactHopped", spec := "fnExactHopped", inPlace := ["internal/reflectlite.TypeOf"], unfollowed := true, recurses := true, named := ["loop.example/g00675/impl.errIpForm", "loop.example/g00675/impl.errIpShort", "loop.example/g00675/impl.errIpVersion", "loop.example/g00675/impl.errIpLength", "loop.example/g00675/impl.errIpSum"], ifaces := true, apart := false, laid := [("loop.example/g00675/impl.errIpShort", laid_loop_example_g00675_impl_errIpShort), ("loop.example/g00675/impl.errIpVersion", laid_loop_example_g00675_impl_errIpVersion), ("loop.example/g00675/impl.errIpLength", laid_loop_example_g00675_impl_errIpLength), ("loop.example/g00675/impl.errIpSum", laid_loop_example_g00675_impl_errIpSum), ("loop.example/g00675/impl.errIpForm", laid_loop_example_g00675_impl_errIpForm)] }
def FnExactHoppedSaid : Prop := fnExactHoppedRow.holds Tryd.pinned (OpenSpec.ofChange fnExactHoppedSpec)

/-- ITS FALSE NEIGHBOUR: 'it returns false'. Refute it at one input. -/
def fnExactHoppedWrong : ChangeSpec := { name := "fnExactHopped", vars := ["loop.example/g00675/impl.errIpForm", "loop.example/g00675/impl.errIpShort", "loop.example/g00675/impl.errIpVersion", "loop.example/g00675/impl.errIpLength", "loop.example/g00675/impl.errIpSum"], fn := fun _ => fun
  | [d, g1, g2, g3, g4, g5] => { results := [.lit (.bool false)], args := [d], vars := [g1, g2, g3, g4, g5] }
  | _ => none }
def FnExactHoppedWrongFalsely : Prop := fnExactHoppedRow.holds Tryd.pinned (OpenSpec.ofChange fnExactHoppedWrong)

/-- 'laws.FnIps': WHATEVER THE INPUT: true; the input reads as it did. -/
def fnIpsSpec : ChangeSpec := { name := "fnIps", vars := ["loop.example/g00675/impl.errIpForm", "loop.example/g00675/impl.errIpShort", "loop.example/g00675/impl.errIpVersion", "loop.example/g00675/impl.errIpLength", "loop.example/g00675/impl.errIpSum"], fn := fun _ => fun
  | [d, g1, g2, g3, g4, g5] => { results := [.lit (.bool true)], args := [d], vars := [g1, g2, g3, g4, g5] }
  | _ => none }
def fnIpsRow : OpenClaim := { program := "ytgknkhhoelgnhaadoor", sum := "d60994524ae210cfc01c0096921c08fe2f4c3eec9e2c904c8ccb75ac8ee6b5f0", func := "loop.example/g00675/laws.FnIps", spec := "fnIps", inPlace := ["internal/reflectlite.TypeOf"], unfollowed := true, recurses := true, named := ["loop.example/g00675/impl.errIpForm", "loop.example/g00675/impl.errIpShort", "loop.example/g00675/impl.errIpVersion", "loop.example/g00675/impl.errIpLength", "loop.example/g00675/impl.errIpSum"], ifaces := true, apart := false, laid := [("loop.example/g00675/impl.errIpShort", laid_loop_example_g00675_impl_errIpShort), ("loop.example/g00675/impl.errIpVersion", laid_loop_example_g00675_impl_errIpVersion), ("loop.example/g00675/impl.errIpLength", laid_loop_example_g00675_impl_errIpLength), ("loop.example/g00675/impl.errIpSum", laid_loop_example_g00675_impl_errIpSum), ("loop.example/g00675/impl.errIpForm", laid_loop_example_g00675_impl_errIpForm)] }
def FnIpsSaid : Prop := fnIpsRow.holds Tryd.pinned (OpenSpec.ofChange fnIpsSpec)

/-- ITS FALSE NEIGHBOUR: 'it returns false'. Refute it at one input. -/
def fnIpsWrong : ChangeSpec := { name := "fnIps", vars := ["loop.example/g00675/impl.errIpForm", "loop.example/g00675/impl.errIpShort", "loop.example/g00675/impl.errIpVersion", "loop.example/g00675/impl.errIpLength", "loop.example/g00675/impl.errIpSum"], fn := fun _ => fun
  | [d, g1, g2, g3, g4, g5] => { results := [.lit (.bool false)], args := [d], vars := [g1, g2, g3, g4, g5] }
  | _ => none }
def FnIpsWrongFalsely : Prop := fnIpsRow.holds Tryd.pinned (OpenSpec.ofChange fnIpsWrong)

/-- 'laws.FnIpTurned': WHATEVER THE INPUT: true; the input reads as it did. -/
def fnIpTurnedSpec : ChangeSpec := { name := "fnIpTurned", vars := ["loop.example/g00675/impl.errIpForm", "loop.example/g00675/impl.errIpShort", "loop.example/g00675/impl.errIpVersion", "loop.example/g00675/impl.errIpLength", "loop.example/g00675/impl.errIpSum"], fn := fun _ => fun
  | [d, g1, g2, g3, g4, g5] => { results := [.lit (.bool true)], args := [d], vars := [g1, g2, g3, g4, g5] }
  | _ => none }
def fnIpTurnedRow : OpenClaim := { program := "ytgknkhhoelgnhaadoor", sum := "d60994524ae210cfc01c0096921c08fe2f4c3eec9e2c904c8ccb75ac8ee6b5f0", func := "loop.example/g00675/laws.FnIpTurned", spec := "fnIpTurned", inPlace := ["internal/reflectlite.TypeOf"], unfollowed := true, recurses := true, named := ["loop.example/g00675/impl.errIpForm", "loop.example/g00675/impl.errIpShort", "loop.example/g00675/impl.errIpVersion", "loop.example/g00675/impl.errIpLength", "loop.example/g00675/impl.errIpSum"], ifaces := true, apart := false, laid := [("loop.example/g00675/impl.errIpShort", laid_loop_example_g00675_impl_errIpShort), ("loop.example/g00675/impl.errIpVersion", laid_loop_example_g00675_impl_errIpVersion), ("loop.example/g00675/impl.errIpLength", laid_loop_example_g00675_impl_errIpLength), ("loop.example/g00675/impl.errIpSum", laid_loop_example_g00675_impl_errIpSum), ("loop.example/g00675/impl.errIpForm", laid_loop_example_g00675_impl_errIpForm)] }
def FnIpTurnedSaid : Prop := fnIpTurnedRow.holds Tryd.pinned (OpenSpec.ofChange fnIpTurnedSpec)

/-- ITS FALSE NEIGHBOUR: 'it returns false'. Refute it at one input. -/
def fnIpTurnedWrong : ChangeSpec := { name := "fnIpTurned", vars := ["loop.example/g00675/impl.errIpForm", "loop.example/g00675/impl.errIpShort", "loop.example/g00675/impl.errIpVersion", "loop.example/g00675/impl.errIpLength", "loop.example/g00675/impl.errIpSum"], fn := fun _ => fun
  | [d, g1, g2, g3, g4, g5] => { results := [.lit (.bool false)], args := [d], vars := [g1, g2, g3, g4, g5] }
  | _ => none }
def FnIpTurnedWrongFalsely : Prop := fnIpTurnedRow.holds Tryd.pinned (OpenSpec.ofChange fnIpTurnedWrong)

/-- 'laws.FnHopped': WHATEVER THE INPUT: true; the input reads as it did. -/
def fnHoppedSpec : ChangeSpec := { name := "fnHopped", vars := ["loop.example/g00675/impl.errIpForm", "loop.example/g00675/impl.errIpShort", "loop.example/g00675/impl.errIpVersion", "loop.example/g00675/impl.errIpLength", "loop.example/g00675/impl.errIpSum"], fn := fun _ => fun
  | [d, g1, g2, g3, g4, g5] => { results := [.lit (.bool true)], args := [d], vars := [g1, g2, g3, g4, g5] }
  | _ => none }
def fnHoppedRow : OpenClaim := { program := "ytgknkhhoelgnhaadoor", sum := "d60994524ae210cfc01c0096921c08fe2f4c3eec9e2c904c8ccb75ac8ee6b5f0", func := "loop.example/g00675/laws.FnHopped", spec := "fnHopped", inPlace := ["internal/reflectlite.TypeOf"], unfollowed := true, recurses := true, named := ["loop.example/g00675/impl.errIpForm", "loop.example/g00675/impl.errIpShort", "loop.example/g00675/impl.errIpVersion", "loop.example/g00675/impl.errIpLength", "loop.example/g00675/impl.errIpSum"], ifaces := true, apart := false, laid := [("loop.example/g00675/impl.errIpShort", laid_loop_example_g00675_impl_errIpShort), ("loop.example/g00675/impl.errIpVersion", laid_loop_example_g00675_impl_errIpVersion), ("loop.example/g00675/impl.errIpLength", laid_loop_example_g00675_impl_errIpLength), ("loop.example/g00675/impl.errIpSum", laid_loop_example_g00675_impl_errIpSum), ("loop.example/g00675/impl.errIpForm", laid_loop_example_g00675_impl_errIpForm)] }
def FnHoppedSaid : Prop := fnHoppedRow.holds Tryd.pinned (OpenSpec.ofChange fnHoppedSpec)

/-- ITS FALSE NEIGHBOUR: 'it returns false'. Refute it at one input. -/
def fnHoppedWrong : ChangeSpec := { name := "fnHopped", vars := ["loop.example/g00675/impl.errIpForm", "loop.example/g00675/impl.errIpShort", "loop.example/g00675/impl.errIpVersion", "loop.example/g00675/impl.errIpLength", "loop.example/g00675/impl.errIpSum"], fn := fun _ => fun
  | [d, g1, g2, g3, g4, g5] => { results := [.lit (.bool false)], args := [d], vars := [g1, g2, g3, g4, g5] }
  | _ => none }
def FnHoppedWrongFalsely : Prop := fnHoppedRow.holds Tryd.pinned (OpenSpec.ofChange fnHoppedWrong)

/-- 'laws.FnHops': WHATEVER THE INPUT: true; the input reads as it did. -/
def fnHopsSpec : ChangeSpec := { name := "fnHops", vars := ["loop.example/g00675/impl.errIpForm", "loop.example/g00675/impl.errIpShort", "loop.example/g00675/impl.errIpVersion", "loop.example/g00675/impl.errIpLength", "loop.example/g00675/impl.errIpSum"], fn := fun _ => fun
  | [d, g1, g2, g3, g4, g5] => { results := [.lit (.bool true)], args := [d], vars := [g1, g2, g3, g4, g5] }
  | _ => none }
def fnHopsRow : OpenClaim := { program := "ytgknkhhoelgnhaadoor", sum := "d60994524ae210cfc01c0096921c08fe2f4c3eec9e2c904c8ccb75ac8ee6b5f0", func := "loop.example/g00675/laws.FnHops", spec := "fnHops", inPlace := ["internal/reflectlite.TypeOf"], unfollowed := true, recurses := true, named := ["loop.example/g00675/impl.errIpForm", "loop.example/g00675/impl.errIpShort", "loop.example/g00675/impl.errIpVersion", "loop.example/g00675/impl.errIpLength", "loop.example/g00675/impl.errIpSum"], ifaces := true, apart := false, laid := [("loop.example/g00675/impl.errIpShort", laid_loop_example_g00675_impl_errIpShort), ("loop.example/g00675/impl.errIpVersion", laid_loop_example_g00675_impl_errIpVersion), ("loop.example/g00675/impl.errIpLength", laid_loop_example_g00675_impl_errIpLength), ("loop.example/g00675/impl.errIpSum", laid_loop_example_g00675_impl_errIpSum), ("loop.example/g00675/impl.errIpForm", laid_loop_example_g00675_impl_errIpForm)] }
def FnHopsSaid : Prop := fnHopsRow.holds Tryd.pinned (OpenSpec.ofChange fnHopsSpec)

/-- ITS FALSE NEIGHBOUR: 'it returns false'. Refute it at one input. -/
def fnHopsWrong : ChangeSpec := { name := "fnHops", vars := ["loop.example/g00675/impl.errIpForm", "loop.example/g00675/impl.errIpShort", "loop.example/g00675/impl.errIpVersion", "loop.example/g00675/impl.errIpLength", "loop.example/g00675/impl.errIpSum"], fn := fun _ => fun
  | [d, g1, g2, g3, g4, g5] => { results := [.lit (.bool false)], args := [d], vars := [g1, g2, g3, g4, g5] }
  | _ => none }
def FnHopsWrongFalsely : Prop := fnHopsRow.holds Tryd.pinned (OpenSpec.ofChange fnHopsWrong)

/-- 'laws.FnAddrs': WHATEVER THE INPUT: true; the input reads as it did. -/
def fnAddrsSpec : ChangeSpec := { name := "fnAddrs", fn := fun _ => fun
  | [d] => { results := [.lit (.bool true)], args := [d] }
  | _ => none }
def fnAddrsRow : OpenClaim := { program := "ytgknkhhoelgnhaadoor", sum := "d60994524ae210cfc01c0096921c08fe2f4c3eec9e2c904c8ccb75ac8ee6b5f0", func := "loop.example/g00675/laws.FnAddrs", spec := "fnAddrs", inPlace := ["internal/abi.NoEscape", "internal/bytealg.MakeNoZero", "internal/bytealg.CountString", "internal/bytealg.IndexByteString", "internal/bytealg.IndexString"], recurses := true, named := ["internal/strconv.uint64pow10", "math/bits.deBruijn32tab", "math/bits.deBruijn64tab", "unicode/utf8.first", "unicode/utf8.acceptRanges", "internal/bytealg.MaxLen", "strconv.ErrSyntax", "strconv.ErrRange"], apart := false, laid := [("math/bits.deBruijn32tab", laid_math_bits_deBruijn32tab), ("math/bits.deBruijn64tab", laid_math_bits_deBruijn64tab), ("internal/strconv.uint64pow10", laid_internal_strconv_uint64pow10), ("unicode/utf8.acceptRanges", laid_unicode_utf8_acceptRanges), ("strconv.ErrRange", laid_strconv_ErrRange), ("strconv.ErrSyntax", laid_strconv_ErrSyntax), ("unicode/utf8.first", laid_unicode_utf8_first)] }
def FnAddrsSaid : Prop := fnAddrsRow.holds Tryd.pinned (OpenSpec.ofChange fnAddrsSpec)

/-- ITS FALSE NEIGHBOUR: 'it returns false'. Refute it at one input. -/
def fnAddrsWrong : ChangeSpec := { name := "fnAddrs", fn := fun _ => fun
  | [d] => { results := [.lit (.bool false)], args := [d] }
  | _ => none }
def FnAddrsWrongFalsely : Prop := fnAddrsRow.holds Tryd.pinned (OpenSpec.ofChange fnAddrsWrong)

/-- 'laws.FnIpEnds': WHATEVER THE INPUT: true; the input reads as it did. -/
def fnIpEndsSpec : ChangeSpec := { name := "fnIpEnds", vars := ["loop.example/g00675/impl.errIpForm", "loop.example/g00675/impl.errIpShort", "loop.example/g00675/impl.errIpVersion", "loop.example/g00675/impl.errIpLength", "loop.example/g00675/impl.errIpSum"], fn := fun _ => fun
  | [d, g1, g2, g3, g4, g5] => { results := [.lit (.bool true)], args := [d], vars := [g1, g2, g3, g4, g5] }
  | _ => none }
def fnIpEndsRow : OpenClaim := { program := "ytgknkhhoelgnhaadoor", sum := "d60994524ae210cfc01c0096921c08fe2f4c3eec9e2c904c8ccb75ac8ee6b5f0", func := "loop.example/g00675/laws.FnIpEnds", spec := "fnIpEnds", inPlace := ["internal/reflectlite.TypeOf"], unfollowed := true, recurses := true, named := ["loop.example/g00675/impl.errIpForm", "loop.example/g00675/impl.errIpShort", "loop.example/g00675/impl.errIpVersion", "loop.example/g00675/impl.errIpLength", "loop.example/g00675/impl.errIpSum"], ifaces := true, apart := false, laid := [("loop.example/g00675/impl.errIpShort", laid_loop_example_g00675_impl_errIpShort), ("loop.example/g00675/impl.errIpVersion", laid_loop_example_g00675_impl_errIpVersion), ("loop.example/g00675/impl.errIpLength", laid_loop_example_g00675_impl_errIpLength), ("loop.example/g00675/impl.errIpSum", laid_loop_example_g00675_impl_errIpSum), ("loop.example/g00675/impl.errIpForm", laid_loop_example_g00675_impl_errIpForm)] }
def FnIpEndsSaid : Prop := fnIpEndsRow.holds Tryd.pinned (OpenSpec.ofChange fnIpEndsSpec)

/-- ITS FALSE NEIGHBOUR: 'it returns false'. Refute it at one input. -/
def fnIpEndsWrong : ChangeSpec := { name := "fnIpEnds", vars := ["loop.example/g00675/impl.errIpForm", "loop.example/g00675/impl.errIpShort", "loop.example/g00675/impl.errIpVersion", "loop.example/g00675/impl.errIpLength", "loop.example/g00675/impl.errIpSum"], fn := fun _ => fun
  | [d, g1, g2, g3, g4, g5] => { results := [.lit (.bool false)], args := [d], vars := [g1, g2, g3, g4, g5] }
  | _ => none }
def FnIpEndsWrongFalsely : Prop := fnIpEndsRow.holds Tryd.pinned (OpenSpec.ofChange fnIpEndsWrong)

/- THE SECOND FORM. 'bulk': how many values and letters a reading holds, each counted each time it is reached (what is shared counts as often as it is met; a slice's spare places count too). A statement '..UptoSaid' is the law's where the arguments, and the package variables that the reading takes, are together of bulk at most 1048576: NARROWER than '..Said'. Prove '..Said' where nothing that the law and all that it calls make is longer than what came in: it says more and counts as full. Else prove '..UptoSaid'. A law counts once. -/
mutual
def uptoBulk {H : Type} : DataW H → Nat
  | .lit (.string bytes) => bytes.length + 1
  | .lit _ => 1
  | .nil => 1
  | .ptr d => uptoBulk d + 1
  | .slice elems spare => uptoBulkAll elems + uptoBulkAll spare + 1
  | .agg parts => uptoBulkAll parts + 1
  | .iface _ d => uptoBulk d + 1
  | .map entries => uptoBulkEntries entries + 1
  | .held _ => 1
def uptoBulkAll {H : Type} : List (DataW H) → Nat
  | [] => 0
  | d :: r => uptoBulk d + uptoBulkAll r
def uptoBulkEntries {H : Type} : List (Lit × DataW H) → Nat
  | [] => 0
  | x :: r => uptoBulkEntry x + uptoBulkEntries r
def uptoBulkEntry {H : Type} : Lit × DataW H → Nat
  | (.string bytes, d) => bytes.length + uptoBulk d + 1
  | (_, d) => uptoBulk d + 1
 end
def uptoSmall : (H : Type) → List (DataW H) → Bool := fun _ ds => decide (uptoBulkAll ds ≤ 1048576)
def OpenSpec.upto (s : _root_.Go.ChangeSpec) : _root_.Go.OpenSpec := { _root_.Go.OpenSpec.ofChange s with cond := some uptoSmall }

/-- 'laws.FnExactAddrText', WHERE WHAT IT READS IS OF BULK AT MOST 1048576: true; the input reads as it did. -/
def fnExactAddrTextUptoRow : OpenClaim := { program := "ytgknkhhoelgnhaadoor", sum := "d60994524ae210cfc01c0096921c08fe2f4c3eec9e2c904c8ccb75ac8ee6b5f0", func := "loop.example/g00675/laws.FnExactAddrText", spec := "fnExactAddrText", inPlace := ["internal/abi.NoEscape", "internal/bytealg.MakeNoZero"], named := ["internal/strconv.uint64pow10", "math/bits.deBruijn32tab", "math/bits.deBruijn64tab"], apart := false, laid := [("math/bits.deBruijn32tab", laid_math_bits_deBruijn32tab), ("math/bits.deBruijn64tab", laid_math_bits_deBruijn64tab), ("internal/strconv.uint64pow10", laid_internal_strconv_uint64pow10)], narrowed := true }
def FnExactAddrTextUptoSaid : Prop := fnExactAddrTextUptoRow.holds Tryd.pinned (OpenSpec.upto fnExactAddrTextSpec)

/-- 'laws.FnExactReadAddr', WHERE WHAT IT READS IS OF BULK AT MOST 1048576: true; the input reads as it did. -/
def fnExactReadAddrUptoRow : OpenClaim := { program := "ytgknkhhoelgnhaadoor", sum := "d60994524ae210cfc01c0096921c08fe2f4c3eec9e2c904c8ccb75ac8ee6b5f0", func := "loop.example/g00675/laws.FnExactReadAddr", spec := "fnExactReadAddr", inPlace := ["internal/bytealg.CountString", "internal/bytealg.IndexByteString", "internal/bytealg.IndexString"], recurses := true, named := ["unicode/utf8.first", "unicode/utf8.acceptRanges", "internal/bytealg.MaxLen", "strconv.ErrSyntax", "strconv.ErrRange", "internal/strconv.uint64pow10", "math/bits.deBruijn32tab", "math/bits.deBruijn64tab"], apart := false, laid := [("math/bits.deBruijn32tab", laid_math_bits_deBruijn32tab), ("math/bits.deBruijn64tab", laid_math_bits_deBruijn64tab), ("internal/strconv.uint64pow10", laid_internal_strconv_uint64pow10), ("unicode/utf8.acceptRanges", laid_unicode_utf8_acceptRanges), ("strconv.ErrRange", laid_strconv_ErrRange), ("strconv.ErrSyntax", laid_strconv_ErrSyntax), ("unicode/utf8.first", laid_unicode_utf8_first)], narrowed := true }
def FnExactReadAddrUptoSaid : Prop := fnExactReadAddrUptoRow.holds Tryd.pinned (OpenSpec.upto fnExactReadAddrSpec)

/-- 'laws.FnExactHopped', WHERE WHAT IT READS IS OF BULK AT MOST 1048576: true; the input reads as it did. -/
def fnExactHoppedUptoRow : OpenClaim := { program := "ytgknkhhoelgnhaadoor", sum := "d60994524ae210cfc01c0096921c08fe2f4c3eec9e2c904c8ccb75ac8ee6b5f0", func := "loop.example/g00675/laws.FnExactHopped", spec := "fnExactHopped", inPlace := ["internal/reflectlite.TypeOf"], unfollowed := true, recurses := true, named := ["loop.example/g00675/impl.errIpForm", "loop.example/g00675/impl.errIpShort", "loop.example/g00675/impl.errIpVersion", "loop.example/g00675/impl.errIpLength", "loop.example/g00675/impl.errIpSum"], ifaces := true, apart := false, laid := [("loop.example/g00675/impl.errIpShort", laid_loop_example_g00675_impl_errIpShort), ("loop.example/g00675/impl.errIpVersion", laid_loop_example_g00675_impl_errIpVersion), ("loop.example/g00675/impl.errIpLength", laid_loop_example_g00675_impl_errIpLength), ("loop.example/g00675/impl.errIpSum", laid_loop_example_g00675_impl_errIpSum), ("loop.example/g00675/impl.errIpForm", laid_loop_example_g00675_impl_errIpForm)], narrowed := true }
def FnExactHoppedUptoSaid : Prop := fnExactHoppedUptoRow.holds Tryd.pinned (OpenSpec.upto fnExactHoppedSpec)

/-- 'laws.FnIps', WHERE WHAT IT READS IS OF BULK AT MOST 1048576: true; the input reads as it did. -/
def fnIpsUptoRow : OpenClaim := { program := "ytgknkhhoelgnhaadoor", sum := "d60994524ae210cfc01c0096921c08fe2f4c3eec9e2c904c8ccb75ac8ee6b5f0", func := "loop.example/g00675/laws.FnIps", spec := "fnIps", inPlace := ["internal/reflectlite.TypeOf"], unfollowed := true, recurses := true, named := ["loop.example/g00675/impl.errIpForm", "loop.example/g00675/impl.errIpShort", "loop.example/g00675/impl.errIpVersion", "loop.example/g00675/impl.errIpLength", "loop.example/g00675/impl.errIpSum"], ifaces := true, apart := false, laid := [("loop.example/g00675/impl.errIpShort", laid_loop_example_g00675_impl_errIpShort), ("loop.example/g00675/impl.errIpVersion", laid_loop_example_g00675_impl_errIpVersion), ("loop.example/g00675/impl.errIpLength", laid_loop_example_g00675_impl_errIpLength), ("loop.example/g00675/impl.errIpSum", laid_loop_example_g00675_impl_errIpSum), ("loop.example/g00675/impl.errIpForm", laid_loop_example_g00675_impl_errIpForm)], narrowed := true }
def FnIpsUptoSaid : Prop := fnIpsUptoRow.holds Tryd.pinned (OpenSpec.upto fnIpsSpec)

/-- 'laws.FnIpTurned', WHERE WHAT IT READS IS OF BULK AT MOST 1048576: true; the input reads as it did. -/
def fnIpTurnedUptoRow : OpenClaim := { program := "ytgknkhhoelgnhaadoor", sum := "d60994524ae210cfc01c0096921c08fe2f4c3eec9e2c904c8ccb75ac8ee6b5f0", func := "loop.example/g00675/laws.FnIpTurned", spec := "fnIpTurned", inPlace := ["internal/reflectlite.TypeOf"], unfollowed := true, recurses := true, named := ["loop.example/g00675/impl.errIpForm", "loop.example/g00675/impl.errIpShort", "loop.example/g00675/impl.errIpVersion", "loop.example/g00675/impl.errIpLength", "loop.example/g00675/impl.errIpSum"], ifaces := true, apart := false, laid := [("loop.example/g00675/impl.errIpShort", laid_loop_example_g00675_impl_errIpShort), ("loop.example/g00675/impl.errIpVersion", laid_loop_example_g00675_impl_errIpVersion), ("loop.example/g00675/impl.errIpLength", laid_loop_example_g00675_impl_errIpLength), ("loop.example/g00675/impl.errIpSum", laid_loop_example_g00675_impl_errIpSum), ("loop.example/g00675/impl.errIpForm", laid_loop_example_g00675_impl_errIpForm)], narrowed := true }
def FnIpTurnedUptoSaid : Prop := fnIpTurnedUptoRow.holds Tryd.pinned (OpenSpec.upto fnIpTurnedSpec)

/-- 'laws.FnHopped', WHERE WHAT IT READS IS OF BULK AT MOST 1048576: true; the input reads as it did. -/
def fnHoppedUptoRow : OpenClaim := { program := "ytgknkhhoelgnhaadoor", sum := "d60994524ae210cfc01c0096921c08fe2f4c3eec9e2c904c8ccb75ac8ee6b5f0", func := "loop.example/g00675/laws.FnHopped", spec := "fnHopped", inPlace := ["internal/reflectlite.TypeOf"], unfollowed := true, recurses := true, named := ["loop.example/g00675/impl.errIpForm", "loop.example/g00675/impl.errIpShort", "loop.example/g00675/impl.errIpVersion", "loop.example/g00675/impl.errIpLength", "loop.example/g00675/impl.errIpSum"], ifaces := true, apart := false, laid := [("loop.example/g00675/impl.errIpShort", laid_loop_example_g00675_impl_errIpShort), ("loop.example/g00675/impl.errIpVersion", laid_loop_example_g00675_impl_errIpVersion), ("loop.example/g00675/impl.errIpLength", laid_loop_example_g00675_impl_errIpLength), ("loop.example/g00675/impl.errIpSum", laid_loop_example_g00675_impl_errIpSum), ("loop.example/g00675/impl.errIpForm", laid_loop_example_g00675_impl_errIpForm)], narrowed := true }
def FnHoppedUptoSaid : Prop := fnHoppedUptoRow.holds Tryd.pinned (OpenSpec.upto fnHoppedSpec)

/-- 'laws.FnHops', WHERE WHAT IT READS IS OF BULK AT MOST 1048576: true; the input reads as it did. -/
def fnHopsUptoRow : OpenClaim := { program := "ytgknkhhoelgnhaadoor", sum := "d60994524ae210cfc01c0096921c08fe2f4c3eec9e2c904c8ccb75ac8ee6b5f0", func := "loop.example/g00675/laws.FnHops", spec := "fnHops", inPlace := ["internal/reflectlite.TypeOf"], unfollowed := true, recurses := true, named := ["loop.example/g00675/impl.errIpForm", "loop.example/g00675/impl.errIpShort", "loop.example/g00675/impl.errIpVersion", "loop.example/g00675/impl.errIpLength", "loop.example/g00675/impl.errIpSum"], ifaces := true, apart := false, laid := [("loop.example/g00675/impl.errIpShort", laid_loop_example_g00675_impl_errIpShort), ("loop.example/g00675/impl.errIpVersion", laid_loop_example_g00675_impl_errIpVersion), ("loop.example/g00675/impl.errIpLength", laid_loop_example_g00675_impl_errIpLength), ("loop.example/g00675/impl.errIpSum", laid_loop_example_g00675_impl_errIpSum), ("loop.example/g00675/impl.errIpForm", laid_loop_example_g00675_impl_errIpForm)], narrowed := true }
def FnHopsUptoSaid : Prop := fnHopsUptoRow.holds Tryd.pinned (OpenSpec.upto fnHopsSpec)

/-- 'laws.FnAddrs', WHERE WHAT IT READS IS OF BULK AT MOST 1048576: true; the input reads as it did. -/
def fnAddrsUptoRow : OpenClaim := { program := "ytgknkhhoelgnhaadoor", sum := "d60994524ae210cfc01c0096921c08fe2f4c3eec9e2c904c8ccb75ac8ee6b5f0", func := "loop.example/g00675/laws.FnAddrs", spec := "fnAddrs", inPlace := ["internal/abi.NoEscape", "internal/bytealg.MakeNoZero", "internal/bytealg.CountString", "internal/bytealg.IndexByteString", "internal/bytealg.IndexString"], recurses := true, named := ["internal/strconv.uint64pow10", "math/bits.deBruijn32tab", "math/bits.deBruijn64tab", "unicode/utf8.first", "unicode/utf8.acceptRanges", "internal/bytealg.MaxLen", "strconv.ErrSyntax", "strconv.ErrRange"], apart := false, laid := [("math/bits.deBruijn32tab", laid_math_bits_deBruijn32tab), ("math/bits.deBruijn64tab", laid_math_bits_deBruijn64tab), ("internal/strconv.uint64pow10", laid_internal_strconv_uint64pow10), ("unicode/utf8.acceptRanges", laid_unicode_utf8_acceptRanges), ("strconv.ErrRange", laid_strconv_ErrRange), ("strconv.ErrSyntax", laid_strconv_ErrSyntax), ("unicode/utf8.first", laid_unicode_utf8_first)], narrowed := true }
def FnAddrsUptoSaid : Prop := fnAddrsUptoRow.holds Tryd.pinned (OpenSpec.upto fnAddrsSpec)

/-- 'laws.FnIpEnds', WHERE WHAT IT READS IS OF BULK AT MOST 1048576: true; the input reads as it did. -/
def fnIpEndsUptoRow : OpenClaim := { program := "ytgknkhhoelgnhaadoor", sum := "d60994524ae210cfc01c0096921c08fe2f4c3eec9e2c904c8ccb75ac8ee6b5f0", func := "loop.example/g00675/laws.FnIpEnds", spec := "fnIpEnds", inPlace := ["internal/reflectlite.TypeOf"], unfollowed := true, recurses := true, named := ["loop.example/g00675/impl.errIpForm", "loop.example/g00675/impl.errIpShort", "loop.example/g00675/impl.errIpVersion", "loop.example/g00675/impl.errIpLength", "loop.example/g00675/impl.errIpSum"], ifaces := true, apart := false, laid := [("loop.example/g00675/impl.errIpShort", laid_loop_example_g00675_impl_errIpShort), ("loop.example/g00675/impl.errIpVersion", laid_loop_example_g00675_impl_errIpVersion), ("loop.example/g00675/impl.errIpLength", laid_loop_example_g00675_impl_errIpLength), ("loop.example/g00675/impl.errIpSum", laid_loop_example_g00675_impl_errIpSum), ("loop.example/g00675/impl.errIpForm", laid_loop_example_g00675_impl_errIpForm)], narrowed := true }
def FnIpEndsUptoSaid : Prop := fnIpEndsUptoRow.holds Tryd.pinned (OpenSpec.upto fnIpEndsSpec)

end Rows
end Go.Proofs.YtgknkhhoelgnhaaDoor
