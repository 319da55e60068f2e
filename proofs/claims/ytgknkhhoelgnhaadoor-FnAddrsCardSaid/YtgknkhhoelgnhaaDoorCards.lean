/-
  DERIVED. GIVEN WITH THE SEED: THE CARDS: each row of YtgknkhhoelgnhaaDoorRows.lean that lists a variable, with what it lists TIED to the program's text (the seventh form; the later family's looks); each row that meets fmt, with fmt's text TOLD by the authors' own Lean function (tested against real Go, not proved from fmt's source: count such statements apart). THE CARD IS WHAT COUNTS. Prove the row's statement (the work); the ties are given (YtgknkhhoelgnhaaDoorTie.lean); close each card by the builder's one call (the guide's Derived/Test/ToyasCard.lean, 'card_holds'). Laid BY PROGRAM, IN A SANDBOX (cutbox-door.mjs). By AI agents, Wed Nov 11 2026. No macro, syntax, notation, axiom, sorry.
-/
import Derived.Test.YtgknkhhoelgnhaaDoorRows
import GoSem.ClaimSeven
namespace Go.Proofs.YtgknkhhoelgnhaaDoor
namespace Rows

/-- THE TIED CARD OF 'laws.FnExactAddrText'. -/
def fnExactAddrTextCard : Claim7 := { stood := { row := fnExactAddrTextRow, standIns := [], harness := (true, "9a8fd1bce9834d8be2180b7c4d3f959e457b9e26c8c687a0c7a7d07def87a3e4"), looks := true }, kinds := [], alts := [], laidByText := true, laidKinds := [.data, .data, .data], laidTests := true, laidLooks := .later }
def FnExactAddrTextCardSaid : Prop := Claim7.holds Tryd.pinned (.plain (OpenSpec.ofChange fnExactAddrTextSpec)) fnExactAddrTextCard

/-- THE TIED CARD OF 'laws.FnExactReadAddr'. -/
def fnExactReadAddrCard : Claim7 := { stood := { row := fnExactReadAddrRow, standIns := [], harness := (true, "9a8fd1bce9834d8be2180b7c4d3f959e457b9e26c8c687a0c7a7d07def87a3e4"), looks := true }, kinds := [], alts := [], laidByText := true, laidKinds := [.data, .data, .data, .data, .sentinel, .sentinel, .pinned], laidTests := true, laidLooks := .later }
def FnExactReadAddrCardSaid : Prop := Claim7.holds Tryd.pinned (.plain (OpenSpec.ofChange fnExactReadAddrSpec)) fnExactReadAddrCard

/-- THE TIED CARD OF 'laws.FnExactHopped'. -/
def fnExactHoppedCard : Claim7 := { stood := { row := fnExactHoppedRow, standIns := [], harness := (true, "9a8fd1bce9834d8be2180b7c4d3f959e457b9e26c8c687a0c7a7d07def87a3e4"), looks := true }, kinds := [], alts := [], laidByText := true, laidKinds := [.sentinel, .sentinel, .sentinel, .sentinel, .sentinel], laidTests := true, laidLooks := .later }
def FnExactHoppedCardSaid : Prop := Claim7.holds Tryd.pinned (.plain (OpenSpec.ofChange fnExactHoppedSpec)) fnExactHoppedCard

/-- THE TIED CARD OF 'laws.FnIps'. -/
def fnIpsCard : Claim7 := { stood := { row := fnIpsRow, standIns := [], harness := (true, "9a8fd1bce9834d8be2180b7c4d3f959e457b9e26c8c687a0c7a7d07def87a3e4"), looks := true }, kinds := [], alts := [], laidByText := true, laidKinds := [.sentinel, .sentinel, .sentinel, .sentinel, .sentinel], laidTests := true, laidLooks := .later }
def FnIpsCardSaid : Prop := Claim7.holds Tryd.pinned (.plain (OpenSpec.ofChange fnIpsSpec)) fnIpsCard

/-- THE TIED CARD OF 'laws.FnIpTurned'. -/
def fnIpTurnedCard : Claim7 := { stood := { row := fnIpTurnedRow, standIns := [], harness := (true, "9a8fd1bce9834d8be2180b7c4d3f959e457b9e26c8c687a0c7a7d07def87a3e4"), looks := true }, kinds := [], alts := [], laidByText := true, laidKinds := [.sentinel, .sentinel, .sentinel, .sentinel, .sentinel], laidTests := true, laidLooks := .later }
def FnIpTurnedCardSaid : Prop := Claim7.holds Tryd.pinned (.plain (OpenSpec.ofChange fnIpTurnedSpec)) fnIpTurnedCard

/-- THE TIED CARD OF 'laws.FnHopped'. -/
def fnHoppedCard : Claim7 := { stood := { row := fnHoppedRow, standIns := [], harness := (true, "9a8fd1bce9834d8be2180b7c4d3f959e457b9e26c8c687a0c7a7d07def87a3e4"), looks := true }, kinds := [], alts := [], laidByText := true, laidKinds := [.sentinel, .sentinel, .sentinel, .sentinel, .sentinel], laidTests := true, laidLooks := .later }
def FnHoppedCardSaid : Prop := Claim7.holds Tryd.pinned (.plain (OpenSpec.ofChange fnHoppedSpec)) fnHoppedCard

/-- THE TIED CARD OF 'laws.FnHops'. -/
def fnHopsCard : Claim7 := { stood := { row := fnHopsRow, standIns := [], harness := (true, "9a8fd1bce9834d8be2180b7c4d3f959e457b9e26c8c687a0c7a7d07def87a3e4"), looks := true }, kinds := [], alts := [], laidByText := true, laidKinds := [.sentinel, .sentinel, .sentinel, .sentinel, .sentinel], laidTests := true, laidLooks := .later }
def FnHopsCardSaid : Prop := Claim7.holds Tryd.pinned (.plain (OpenSpec.ofChange fnHopsSpec)) fnHopsCard

/-- THE TIED CARD OF 'laws.FnAddrs'. -/
def fnAddrsCard : Claim7 := { stood := { row := fnAddrsRow, standIns := [], harness := (true, "9a8fd1bce9834d8be2180b7c4d3f959e457b9e26c8c687a0c7a7d07def87a3e4"), looks := true }, kinds := [], alts := [], laidByText := true, laidKinds := [.data, .data, .data, .data, .sentinel, .sentinel, .pinned], laidTests := true, laidLooks := .later }
def FnAddrsCardSaid : Prop := Claim7.holds Tryd.pinned (.plain (OpenSpec.ofChange fnAddrsSpec)) fnAddrsCard

/-- THE TIED CARD OF 'laws.FnIpEnds'. -/
def fnIpEndsCard : Claim7 := { stood := { row := fnIpEndsRow, standIns := [], harness := (true, "9a8fd1bce9834d8be2180b7c4d3f959e457b9e26c8c687a0c7a7d07def87a3e4"), looks := true }, kinds := [], alts := [], laidByText := true, laidKinds := [.sentinel, .sentinel, .sentinel, .sentinel, .sentinel], laidTests := true, laidLooks := .later }
def FnIpEndsCardSaid : Prop := Claim7.holds Tryd.pinned (.plain (OpenSpec.ofChange fnIpEndsSpec)) fnIpEndsCard

/-- THE SECOND FORM's CARD OF 'laws.FnExactAddrText'. -/
def fnExactAddrTextUptoCard : Claim7 := { stood := { row := fnExactAddrTextUptoRow, standIns := [], harness := (true, "9a8fd1bce9834d8be2180b7c4d3f959e457b9e26c8c687a0c7a7d07def87a3e4"), looks := true }, kinds := [], alts := [], laidByText := true, laidKinds := [.data, .data, .data], laidTests := true, laidLooks := .later }
def FnExactAddrTextUptoCardSaid : Prop := Claim7.holds Tryd.pinned (.plain (OpenSpec.upto fnExactAddrTextSpec)) fnExactAddrTextUptoCard

/-- THE SECOND FORM's CARD OF 'laws.FnExactReadAddr'. -/
def fnExactReadAddrUptoCard : Claim7 := { stood := { row := fnExactReadAddrUptoRow, standIns := [], harness := (true, "9a8fd1bce9834d8be2180b7c4d3f959e457b9e26c8c687a0c7a7d07def87a3e4"), looks := true }, kinds := [], alts := [], laidByText := true, laidKinds := [.data, .data, .data, .data, .sentinel, .sentinel, .pinned], laidTests := true, laidLooks := .later }
def FnExactReadAddrUptoCardSaid : Prop := Claim7.holds Tryd.pinned (.plain (OpenSpec.upto fnExactReadAddrSpec)) fnExactReadAddrUptoCard

/-- THE SECOND FORM's CARD OF 'laws.FnExactHopped'. -/
def fnExactHoppedUptoCard : Claim7 := { stood := { row := fnExactHoppedUptoRow, standIns := [], harness := (true, "9a8fd1bce9834d8be2180b7c4d3f959e457b9e26c8c687a0c7a7d07def87a3e4"), looks := true }, kinds := [], alts := [], laidByText := true, laidKinds := [.sentinel, .sentinel, .sentinel, .sentinel, .sentinel], laidTests := true, laidLooks := .later }
def FnExactHoppedUptoCardSaid : Prop := Claim7.holds Tryd.pinned (.plain (OpenSpec.upto fnExactHoppedSpec)) fnExactHoppedUptoCard

/-- THE SECOND FORM's CARD OF 'laws.FnIps'. -/
def fnIpsUptoCard : Claim7 := { stood := { row := fnIpsUptoRow, standIns := [], harness := (true, "9a8fd1bce9834d8be2180b7c4d3f959e457b9e26c8c687a0c7a7d07def87a3e4"), looks := true }, kinds := [], alts := [], laidByText := true, laidKinds := [.sentinel, .sentinel, .sentinel, .sentinel, .sentinel], laidTests := true, laidLooks := .later }
def FnIpsUptoCardSaid : Prop := Claim7.holds Tryd.pinned (.plain (OpenSpec.upto fnIpsSpec)) fnIpsUptoCard

/-- THE SECOND FORM's CARD OF 'laws.FnIpTurned'. -/
def fnIpTurnedUptoCard : Claim7 := { stood := { row := fnIpTurnedUptoRow, standIns := [], harness := (true, "9a8fd1bce9834d8be2180b7c4d3f959e457b9e26c8c687a0c7a7d07def87a3e4"), looks := true }, kinds := [], alts := [], laidByText := true, laidKinds := [.sentinel, .sentinel, .sentinel, .sentinel, .sentinel], laidTests := true, laidLooks := .later }
def FnIpTurnedUptoCardSaid : Prop := Claim7.holds Tryd.pinned (.plain (OpenSpec.upto fnIpTurnedSpec)) fnIpTurnedUptoCard

/-- THE SECOND FORM's CARD OF 'laws.FnHopped'. -/
def fnHoppedUptoCard : Claim7 := { stood := { row := fnHoppedUptoRow, standIns := [], harness := (true, "9a8fd1bce9834d8be2180b7c4d3f959e457b9e26c8c687a0c7a7d07def87a3e4"), looks := true }, kinds := [], alts := [], laidByText := true, laidKinds := [.sentinel, .sentinel, .sentinel, .sentinel, .sentinel], laidTests := true, laidLooks := .later }
def FnHoppedUptoCardSaid : Prop := Claim7.holds Tryd.pinned (.plain (OpenSpec.upto fnHoppedSpec)) fnHoppedUptoCard

/-- THE SECOND FORM's CARD OF 'laws.FnHops'. -/
def fnHopsUptoCard : Claim7 := { stood := { row := fnHopsUptoRow, standIns := [], harness := (true, "9a8fd1bce9834d8be2180b7c4d3f959e457b9e26c8c687a0c7a7d07def87a3e4"), looks := true }, kinds := [], alts := [], laidByText := true, laidKinds := [.sentinel, .sentinel, .sentinel, .sentinel, .sentinel], laidTests := true, laidLooks := .later }
def FnHopsUptoCardSaid : Prop := Claim7.holds Tryd.pinned (.plain (OpenSpec.upto fnHopsSpec)) fnHopsUptoCard

/-- THE SECOND FORM's CARD OF 'laws.FnAddrs'. -/
def fnAddrsUptoCard : Claim7 := { stood := { row := fnAddrsUptoRow, standIns := [], harness := (true, "9a8fd1bce9834d8be2180b7c4d3f959e457b9e26c8c687a0c7a7d07def87a3e4"), looks := true }, kinds := [], alts := [], laidByText := true, laidKinds := [.data, .data, .data, .data, .sentinel, .sentinel, .pinned], laidTests := true, laidLooks := .later }
def FnAddrsUptoCardSaid : Prop := Claim7.holds Tryd.pinned (.plain (OpenSpec.upto fnAddrsSpec)) fnAddrsUptoCard

/-- THE SECOND FORM's CARD OF 'laws.FnIpEnds'. -/
def fnIpEndsUptoCard : Claim7 := { stood := { row := fnIpEndsUptoRow, standIns := [], harness := (true, "9a8fd1bce9834d8be2180b7c4d3f959e457b9e26c8c687a0c7a7d07def87a3e4"), looks := true }, kinds := [], alts := [], laidByText := true, laidKinds := [.sentinel, .sentinel, .sentinel, .sentinel, .sentinel], laidTests := true, laidLooks := .later }
def FnIpEndsUptoCardSaid : Prop := Claim7.holds Tryd.pinned (.plain (OpenSpec.upto fnIpEndsSpec)) fnIpEndsUptoCard
end Rows
end Go.Proofs.YtgknkhhoelgnhaaDoor
