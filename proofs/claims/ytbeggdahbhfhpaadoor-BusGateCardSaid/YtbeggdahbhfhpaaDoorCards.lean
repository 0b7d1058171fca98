/-
  DERIVED. GIVEN WITH THE SEED: THE CARDS: each row of YtbeggdahbhfhpaaDoorRows.lean that lists a variable, with what it lists TIED to the program's text (the seventh form; the later family's looks); each row that meets fmt, with fmt's text TOLD by the authors' own Lean function (tested against real Go, not proved from fmt's source: count such statements apart). THE CARD IS WHAT COUNTS. Prove the row's statement (the work); the ties are given (YtbeggdahbhfhpaaDoorTie.lean); close each card by the builder's one call (the guide's Derived/Test/ToyasCard.lean, 'card_holds'). Laid BY PROGRAM, IN A SANDBOX (cutbox-door.mjs). By AI agents, Wed Nov 11 2026. No macro, syntax, notation, axiom, sorry.
-/
import Derived.Test.YtbeggdahbhfhpaaDoorRows
import GoSem.ClaimSeven
namespace Go.Proofs.YtbeggdahbhfhpaaDoor
namespace Rows

/-- THE TIED CARD OF 'rotalaw06.VlinkOnce'. -/
def vlinkOnceCard : Claim7 := { stood := { row := vlinkOnceRow, standIns := [], harness := (true, "34024e1e7cc219eff44c73e762f9921635cfa8f6625360a22fba2c3251b7dfac"), looks := false }, kinds := [], alts := [], laidByText := true, laidKinds := [.data, .data], laidTests := true, laidLooks := .later }
def VlinkOnceCardSaid : Prop := Claim7.holds Tryd.pinned (.plain (OpenSpec.ofChange vlinkOnceSpec)) vlinkOnceCard

/-- THE TIED CARD OF 'rotalaw07.BusGate'. -/
def busGateCard : Claim7 := { stood := { row := busGateRow, standIns := [], harness := (true, "34024e1e7cc219eff44c73e762f9921635cfa8f6625360a22fba2c3251b7dfac"), looks := false }, kinds := [], alts := [], laidByText := true, laidKinds := [.data, .data], laidTests := true, laidLooks := .later }
def BusGateCardSaid : Prop := Claim7.holds Tryd.pinned (.plain (OpenSpec.ofChange busGateSpec)) busGateCard

/-- THE TIED CARD OF 'rotalaw08.ClockPlays'. -/
def clockPlaysCard : Claim7 := { stood := { row := clockPlaysRow, standIns := [], harness := (true, "34024e1e7cc219eff44c73e762f9921635cfa8f6625360a22fba2c3251b7dfac"), looks := false }, kinds := [], alts := [], laidByText := true, laidKinds := [.data, .data], laidTests := true, laidLooks := .later }
def ClockPlaysCardSaid : Prop := Claim7.holds Tryd.pinned (.plain (OpenSpec.ofChange clockPlaysSpec)) clockPlaysCard

/-- THE TIED CARD OF 'rotalaw09.MemberNames'. -/
def memberNamesCard : Claim7 := { stood := { row := memberNamesRow, standIns := [], harness := (true, "34024e1e7cc219eff44c73e762f9921635cfa8f6625360a22fba2c3251b7dfac"), looks := false }, kinds := [], alts := [], laidByText := true, laidKinds := [.data, .data, .data], laidTests := true, laidLooks := .later }
def MemberNamesCardSaid : Prop := Claim7.holds Tryd.pinned (.plain (OpenSpec.ofChange memberNamesSpec)) memberNamesCard

/-- THE TIED CARD OF 'rotalaw09.MemberAgree'. -/
def memberAgreeCard : Claim7 := { stood := { row := memberAgreeRow, standIns := [], harness := (true, "34024e1e7cc219eff44c73e762f9921635cfa8f6625360a22fba2c3251b7dfac"), looks := false }, kinds := [], alts := [], laidByText := true, laidKinds := [.data, .data, .data], laidTests := true, laidLooks := .later }
def MemberAgreeCardSaid : Prop := Claim7.holds Tryd.pinned (.plain (OpenSpec.ofChange memberAgreeSpec)) memberAgreeCard

/-- THE TIED CARD OF 'rotalaw09.MemberHeals'. -/
def memberHealsCard : Claim7 := { stood := { row := memberHealsRow, standIns := [], harness := (true, "34024e1e7cc219eff44c73e762f9921635cfa8f6625360a22fba2c3251b7dfac"), looks := false }, kinds := [], alts := [], laidByText := true, laidKinds := [.data, .data, .data], laidTests := true, laidLooks := .later }
def MemberHealsCardSaid : Prop := Claim7.holds Tryd.pinned (.plain (OpenSpec.ofChange memberHealsSpec)) memberHealsCard

/-- THE TIED CARD OF 'rotalaw09.MemberStarts'. -/
def memberStartsCard : Claim7 := { stood := { row := memberStartsRow, standIns := [], harness := (true, "34024e1e7cc219eff44c73e762f9921635cfa8f6625360a22fba2c3251b7dfac"), looks := false }, kinds := [], alts := [], laidByText := true, laidKinds := [.data, .data, .data], laidTests := true, laidLooks := .later }
def MemberStartsCardSaid : Prop := Claim7.holds Tryd.pinned (.plain (OpenSpec.ofChange memberStartsSpec)) memberStartsCard

/-- THE SECOND FORM's CARD OF 'rotalaw06.VlinkOnce'. -/
def vlinkOnceUptoCard : Claim7 := { stood := { row := vlinkOnceUptoRow, standIns := [], harness := (true, "34024e1e7cc219eff44c73e762f9921635cfa8f6625360a22fba2c3251b7dfac"), looks := false }, kinds := [], alts := [], laidByText := true, laidKinds := [.data, .data], laidTests := true, laidLooks := .later }
def VlinkOnceUptoCardSaid : Prop := Claim7.holds Tryd.pinned (.plain (OpenSpec.upto vlinkOnceSpec)) vlinkOnceUptoCard

/-- THE SECOND FORM's CARD OF 'rotalaw07.BusGate'. -/
def busGateUptoCard : Claim7 := { stood := { row := busGateUptoRow, standIns := [], harness := (true, "34024e1e7cc219eff44c73e762f9921635cfa8f6625360a22fba2c3251b7dfac"), looks := false }, kinds := [], alts := [], laidByText := true, laidKinds := [.data, .data], laidTests := true, laidLooks := .later }
def BusGateUptoCardSaid : Prop := Claim7.holds Tryd.pinned (.plain (OpenSpec.upto busGateSpec)) busGateUptoCard

/-- THE SECOND FORM's CARD OF 'rotalaw08.ClockPlays'. -/
def clockPlaysUptoCard : Claim7 := { stood := { row := clockPlaysUptoRow, standIns := [], harness := (true, "34024e1e7cc219eff44c73e762f9921635cfa8f6625360a22fba2c3251b7dfac"), looks := false }, kinds := [], alts := [], laidByText := true, laidKinds := [.data, .data], laidTests := true, laidLooks := .later }
def ClockPlaysUptoCardSaid : Prop := Claim7.holds Tryd.pinned (.plain (OpenSpec.upto clockPlaysSpec)) clockPlaysUptoCard

/-- THE SECOND FORM's CARD OF 'rotalaw09.MemberNames'. -/
def memberNamesUptoCard : Claim7 := { stood := { row := memberNamesUptoRow, standIns := [], harness := (true, "34024e1e7cc219eff44c73e762f9921635cfa8f6625360a22fba2c3251b7dfac"), looks := false }, kinds := [], alts := [], laidByText := true, laidKinds := [.data, .data, .data], laidTests := true, laidLooks := .later }
def MemberNamesUptoCardSaid : Prop := Claim7.holds Tryd.pinned (.plain (OpenSpec.upto memberNamesSpec)) memberNamesUptoCard

/-- THE SECOND FORM's CARD OF 'rotalaw09.MemberAgree'. -/
def memberAgreeUptoCard : Claim7 := { stood := { row := memberAgreeUptoRow, standIns := [], harness := (true, "34024e1e7cc219eff44c73e762f9921635cfa8f6625360a22fba2c3251b7dfac"), looks := false }, kinds := [], alts := [], laidByText := true, laidKinds := [.data, .data, .data], laidTests := true, laidLooks := .later }
def MemberAgreeUptoCardSaid : Prop := Claim7.holds Tryd.pinned (.plain (OpenSpec.upto memberAgreeSpec)) memberAgreeUptoCard

/-- THE SECOND FORM's CARD OF 'rotalaw09.MemberHeals'. -/
def memberHealsUptoCard : Claim7 := { stood := { row := memberHealsUptoRow, standIns := [], harness := (true, "34024e1e7cc219eff44c73e762f9921635cfa8f6625360a22fba2c3251b7dfac"), looks := false }, kinds := [], alts := [], laidByText := true, laidKinds := [.data, .data, .data], laidTests := true, laidLooks := .later }
def MemberHealsUptoCardSaid : Prop := Claim7.holds Tryd.pinned (.plain (OpenSpec.upto memberHealsSpec)) memberHealsUptoCard

/-- THE SECOND FORM's CARD OF 'rotalaw09.MemberStarts'. -/
def memberStartsUptoCard : Claim7 := { stood := { row := memberStartsUptoRow, standIns := [], harness := (true, "34024e1e7cc219eff44c73e762f9921635cfa8f6625360a22fba2c3251b7dfac"), looks := false }, kinds := [], alts := [], laidByText := true, laidKinds := [.data, .data, .data], laidTests := true, laidLooks := .later }
def MemberStartsUptoCardSaid : Prop := Claim7.holds Tryd.pinned (.plain (OpenSpec.upto memberStartsSpec)) memberStartsUptoCard
end Rows
end Go.Proofs.YtbeggdahbhfhpaaDoor
