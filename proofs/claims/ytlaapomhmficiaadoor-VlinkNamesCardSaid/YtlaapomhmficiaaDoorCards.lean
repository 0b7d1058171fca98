/-
  DERIVED. GIVEN WITH THE SEED: THE CARDS: each row of YtlaapomhmficiaaDoorRows.lean that lists a variable, with what it lists TIED to the program's text (the seventh form; the later family's looks); each row that meets fmt, with fmt's text TOLD by the authors' own Lean function (tested against real Go, not proved from fmt's source: count such statements apart). THE CARD IS WHAT COUNTS. Prove the row's statement (the work); the ties are given (YtlaapomhmficiaaDoorTie.lean); close each card by the builder's one call (the guide's Derived/Test/ToyasCard.lean, 'card_holds'). Laid BY PROGRAM, IN A SANDBOX (cutbox-door.mjs). By AI agents, Wed Nov 11 2026. No macro, syntax, notation, axiom, sorry.
-/
import Derived.Test.YtlaapomhmficiaaDoorRows
import GoSem.ClaimSeven
namespace Go.Proofs.YtlaapomhmficiaaDoor
namespace Rows

/-- THE TIED CARD OF 'rotalaw02.ConfigTurns'. -/
def configTurnsCard : Claim7 := { stood := { row := configTurnsRow, standIns := [], harness := (true, "b9e0b79bad6f9bd8cde9ec68b2f2a3329f075abacc272cd0cac5ed7053ec19b9"), looks := false }, kinds := [], alts := [], laidByText := true, laidKinds := [.data, .data], laidTests := true, laidLooks := .later }
def ConfigTurnsCardSaid : Prop := Claim7.holds Tryd.pinned (.plain (OpenSpec.ofChange configTurnsSpec)) configTurnsCard

/-- THE TIED CARD OF 'rotalaw06.VlinkPacks'. -/
def vlinkPacksCard : Claim7 := { stood := { row := vlinkPacksRow, standIns := [], harness := (true, "b9e0b79bad6f9bd8cde9ec68b2f2a3329f075abacc272cd0cac5ed7053ec19b9"), looks := false }, kinds := [], alts := [], laidByText := true, laidKinds := [.data, .data], laidTests := true, laidLooks := .later }
def VlinkPacksCardSaid : Prop := Claim7.holds Tryd.pinned (.plain (OpenSpec.ofChange vlinkPacksSpec)) vlinkPacksCard

/-- THE TIED CARD OF 'rotalaw06.VlinkTells'. -/
def vlinkTellsCard : Claim7 := { stood := { row := vlinkTellsRow, standIns := [], harness := (true, "b9e0b79bad6f9bd8cde9ec68b2f2a3329f075abacc272cd0cac5ed7053ec19b9"), looks := false }, kinds := [], alts := [], laidByText := true, laidKinds := [.data, .data], laidTests := true, laidLooks := .later }
def VlinkTellsCardSaid : Prop := Claim7.holds Tryd.pinned (.plain (OpenSpec.ofChange vlinkTellsSpec)) vlinkTellsCard

/-- THE TIED CARD OF 'rotalaw06.VlinkHands'. -/
def vlinkHandsCard : Claim7 := { stood := { row := vlinkHandsRow, standIns := [], harness := (true, "b9e0b79bad6f9bd8cde9ec68b2f2a3329f075abacc272cd0cac5ed7053ec19b9"), looks := false }, kinds := [], alts := [], laidByText := true, laidKinds := [.data, .data], laidTests := true, laidLooks := .later }
def VlinkHandsCardSaid : Prop := Claim7.holds Tryd.pinned (.plain (OpenSpec.ofChange vlinkHandsSpec)) vlinkHandsCard

/-- THE TIED CARD OF 'rotalaw06.VlinkNames'. -/
def vlinkNamesCard : Claim7 := { stood := { row := vlinkNamesRow, standIns := [], harness := (true, "b9e0b79bad6f9bd8cde9ec68b2f2a3329f075abacc272cd0cac5ed7053ec19b9"), looks := false }, kinds := [], alts := [], laidByText := true, laidKinds := [.data, .data], laidTests := true, laidLooks := .later }
def VlinkNamesCardSaid : Prop := Claim7.holds Tryd.pinned (.plain (OpenSpec.ofChange vlinkNamesSpec)) vlinkNamesCard

/-- THE TIED CARD OF 'rotalaw06.VlinkBack'. -/
def vlinkBackCard : Claim7 := { stood := { row := vlinkBackRow, standIns := [], harness := (true, "b9e0b79bad6f9bd8cde9ec68b2f2a3329f075abacc272cd0cac5ed7053ec19b9"), looks := false }, kinds := [], alts := [], laidByText := true, laidKinds := [.data, .data], laidTests := true, laidLooks := .later }
def VlinkBackCardSaid : Prop := Claim7.holds Tryd.pinned (.plain (OpenSpec.ofChange vlinkBackSpec)) vlinkBackCard

/-- THE TIED CARD OF 'rotalaw06.VlinkApart'. -/
def vlinkApartCard : Claim7 := { stood := { row := vlinkApartRow, standIns := [], harness := (true, "b9e0b79bad6f9bd8cde9ec68b2f2a3329f075abacc272cd0cac5ed7053ec19b9"), looks := false }, kinds := [], alts := [], laidByText := true, laidKinds := [.data, .data], laidTests := true, laidLooks := .later }
def VlinkApartCardSaid : Prop := Claim7.holds Tryd.pinned (.plain (OpenSpec.ofChange vlinkApartSpec)) vlinkApartCard

/-- THE TIED CARD OF 'rotalaw06.VlinkOnce'. -/
def vlinkOnceCard : Claim7 := { stood := { row := vlinkOnceRow, standIns := [], harness := (true, "b9e0b79bad6f9bd8cde9ec68b2f2a3329f075abacc272cd0cac5ed7053ec19b9"), looks := false }, kinds := [], alts := [], laidByText := true, laidKinds := [.data, .data], laidTests := true, laidLooks := .later }
def VlinkOnceCardSaid : Prop := Claim7.holds Tryd.pinned (.plain (OpenSpec.ofChange vlinkOnceSpec)) vlinkOnceCard

/-- THE TIED CARD OF 'rotalaw06.VlinkQuiet'. -/
def vlinkQuietCard : Claim7 := { stood := { row := vlinkQuietRow, standIns := [], harness := (true, "b9e0b79bad6f9bd8cde9ec68b2f2a3329f075abacc272cd0cac5ed7053ec19b9"), looks := false }, kinds := [], alts := [], laidByText := true, laidKinds := [.data, .data], laidTests := true, laidLooks := .later }
def VlinkQuietCardSaid : Prop := Claim7.holds Tryd.pinned (.plain (OpenSpec.ofChange vlinkQuietSpec)) vlinkQuietCard

/-- THE TIED CARD OF 'rotalaw07.BusPlays'. -/
def busPlaysCard : Claim7 := { stood := { row := busPlaysRow, standIns := [], harness := (true, "b9e0b79bad6f9bd8cde9ec68b2f2a3329f075abacc272cd0cac5ed7053ec19b9"), looks := false }, kinds := [], alts := [], laidByText := true, laidKinds := [.data, .data], laidTests := true, laidLooks := .later }
def BusPlaysCardSaid : Prop := Claim7.holds Tryd.pinned (.plain (OpenSpec.ofChange busPlaysSpec)) busPlaysCard

/-- THE TIED CARD OF 'rotalaw07.BusNames'. -/
def busNamesCard : Claim7 := { stood := { row := busNamesRow, standIns := [], harness := (true, "b9e0b79bad6f9bd8cde9ec68b2f2a3329f075abacc272cd0cac5ed7053ec19b9"), looks := false }, kinds := [], alts := [], laidByText := true, laidKinds := [.data, .data], laidTests := true, laidLooks := .later }
def BusNamesCardSaid : Prop := Claim7.holds Tryd.pinned (.plain (OpenSpec.ofChange busNamesSpec)) busNamesCard

/-- THE TIED CARD OF 'rotalaw07.BusGate'. -/
def busGateCard : Claim7 := { stood := { row := busGateRow, standIns := [], harness := (true, "b9e0b79bad6f9bd8cde9ec68b2f2a3329f075abacc272cd0cac5ed7053ec19b9"), looks := false }, kinds := [], alts := [], laidByText := true, laidKinds := [.data, .data], laidTests := true, laidLooks := .later }
def BusGateCardSaid : Prop := Claim7.holds Tryd.pinned (.plain (OpenSpec.ofChange busGateSpec)) busGateCard

/-- THE SECOND FORM's CARD OF 'rotalaw02.ConfigTurns'. -/
def configTurnsUptoCard : Claim7 := { stood := { row := configTurnsUptoRow, standIns := [], harness := (true, "b9e0b79bad6f9bd8cde9ec68b2f2a3329f075abacc272cd0cac5ed7053ec19b9"), looks := false }, kinds := [], alts := [], laidByText := true, laidKinds := [.data, .data], laidTests := true, laidLooks := .later }
def ConfigTurnsUptoCardSaid : Prop := Claim7.holds Tryd.pinned (.plain (OpenSpec.upto configTurnsSpec)) configTurnsUptoCard

/-- THE SECOND FORM's CARD OF 'rotalaw06.VlinkPacks'. -/
def vlinkPacksUptoCard : Claim7 := { stood := { row := vlinkPacksUptoRow, standIns := [], harness := (true, "b9e0b79bad6f9bd8cde9ec68b2f2a3329f075abacc272cd0cac5ed7053ec19b9"), looks := false }, kinds := [], alts := [], laidByText := true, laidKinds := [.data, .data], laidTests := true, laidLooks := .later }
def VlinkPacksUptoCardSaid : Prop := Claim7.holds Tryd.pinned (.plain (OpenSpec.upto vlinkPacksSpec)) vlinkPacksUptoCard

/-- THE SECOND FORM's CARD OF 'rotalaw06.VlinkTells'. -/
def vlinkTellsUptoCard : Claim7 := { stood := { row := vlinkTellsUptoRow, standIns := [], harness := (true, "b9e0b79bad6f9bd8cde9ec68b2f2a3329f075abacc272cd0cac5ed7053ec19b9"), looks := false }, kinds := [], alts := [], laidByText := true, laidKinds := [.data, .data], laidTests := true, laidLooks := .later }
def VlinkTellsUptoCardSaid : Prop := Claim7.holds Tryd.pinned (.plain (OpenSpec.upto vlinkTellsSpec)) vlinkTellsUptoCard

/-- THE SECOND FORM's CARD OF 'rotalaw06.VlinkHands'. -/
def vlinkHandsUptoCard : Claim7 := { stood := { row := vlinkHandsUptoRow, standIns := [], harness := (true, "b9e0b79bad6f9bd8cde9ec68b2f2a3329f075abacc272cd0cac5ed7053ec19b9"), looks := false }, kinds := [], alts := [], laidByText := true, laidKinds := [.data, .data], laidTests := true, laidLooks := .later }
def VlinkHandsUptoCardSaid : Prop := Claim7.holds Tryd.pinned (.plain (OpenSpec.upto vlinkHandsSpec)) vlinkHandsUptoCard

/-- THE SECOND FORM's CARD OF 'rotalaw06.VlinkNames'. -/
def vlinkNamesUptoCard : Claim7 := { stood := { row := vlinkNamesUptoRow, standIns := [], harness := (true, "b9e0b79bad6f9bd8cde9ec68b2f2a3329f075abacc272cd0cac5ed7053ec19b9"), looks := false }, kinds := [], alts := [], laidByText := true, laidKinds := [.data, .data], laidTests := true, laidLooks := .later }
def VlinkNamesUptoCardSaid : Prop := Claim7.holds Tryd.pinned (.plain (OpenSpec.upto vlinkNamesSpec)) vlinkNamesUptoCard

/-- THE SECOND FORM's CARD OF 'rotalaw06.VlinkBack'. -/
def vlinkBackUptoCard : Claim7 := { stood := { row := vlinkBackUptoRow, standIns := [], harness := (true, "b9e0b79bad6f9bd8cde9ec68b2f2a3329f075abacc272cd0cac5ed7053ec19b9"), looks := false }, kinds := [], alts := [], laidByText := true, laidKinds := [.data, .data], laidTests := true, laidLooks := .later }
def VlinkBackUptoCardSaid : Prop := Claim7.holds Tryd.pinned (.plain (OpenSpec.upto vlinkBackSpec)) vlinkBackUptoCard

/-- THE SECOND FORM's CARD OF 'rotalaw06.VlinkApart'. -/
def vlinkApartUptoCard : Claim7 := { stood := { row := vlinkApartUptoRow, standIns := [], harness := (true, "b9e0b79bad6f9bd8cde9ec68b2f2a3329f075abacc272cd0cac5ed7053ec19b9"), looks := false }, kinds := [], alts := [], laidByText := true, laidKinds := [.data, .data], laidTests := true, laidLooks := .later }
def VlinkApartUptoCardSaid : Prop := Claim7.holds Tryd.pinned (.plain (OpenSpec.upto vlinkApartSpec)) vlinkApartUptoCard

/-- THE SECOND FORM's CARD OF 'rotalaw06.VlinkOnce'. -/
def vlinkOnceUptoCard : Claim7 := { stood := { row := vlinkOnceUptoRow, standIns := [], harness := (true, "b9e0b79bad6f9bd8cde9ec68b2f2a3329f075abacc272cd0cac5ed7053ec19b9"), looks := false }, kinds := [], alts := [], laidByText := true, laidKinds := [.data, .data], laidTests := true, laidLooks := .later }
def VlinkOnceUptoCardSaid : Prop := Claim7.holds Tryd.pinned (.plain (OpenSpec.upto vlinkOnceSpec)) vlinkOnceUptoCard

/-- THE SECOND FORM's CARD OF 'rotalaw06.VlinkQuiet'. -/
def vlinkQuietUptoCard : Claim7 := { stood := { row := vlinkQuietUptoRow, standIns := [], harness := (true, "b9e0b79bad6f9bd8cde9ec68b2f2a3329f075abacc272cd0cac5ed7053ec19b9"), looks := false }, kinds := [], alts := [], laidByText := true, laidKinds := [.data, .data], laidTests := true, laidLooks := .later }
def VlinkQuietUptoCardSaid : Prop := Claim7.holds Tryd.pinned (.plain (OpenSpec.upto vlinkQuietSpec)) vlinkQuietUptoCard

/-- THE SECOND FORM's CARD OF 'rotalaw07.BusPlays'. -/
def busPlaysUptoCard : Claim7 := { stood := { row := busPlaysUptoRow, standIns := [], harness := (true, "b9e0b79bad6f9bd8cde9ec68b2f2a3329f075abacc272cd0cac5ed7053ec19b9"), looks := false }, kinds := [], alts := [], laidByText := true, laidKinds := [.data, .data], laidTests := true, laidLooks := .later }
def BusPlaysUptoCardSaid : Prop := Claim7.holds Tryd.pinned (.plain (OpenSpec.upto busPlaysSpec)) busPlaysUptoCard

/-- THE SECOND FORM's CARD OF 'rotalaw07.BusNames'. -/
def busNamesUptoCard : Claim7 := { stood := { row := busNamesUptoRow, standIns := [], harness := (true, "b9e0b79bad6f9bd8cde9ec68b2f2a3329f075abacc272cd0cac5ed7053ec19b9"), looks := false }, kinds := [], alts := [], laidByText := true, laidKinds := [.data, .data], laidTests := true, laidLooks := .later }
def BusNamesUptoCardSaid : Prop := Claim7.holds Tryd.pinned (.plain (OpenSpec.upto busNamesSpec)) busNamesUptoCard

/-- THE SECOND FORM's CARD OF 'rotalaw07.BusGate'. -/
def busGateUptoCard : Claim7 := { stood := { row := busGateUptoRow, standIns := [], harness := (true, "b9e0b79bad6f9bd8cde9ec68b2f2a3329f075abacc272cd0cac5ed7053ec19b9"), looks := false }, kinds := [], alts := [], laidByText := true, laidKinds := [.data, .data], laidTests := true, laidLooks := .later }
def BusGateUptoCardSaid : Prop := Claim7.holds Tryd.pinned (.plain (OpenSpec.upto busGateSpec)) busGateUptoCard
end Rows
end Go.Proofs.YtlaapomhmficiaaDoor
