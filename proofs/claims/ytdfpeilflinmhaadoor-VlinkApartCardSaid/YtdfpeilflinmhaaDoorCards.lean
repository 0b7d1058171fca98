/-
  DERIVED. GIVEN WITH THE SEED: THE CARDS: each row of YtdfpeilflinmhaaDoorRows.lean that lists a variable, with what it lists TIED to the program's text (the seventh form; the later family's looks); each row that meets fmt, with fmt's text TOLD by the authors' own Lean function (tested against real Go, not proved from fmt's source: count such statements apart). THE CARD IS WHAT COUNTS. Prove the row's statement (the work); the ties are given (YtdfpeilflinmhaaDoorTie.lean); close each card by the builder's one call (the guide's Derived/Test/ToyasCard.lean, 'card_holds'). Laid BY PROGRAM, IN A SANDBOX (cutbox-door.mjs). By AI agents, Wed Nov 11 2026. No macro, syntax, notation, axiom, sorry.
-/
import Derived.Test.YtdfpeilflinmhaaDoorRows
import GoSem.ClaimSeven
namespace Go.Proofs.YtdfpeilflinmhaaDoor
namespace Rows

/-- THE TIED CARD OF 'rotalaw06.VlinkBack'. -/
def vlinkBackCard : Claim7 := { stood := { row := vlinkBackRow, standIns := [], harness := (true, "17aabfe522367dfad1815271011cc48c86060f9d74de23fdcd341fe899739221"), looks := false }, kinds := [], alts := [], laidByText := true, laidKinds := [.data, .data], laidTests := true, laidLooks := .later }
def VlinkBackCardSaid : Prop := Claim7.holds Tryd.pinned (.plain (OpenSpec.ofChange vlinkBackSpec)) vlinkBackCard

/-- THE TIED CARD OF 'rotalaw06.VlinkApart'. -/
def vlinkApartCard : Claim7 := { stood := { row := vlinkApartRow, standIns := [], harness := (true, "17aabfe522367dfad1815271011cc48c86060f9d74de23fdcd341fe899739221"), looks := false }, kinds := [], alts := [], laidByText := true, laidKinds := [.data, .data], laidTests := true, laidLooks := .later }
def VlinkApartCardSaid : Prop := Claim7.holds Tryd.pinned (.plain (OpenSpec.ofChange vlinkApartSpec)) vlinkApartCard

/-- THE TIED CARD OF 'rotalaw06.VlinkOnce'. -/
def vlinkOnceCard : Claim7 := { stood := { row := vlinkOnceRow, standIns := [], harness := (true, "17aabfe522367dfad1815271011cc48c86060f9d74de23fdcd341fe899739221"), looks := false }, kinds := [], alts := [], laidByText := true, laidKinds := [.data, .data], laidTests := true, laidLooks := .later }
def VlinkOnceCardSaid : Prop := Claim7.holds Tryd.pinned (.plain (OpenSpec.ofChange vlinkOnceSpec)) vlinkOnceCard

/-- THE TIED CARD OF 'rotalaw06.VlinkQuiet'. -/
def vlinkQuietCard : Claim7 := { stood := { row := vlinkQuietRow, standIns := [], harness := (true, "17aabfe522367dfad1815271011cc48c86060f9d74de23fdcd341fe899739221"), looks := false }, kinds := [], alts := [], laidByText := true, laidKinds := [.data, .data], laidTests := true, laidLooks := .later }
def VlinkQuietCardSaid : Prop := Claim7.holds Tryd.pinned (.plain (OpenSpec.ofChange vlinkQuietSpec)) vlinkQuietCard

/-- THE TIED CARD OF 'rotalaw07.BusGate'. -/
def busGateCard : Claim7 := { stood := { row := busGateRow, standIns := [], harness := (true, "17aabfe522367dfad1815271011cc48c86060f9d74de23fdcd341fe899739221"), looks := false }, kinds := [], alts := [], laidByText := true, laidKinds := [.data, .data], laidTests := true, laidLooks := .later }
def BusGateCardSaid : Prop := Claim7.holds Tryd.pinned (.plain (OpenSpec.ofChange busGateSpec)) busGateCard

/-- THE TIED CARD OF 'rotalaw08.ClockPlays'. -/
def clockPlaysCard : Claim7 := { stood := { row := clockPlaysRow, standIns := [], harness := (true, "17aabfe522367dfad1815271011cc48c86060f9d74de23fdcd341fe899739221"), looks := false }, kinds := [], alts := [], laidByText := true, laidKinds := [.data, .data], laidTests := true, laidLooks := .later }
def ClockPlaysCardSaid : Prop := Claim7.holds Tryd.pinned (.plain (OpenSpec.ofChange clockPlaysSpec)) clockPlaysCard

/-- THE TIED CARD OF 'rotalaw08.ClockNames'. -/
def clockNamesCard : Claim7 := { stood := { row := clockNamesRow, standIns := [], harness := (true, "17aabfe522367dfad1815271011cc48c86060f9d74de23fdcd341fe899739221"), looks := false }, kinds := [], alts := [], laidByText := true, laidKinds := [.data, .data], laidTests := true, laidLooks := .later }
def ClockNamesCardSaid : Prop := Claim7.holds Tryd.pinned (.plain (OpenSpec.ofChange clockNamesSpec)) clockNamesCard

/-- THE TIED CARD OF 'rotalaw08.ClockNear'. -/
def clockNearCard : Claim7 := { stood := { row := clockNearRow, standIns := [], harness := (true, "17aabfe522367dfad1815271011cc48c86060f9d74de23fdcd341fe899739221"), looks := false }, kinds := [], alts := [], laidByText := true, laidKinds := [.data, .data], laidTests := true, laidLooks := .later }
def ClockNearCardSaid : Prop := Claim7.holds Tryd.pinned (.plain (OpenSpec.ofChange clockNearSpec)) clockNearCard

/-- THE TIED CARD OF 'rotalaw08.ClockTogether'. -/
def clockTogetherCard : Claim7 := { stood := { row := clockTogetherRow, standIns := [], harness := (true, "17aabfe522367dfad1815271011cc48c86060f9d74de23fdcd341fe899739221"), looks := false }, kinds := [], alts := [], laidByText := true, laidKinds := [.data, .data], laidTests := true, laidLooks := .later }
def ClockTogetherCardSaid : Prop := Claim7.holds Tryd.pinned (.plain (OpenSpec.ofChange clockTogetherSpec)) clockTogetherCard

/-- THE SECOND FORM's CARD OF 'rotalaw06.VlinkBack'. -/
def vlinkBackUptoCard : Claim7 := { stood := { row := vlinkBackUptoRow, standIns := [], harness := (true, "17aabfe522367dfad1815271011cc48c86060f9d74de23fdcd341fe899739221"), looks := false }, kinds := [], alts := [], laidByText := true, laidKinds := [.data, .data], laidTests := true, laidLooks := .later }
def VlinkBackUptoCardSaid : Prop := Claim7.holds Tryd.pinned (.plain (OpenSpec.upto vlinkBackSpec)) vlinkBackUptoCard

/-- THE SECOND FORM's CARD OF 'rotalaw06.VlinkApart'. -/
def vlinkApartUptoCard : Claim7 := { stood := { row := vlinkApartUptoRow, standIns := [], harness := (true, "17aabfe522367dfad1815271011cc48c86060f9d74de23fdcd341fe899739221"), looks := false }, kinds := [], alts := [], laidByText := true, laidKinds := [.data, .data], laidTests := true, laidLooks := .later }
def VlinkApartUptoCardSaid : Prop := Claim7.holds Tryd.pinned (.plain (OpenSpec.upto vlinkApartSpec)) vlinkApartUptoCard

/-- THE SECOND FORM's CARD OF 'rotalaw06.VlinkOnce'. -/
def vlinkOnceUptoCard : Claim7 := { stood := { row := vlinkOnceUptoRow, standIns := [], harness := (true, "17aabfe522367dfad1815271011cc48c86060f9d74de23fdcd341fe899739221"), looks := false }, kinds := [], alts := [], laidByText := true, laidKinds := [.data, .data], laidTests := true, laidLooks := .later }
def VlinkOnceUptoCardSaid : Prop := Claim7.holds Tryd.pinned (.plain (OpenSpec.upto vlinkOnceSpec)) vlinkOnceUptoCard

/-- THE SECOND FORM's CARD OF 'rotalaw06.VlinkQuiet'. -/
def vlinkQuietUptoCard : Claim7 := { stood := { row := vlinkQuietUptoRow, standIns := [], harness := (true, "17aabfe522367dfad1815271011cc48c86060f9d74de23fdcd341fe899739221"), looks := false }, kinds := [], alts := [], laidByText := true, laidKinds := [.data, .data], laidTests := true, laidLooks := .later }
def VlinkQuietUptoCardSaid : Prop := Claim7.holds Tryd.pinned (.plain (OpenSpec.upto vlinkQuietSpec)) vlinkQuietUptoCard

/-- THE SECOND FORM's CARD OF 'rotalaw07.BusGate'. -/
def busGateUptoCard : Claim7 := { stood := { row := busGateUptoRow, standIns := [], harness := (true, "17aabfe522367dfad1815271011cc48c86060f9d74de23fdcd341fe899739221"), looks := false }, kinds := [], alts := [], laidByText := true, laidKinds := [.data, .data], laidTests := true, laidLooks := .later }
def BusGateUptoCardSaid : Prop := Claim7.holds Tryd.pinned (.plain (OpenSpec.upto busGateSpec)) busGateUptoCard

/-- THE SECOND FORM's CARD OF 'rotalaw08.ClockPlays'. -/
def clockPlaysUptoCard : Claim7 := { stood := { row := clockPlaysUptoRow, standIns := [], harness := (true, "17aabfe522367dfad1815271011cc48c86060f9d74de23fdcd341fe899739221"), looks := false }, kinds := [], alts := [], laidByText := true, laidKinds := [.data, .data], laidTests := true, laidLooks := .later }
def ClockPlaysUptoCardSaid : Prop := Claim7.holds Tryd.pinned (.plain (OpenSpec.upto clockPlaysSpec)) clockPlaysUptoCard

/-- THE SECOND FORM's CARD OF 'rotalaw08.ClockNames'. -/
def clockNamesUptoCard : Claim7 := { stood := { row := clockNamesUptoRow, standIns := [], harness := (true, "17aabfe522367dfad1815271011cc48c86060f9d74de23fdcd341fe899739221"), looks := false }, kinds := [], alts := [], laidByText := true, laidKinds := [.data, .data], laidTests := true, laidLooks := .later }
def ClockNamesUptoCardSaid : Prop := Claim7.holds Tryd.pinned (.plain (OpenSpec.upto clockNamesSpec)) clockNamesUptoCard

/-- THE SECOND FORM's CARD OF 'rotalaw08.ClockNear'. -/
def clockNearUptoCard : Claim7 := { stood := { row := clockNearUptoRow, standIns := [], harness := (true, "17aabfe522367dfad1815271011cc48c86060f9d74de23fdcd341fe899739221"), looks := false }, kinds := [], alts := [], laidByText := true, laidKinds := [.data, .data], laidTests := true, laidLooks := .later }
def ClockNearUptoCardSaid : Prop := Claim7.holds Tryd.pinned (.plain (OpenSpec.upto clockNearSpec)) clockNearUptoCard

/-- THE SECOND FORM's CARD OF 'rotalaw08.ClockTogether'. -/
def clockTogetherUptoCard : Claim7 := { stood := { row := clockTogetherUptoRow, standIns := [], harness := (true, "17aabfe522367dfad1815271011cc48c86060f9d74de23fdcd341fe899739221"), looks := false }, kinds := [], alts := [], laidByText := true, laidKinds := [.data, .data], laidTests := true, laidLooks := .later }
def ClockTogetherUptoCardSaid : Prop := Claim7.holds Tryd.pinned (.plain (OpenSpec.upto clockTogetherSpec)) clockTogetherUptoCard
end Rows
end Go.Proofs.YtdfpeilflinmhaaDoor
