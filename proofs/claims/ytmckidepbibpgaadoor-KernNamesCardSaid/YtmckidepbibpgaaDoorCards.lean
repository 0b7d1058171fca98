/-
  DERIVED. GIVEN WITH THE SEED: THE CARDS: each row of YtmckidepbibpgaaDoorRows.lean that lists a variable, with what it lists TIED to the program's text (the seventh form; the later family's looks); each row that meets fmt, with fmt's text TOLD by the authors' own Lean function (tested against real Go, not proved from fmt's source: count such statements apart). THE CARD IS WHAT COUNTS. Prove the row's statement (the work); the ties are given (YtmckidepbibpgaaDoorTie.lean); close each card by the builder's one call (the guide's Derived/Test/ToyasCard.lean, 'card_holds'). Laid BY PROGRAM, IN A SANDBOX (cutbox-door.mjs). By AI agents, Wed Nov 11 2026. No macro, syntax, notation, axiom, sorry.
-/
import Derived.Test.YtmckidepbibpgaaDoorRows
import GoSem.ClaimSeven
namespace Go.Proofs.YtmckidepbibpgaaDoor
namespace Rows

/-- THE TIED CARD OF 'rotalaw05.KernNames'. -/
def kernNamesCard : Claim7 := { stood := { row := kernNamesRow, standIns := [], harness := (true, "f866006465110b0c73cde1c79dd0cf13ac04b371c3eb47fda57f0ef872f9a1ee"), looks := false }, kinds := [], alts := [], laidByText := true, laidKinds := [.data, .data], laidTests := true, laidLooks := .later }
def KernNamesCardSaid : Prop := Claim7.holds Tryd.pinned (.plain (OpenSpec.ofChange kernNamesSpec)) kernNamesCard

/-- THE TIED CARD OF 'rotalaw05.KernApart'. -/
def kernApartCard : Claim7 := { stood := { row := kernApartRow, standIns := [], harness := (true, "f866006465110b0c73cde1c79dd0cf13ac04b371c3eb47fda57f0ef872f9a1ee"), looks := false }, kinds := [], alts := [], laidByText := true, laidKinds := [.data, .data, .data, .data, .data], laidTests := true, laidLooks := .later }
def KernApartCardSaid : Prop := Claim7.holds Tryd.pinned (.plain (OpenSpec.ofChange kernApartSpec)) kernApartCard

/-- THE TIED CARD OF 'rotalaw05.KernRegion'. -/
def kernRegionCard : Claim7 := { stood := { row := kernRegionRow, standIns := [], harness := (true, "f866006465110b0c73cde1c79dd0cf13ac04b371c3eb47fda57f0ef872f9a1ee"), looks := false }, kinds := [], alts := [], laidByText := true, laidKinds := [.data, .data], laidTests := true, laidLooks := .later }
def KernRegionCardSaid : Prop := Claim7.holds Tryd.pinned (.plain (OpenSpec.ofChange kernRegionSpec)) kernRegionCard

/-- THE TIED CARD OF 'rotalaw05.KernStops'. -/
def kernStopsCard : Claim7 := { stood := { row := kernStopsRow, standIns := [], harness := (true, "f866006465110b0c73cde1c79dd0cf13ac04b371c3eb47fda57f0ef872f9a1ee"), looks := false }, kinds := [], alts := [], laidByText := true, laidKinds := [.data, .data], laidTests := true, laidLooks := .later }
def KernStopsCardSaid : Prop := Claim7.holds Tryd.pinned (.plain (OpenSpec.ofChange kernStopsSpec)) kernStopsCard

/-- THE TIED CARD OF 'rotalaw05.KernAnew'. -/
def kernAnewCard : Claim7 := { stood := { row := kernAnewRow, standIns := [], harness := (true, "f866006465110b0c73cde1c79dd0cf13ac04b371c3eb47fda57f0ef872f9a1ee"), looks := false }, kinds := [], alts := [], laidByText := true, laidKinds := [.data, .data, .data, .data, .data], laidTests := true, laidLooks := .later }
def KernAnewCardSaid : Prop := Claim7.holds Tryd.pinned (.plain (OpenSpec.ofChange kernAnewSpec)) kernAnewCard

/-- THE TIED CARD OF 'rotalaw06.VlinkOnce'. -/
def vlinkOnceCard : Claim7 := { stood := { row := vlinkOnceRow, standIns := [], harness := (true, "f866006465110b0c73cde1c79dd0cf13ac04b371c3eb47fda57f0ef872f9a1ee"), looks := false }, kinds := [], alts := [], laidByText := true, laidKinds := [.data, .data], laidTests := true, laidLooks := .later }
def VlinkOnceCardSaid : Prop := Claim7.holds Tryd.pinned (.plain (OpenSpec.ofChange vlinkOnceSpec)) vlinkOnceCard

/-- THE TIED CARD OF 'rotalaw07.BusPlays'. -/
def busPlaysCard : Claim7 := { stood := { row := busPlaysRow, standIns := [], harness := (true, "f866006465110b0c73cde1c79dd0cf13ac04b371c3eb47fda57f0ef872f9a1ee"), looks := false }, kinds := [], alts := [], laidByText := true, laidKinds := [.data, .data], laidTests := true, laidLooks := .later }
def BusPlaysCardSaid : Prop := Claim7.holds Tryd.pinned (.plain (OpenSpec.ofChange busPlaysSpec)) busPlaysCard

/-- THE SECOND FORM's CARD OF 'rotalaw05.KernNames'. -/
def kernNamesUptoCard : Claim7 := { stood := { row := kernNamesUptoRow, standIns := [], harness := (true, "f866006465110b0c73cde1c79dd0cf13ac04b371c3eb47fda57f0ef872f9a1ee"), looks := false }, kinds := [], alts := [], laidByText := true, laidKinds := [.data, .data], laidTests := true, laidLooks := .later }
def KernNamesUptoCardSaid : Prop := Claim7.holds Tryd.pinned (.plain (OpenSpec.upto kernNamesSpec)) kernNamesUptoCard

/-- THE SECOND FORM's CARD OF 'rotalaw05.KernApart'. -/
def kernApartUptoCard : Claim7 := { stood := { row := kernApartUptoRow, standIns := [], harness := (true, "f866006465110b0c73cde1c79dd0cf13ac04b371c3eb47fda57f0ef872f9a1ee"), looks := false }, kinds := [], alts := [], laidByText := true, laidKinds := [.data, .data, .data, .data, .data], laidTests := true, laidLooks := .later }
def KernApartUptoCardSaid : Prop := Claim7.holds Tryd.pinned (.plain (OpenSpec.upto kernApartSpec)) kernApartUptoCard

/-- THE SECOND FORM's CARD OF 'rotalaw05.KernRegion'. -/
def kernRegionUptoCard : Claim7 := { stood := { row := kernRegionUptoRow, standIns := [], harness := (true, "f866006465110b0c73cde1c79dd0cf13ac04b371c3eb47fda57f0ef872f9a1ee"), looks := false }, kinds := [], alts := [], laidByText := true, laidKinds := [.data, .data], laidTests := true, laidLooks := .later }
def KernRegionUptoCardSaid : Prop := Claim7.holds Tryd.pinned (.plain (OpenSpec.upto kernRegionSpec)) kernRegionUptoCard

/-- THE SECOND FORM's CARD OF 'rotalaw05.KernStops'. -/
def kernStopsUptoCard : Claim7 := { stood := { row := kernStopsUptoRow, standIns := [], harness := (true, "f866006465110b0c73cde1c79dd0cf13ac04b371c3eb47fda57f0ef872f9a1ee"), looks := false }, kinds := [], alts := [], laidByText := true, laidKinds := [.data, .data], laidTests := true, laidLooks := .later }
def KernStopsUptoCardSaid : Prop := Claim7.holds Tryd.pinned (.plain (OpenSpec.upto kernStopsSpec)) kernStopsUptoCard

/-- THE SECOND FORM's CARD OF 'rotalaw05.KernAnew'. -/
def kernAnewUptoCard : Claim7 := { stood := { row := kernAnewUptoRow, standIns := [], harness := (true, "f866006465110b0c73cde1c79dd0cf13ac04b371c3eb47fda57f0ef872f9a1ee"), looks := false }, kinds := [], alts := [], laidByText := true, laidKinds := [.data, .data, .data, .data, .data], laidTests := true, laidLooks := .later }
def KernAnewUptoCardSaid : Prop := Claim7.holds Tryd.pinned (.plain (OpenSpec.upto kernAnewSpec)) kernAnewUptoCard

/-- THE SECOND FORM's CARD OF 'rotalaw06.VlinkOnce'. -/
def vlinkOnceUptoCard : Claim7 := { stood := { row := vlinkOnceUptoRow, standIns := [], harness := (true, "f866006465110b0c73cde1c79dd0cf13ac04b371c3eb47fda57f0ef872f9a1ee"), looks := false }, kinds := [], alts := [], laidByText := true, laidKinds := [.data, .data], laidTests := true, laidLooks := .later }
def VlinkOnceUptoCardSaid : Prop := Claim7.holds Tryd.pinned (.plain (OpenSpec.upto vlinkOnceSpec)) vlinkOnceUptoCard

/-- THE SECOND FORM's CARD OF 'rotalaw07.BusPlays'. -/
def busPlaysUptoCard : Claim7 := { stood := { row := busPlaysUptoRow, standIns := [], harness := (true, "f866006465110b0c73cde1c79dd0cf13ac04b371c3eb47fda57f0ef872f9a1ee"), looks := false }, kinds := [], alts := [], laidByText := true, laidKinds := [.data, .data], laidTests := true, laidLooks := .later }
def BusPlaysUptoCardSaid : Prop := Claim7.holds Tryd.pinned (.plain (OpenSpec.upto busPlaysSpec)) busPlaysUptoCard
end Rows
end Go.Proofs.YtmckidepbibpgaaDoor
