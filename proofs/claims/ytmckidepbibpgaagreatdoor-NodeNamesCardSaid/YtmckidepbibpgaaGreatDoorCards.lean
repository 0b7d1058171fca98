/-
  DERIVED. GIVEN WITH THE SEED: THE CARDS: each row of YtmckidepbibpgaaGreatDoorRows.lean that lists a variable, with what it lists TIED to the program's text (the seventh form; the later family's looks); each row that meets fmt, with fmt's text TOLD by the authors' own Lean function (tested against real Go, not proved from fmt's source: count such statements apart). THE CARD IS WHAT COUNTS. Prove the row's statement (the work); the ties are given (YtmckidepbibpgaaGreatDoorTie.lean); close each card by the builder's one call (the guide's Derived/Test/ToyasCard.lean, 'card_holds'). Laid BY PROGRAM, IN A SANDBOX (cutbox-door.mjs). By AI agents, Wed Nov 11 2026. No macro, syntax, notation, axiom, sorry.
-/
import Derived.Test.YtmckidepbibpgaaGreatDoorRows
import GoSem.ClaimSeven
namespace Go.Proofs.YtmckidepbibpgaaGreatDoor
namespace Rows

/-- THE TIED CARD OF 'rotalaw05.KernPlays'. -/
def kernPlaysCard : Claim7 := { stood := { row := kernPlaysRow, standIns := [], harness := (true, "39b1ae7978a51f1f3f34a47c4c2da6b6f88d7498706282f001139a7405222753"), looks := false }, kinds := [], alts := [], laidByText := true, laidKinds := [.data, .data], laidTests := true, laidLooks := .later }
def KernPlaysCardSaid : Prop := Claim7.holds Tryz.pinned (.plain (OpenSpec.ofChange kernPlaysSpec)) kernPlaysCard

/-- THE TIED CARD OF 'rotalaw10.NodePlays'. -/
def nodePlaysCard : Claim7 := { stood := { row := nodePlaysRow, standIns := [], harness := (true, "39b1ae7978a51f1f3f34a47c4c2da6b6f88d7498706282f001139a7405222753"), looks := false }, kinds := [], alts := [], laidByText := true, laidKinds := [.data, .data, .data], laidTests := true, laidLooks := .later }
def NodePlaysCardSaid : Prop := Claim7.holds Tryz.pinned (.plain (OpenSpec.ofChange nodePlaysSpec)) nodePlaysCard

/-- THE TIED CARD OF 'rotalaw10.NodeNames'. -/
def nodeNamesCard : Claim7 := { stood := { row := nodeNamesRow, standIns := [], harness := (true, "39b1ae7978a51f1f3f34a47c4c2da6b6f88d7498706282f001139a7405222753"), looks := false }, kinds := [], alts := [], laidByText := true, laidKinds := [.data, .data, .data], laidTests := true, laidLooks := .later }
def NodeNamesCardSaid : Prop := Claim7.holds Tryz.pinned (.plain (OpenSpec.ofChange nodeNamesSpec)) nodeNamesCard

/-- THE TIED CARD OF 'rotalaw10.NodeLate'. -/
def nodeLateCard : Claim7 := { stood := { row := nodeLateRow, standIns := [], harness := (true, "39b1ae7978a51f1f3f34a47c4c2da6b6f88d7498706282f001139a7405222753"), looks := false }, kinds := [], alts := [], laidByText := true, laidKinds := [.data, .data, .data], laidTests := true, laidLooks := .later }
def NodeLateCardSaid : Prop := Claim7.holds Tryz.pinned (.plain (OpenSpec.ofChange nodeLateSpec)) nodeLateCard

/-- THE SECOND FORM's CARD OF 'rotalaw05.KernPlays'. -/
def kernPlaysUptoCard : Claim7 := { stood := { row := kernPlaysUptoRow, standIns := [], harness := (true, "39b1ae7978a51f1f3f34a47c4c2da6b6f88d7498706282f001139a7405222753"), looks := false }, kinds := [], alts := [], laidByText := true, laidKinds := [.data, .data], laidTests := true, laidLooks := .later }
def KernPlaysUptoCardSaid : Prop := Claim7.holds Tryz.pinned (.plain (OpenSpec.upto kernPlaysSpec)) kernPlaysUptoCard

/-- THE SECOND FORM's CARD OF 'rotalaw10.NodePlays'. -/
def nodePlaysUptoCard : Claim7 := { stood := { row := nodePlaysUptoRow, standIns := [], harness := (true, "39b1ae7978a51f1f3f34a47c4c2da6b6f88d7498706282f001139a7405222753"), looks := false }, kinds := [], alts := [], laidByText := true, laidKinds := [.data, .data, .data], laidTests := true, laidLooks := .later }
def NodePlaysUptoCardSaid : Prop := Claim7.holds Tryz.pinned (.plain (OpenSpec.upto nodePlaysSpec)) nodePlaysUptoCard

/-- THE SECOND FORM's CARD OF 'rotalaw10.NodeNames'. -/
def nodeNamesUptoCard : Claim7 := { stood := { row := nodeNamesUptoRow, standIns := [], harness := (true, "39b1ae7978a51f1f3f34a47c4c2da6b6f88d7498706282f001139a7405222753"), looks := false }, kinds := [], alts := [], laidByText := true, laidKinds := [.data, .data, .data], laidTests := true, laidLooks := .later }
def NodeNamesUptoCardSaid : Prop := Claim7.holds Tryz.pinned (.plain (OpenSpec.upto nodeNamesSpec)) nodeNamesUptoCard

/-- THE SECOND FORM's CARD OF 'rotalaw10.NodeLate'. -/
def nodeLateUptoCard : Claim7 := { stood := { row := nodeLateUptoRow, standIns := [], harness := (true, "39b1ae7978a51f1f3f34a47c4c2da6b6f88d7498706282f001139a7405222753"), looks := false }, kinds := [], alts := [], laidByText := true, laidKinds := [.data, .data, .data], laidTests := true, laidLooks := .later }
def NodeLateUptoCardSaid : Prop := Claim7.holds Tryz.pinned (.plain (OpenSpec.upto nodeLateSpec)) nodeLateUptoCard
end Rows
end Go.Proofs.YtmckidepbibpgaaGreatDoor
