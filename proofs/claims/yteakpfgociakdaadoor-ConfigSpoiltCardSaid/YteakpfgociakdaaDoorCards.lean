/-
  DERIVED. GIVEN WITH THE SEED: THE CARDS: each row of YteakpfgociakdaaDoorRows.lean that lists a variable, with what it lists TIED to the program's text (the seventh form; the later family's looks); each row that meets fmt, with fmt's text TOLD by the authors' own Lean function (tested against real Go, not proved from fmt's source: count such statements apart). THE CARD IS WHAT COUNTS. Prove the row's statement (the work); the ties are given (YteakpfgociakdaaDoorTie.lean); close each card by the builder's one call (the guide's Derived/Test/ToyasCard.lean, 'card_holds'). Laid BY PROGRAM, IN A SANDBOX (cutbox-door.mjs). By AI agents, Wed Nov 11 2026. No macro, syntax, notation, axiom, sorry.
-/
import Derived.Test.YteakpfgociakdaaDoorRows
import GoSem.ClaimSeven
namespace Go.Proofs.YteakpfgociakdaaDoor
namespace Rows

/-- THE TIED CARD OF 'rotalaw02.ConfigChecks'. -/
def configChecksCard : Claim7 := { stood := { row := configChecksRow, standIns := [], harness := (true, "7d4a40b8a7e38ae885bc6e1338817542abd9446740efd7d80fc1c789145f014a"), looks := false }, kinds := [], alts := [], laidByText := true, laidKinds := [.data, .data], laidTests := true, laidLooks := .later }
def ConfigChecksCardSaid : Prop := Claim7.holds Tryd.pinned (.plain (OpenSpec.ofChange configChecksSpec)) configChecksCard

/-- THE TIED CARD OF 'rotalaw02.ConfigReaches'. -/
def configReachesCard : Claim7 := { stood := { row := configReachesRow, standIns := [], harness := (true, "7d4a40b8a7e38ae885bc6e1338817542abd9446740efd7d80fc1c789145f014a"), looks := false }, kinds := [], alts := [], laidByText := true, laidKinds := [.data, .data], laidTests := true, laidLooks := .later }
def ConfigReachesCardSaid : Prop := Claim7.holds Tryd.pinned (.plain (OpenSpec.ofChange configReachesSpec)) configReachesCard

/-- THE TIED CARD OF 'rotalaw02.ConfigClosed'. -/
def configClosedCard : Claim7 := { stood := { row := configClosedRow, standIns := [], harness := (true, "7d4a40b8a7e38ae885bc6e1338817542abd9446740efd7d80fc1c789145f014a"), looks := false }, kinds := [], alts := [], laidByText := true, laidKinds := [.data, .data], laidTests := true, laidLooks := .later }
def ConfigClosedCardSaid : Prop := Claim7.holds Tryd.pinned (.plain (OpenSpec.ofChange configClosedSpec)) configClosedCard

/-- THE TIED CARD OF 'rotalaw02.ConfigSpoilt'. -/
def configSpoiltCard : Claim7 := { stood := { row := configSpoiltRow, standIns := [], harness := (true, "7d4a40b8a7e38ae885bc6e1338817542abd9446740efd7d80fc1c789145f014a"), looks := false }, kinds := [], alts := [], laidByText := true, laidKinds := [.data, .data], laidTests := true, laidLooks := .later }
def ConfigSpoiltCardSaid : Prop := Claim7.holds Tryd.pinned (.plain (OpenSpec.ofChange configSpoiltSpec)) configSpoiltCard

/-- THE SECOND FORM's CARD OF 'rotalaw02.ConfigChecks'. -/
def configChecksUptoCard : Claim7 := { stood := { row := configChecksUptoRow, standIns := [], harness := (true, "7d4a40b8a7e38ae885bc6e1338817542abd9446740efd7d80fc1c789145f014a"), looks := false }, kinds := [], alts := [], laidByText := true, laidKinds := [.data, .data], laidTests := true, laidLooks := .later }
def ConfigChecksUptoCardSaid : Prop := Claim7.holds Tryd.pinned (.plain (OpenSpec.upto configChecksSpec)) configChecksUptoCard

/-- THE SECOND FORM's CARD OF 'rotalaw02.ConfigReaches'. -/
def configReachesUptoCard : Claim7 := { stood := { row := configReachesUptoRow, standIns := [], harness := (true, "7d4a40b8a7e38ae885bc6e1338817542abd9446740efd7d80fc1c789145f014a"), looks := false }, kinds := [], alts := [], laidByText := true, laidKinds := [.data, .data], laidTests := true, laidLooks := .later }
def ConfigReachesUptoCardSaid : Prop := Claim7.holds Tryd.pinned (.plain (OpenSpec.upto configReachesSpec)) configReachesUptoCard

/-- THE SECOND FORM's CARD OF 'rotalaw02.ConfigClosed'. -/
def configClosedUptoCard : Claim7 := { stood := { row := configClosedUptoRow, standIns := [], harness := (true, "7d4a40b8a7e38ae885bc6e1338817542abd9446740efd7d80fc1c789145f014a"), looks := false }, kinds := [], alts := [], laidByText := true, laidKinds := [.data, .data], laidTests := true, laidLooks := .later }
def ConfigClosedUptoCardSaid : Prop := Claim7.holds Tryd.pinned (.plain (OpenSpec.upto configClosedSpec)) configClosedUptoCard

/-- THE SECOND FORM's CARD OF 'rotalaw02.ConfigSpoilt'. -/
def configSpoiltUptoCard : Claim7 := { stood := { row := configSpoiltUptoRow, standIns := [], harness := (true, "7d4a40b8a7e38ae885bc6e1338817542abd9446740efd7d80fc1c789145f014a"), looks := false }, kinds := [], alts := [], laidByText := true, laidKinds := [.data, .data], laidTests := true, laidLooks := .later }
def ConfigSpoiltUptoCardSaid : Prop := Claim7.holds Tryd.pinned (.plain (OpenSpec.upto configSpoiltSpec)) configSpoiltUptoCard
end Rows
end Go.Proofs.YteakpfgociakdaaDoor
