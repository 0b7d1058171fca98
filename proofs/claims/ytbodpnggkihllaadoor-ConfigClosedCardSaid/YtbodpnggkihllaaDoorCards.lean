/-
  DERIVED. GIVEN WITH THE SEED: THE CARDS: each row of YtbodpnggkihllaaDoorRows.lean that lists a variable, with what it lists TIED to the program's text (the seventh form; the later family's looks); each row that meets fmt, with fmt's text TOLD by the authors' own Lean function (tested against real Go, not proved from fmt's source: count such statements apart). THE CARD IS WHAT COUNTS. Prove the row's statement (the work); the ties are given (YtbodpnggkihllaaDoorTie.lean); close each card by the builder's one call (the guide's Derived/Test/ToyasCard.lean, 'card_holds'). Laid BY PROGRAM, IN A SANDBOX (cutbox-door.mjs). By AI agents, Wed Nov 11 2026. No macro, syntax, notation, axiom, sorry.
-/
import Derived.Test.YtbodpnggkihllaaDoorRows
import GoSem.ClaimSeven
namespace Go.Proofs.YtbodpnggkihllaaDoor
namespace Rows

/-- THE TIED CARD OF 'rotalaw02.ConfigChecks'. -/
def configChecksCard : Claim7 := { stood := { row := configChecksRow, standIns := [], harness := (true, "21cf5d5b2a8cbad7c0cd81fb89ab2ec72d25b43385f3fc53449ab52e83eab1e7"), looks := false }, kinds := [], alts := [], laidByText := true, laidKinds := [.data, .data], laidTests := true, laidLooks := .later }
def ConfigChecksCardSaid : Prop := Claim7.holds Tryd.pinned (.plain (OpenSpec.ofChange configChecksSpec)) configChecksCard

/-- THE TIED CARD OF 'rotalaw02.ConfigReaches'. -/
def configReachesCard : Claim7 := { stood := { row := configReachesRow, standIns := [], harness := (true, "21cf5d5b2a8cbad7c0cd81fb89ab2ec72d25b43385f3fc53449ab52e83eab1e7"), looks := false }, kinds := [], alts := [], laidByText := true, laidKinds := [.data, .data], laidTests := true, laidLooks := .later }
def ConfigReachesCardSaid : Prop := Claim7.holds Tryd.pinned (.plain (OpenSpec.ofChange configReachesSpec)) configReachesCard

/-- THE TIED CARD OF 'rotalaw02.ConfigClosed'. -/
def configClosedCard : Claim7 := { stood := { row := configClosedRow, standIns := [], harness := (true, "21cf5d5b2a8cbad7c0cd81fb89ab2ec72d25b43385f3fc53449ab52e83eab1e7"), looks := false }, kinds := [], alts := [], laidByText := true, laidKinds := [.data, .data], laidTests := true, laidLooks := .later }
def ConfigClosedCardSaid : Prop := Claim7.holds Tryd.pinned (.plain (OpenSpec.ofChange configClosedSpec)) configClosedCard

/-- THE SECOND FORM's CARD OF 'rotalaw02.ConfigChecks'. -/
def configChecksUptoCard : Claim7 := { stood := { row := configChecksUptoRow, standIns := [], harness := (true, "21cf5d5b2a8cbad7c0cd81fb89ab2ec72d25b43385f3fc53449ab52e83eab1e7"), looks := false }, kinds := [], alts := [], laidByText := true, laidKinds := [.data, .data], laidTests := true, laidLooks := .later }
def ConfigChecksUptoCardSaid : Prop := Claim7.holds Tryd.pinned (.plain (OpenSpec.upto configChecksSpec)) configChecksUptoCard

/-- THE SECOND FORM's CARD OF 'rotalaw02.ConfigReaches'. -/
def configReachesUptoCard : Claim7 := { stood := { row := configReachesUptoRow, standIns := [], harness := (true, "21cf5d5b2a8cbad7c0cd81fb89ab2ec72d25b43385f3fc53449ab52e83eab1e7"), looks := false }, kinds := [], alts := [], laidByText := true, laidKinds := [.data, .data], laidTests := true, laidLooks := .later }
def ConfigReachesUptoCardSaid : Prop := Claim7.holds Tryd.pinned (.plain (OpenSpec.upto configReachesSpec)) configReachesUptoCard

/-- THE SECOND FORM's CARD OF 'rotalaw02.ConfigClosed'. -/
def configClosedUptoCard : Claim7 := { stood := { row := configClosedUptoRow, standIns := [], harness := (true, "21cf5d5b2a8cbad7c0cd81fb89ab2ec72d25b43385f3fc53449ab52e83eab1e7"), looks := false }, kinds := [], alts := [], laidByText := true, laidKinds := [.data, .data], laidTests := true, laidLooks := .later }
def ConfigClosedUptoCardSaid : Prop := Claim7.holds Tryd.pinned (.plain (OpenSpec.upto configClosedSpec)) configClosedUptoCard
end Rows
end Go.Proofs.YtbodpnggkihllaaDoor
