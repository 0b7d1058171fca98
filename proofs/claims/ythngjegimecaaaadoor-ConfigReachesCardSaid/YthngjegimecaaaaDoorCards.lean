/-
  DERIVED. GIVEN WITH THE SEED: THE CARDS: each row of YthngjegimecaaaaDoorRows.lean that lists a variable, with what it lists TIED to the program's text (the seventh form; the later family's looks); each row that meets fmt, with fmt's text TOLD by the authors' own Lean function (tested against real Go, not proved from fmt's source: count such statements apart). THE CARD IS WHAT COUNTS. Prove the row's statement (the work); the ties are given (YthngjegimecaaaaDoorTie.lean); close each card by the builder's one call (the guide's Derived/Test/ToyasCard.lean, 'card_holds'). Laid BY PROGRAM, IN A SANDBOX (cutbox-door.mjs). By AI agents, Wed Nov 11 2026. No macro, syntax, notation, axiom, sorry.
-/
import Derived.Test.YthngjegimecaaaaDoorRows
import GoSem.ClaimSeven
namespace Go.Proofs.YthngjegimecaaaaDoor
namespace Rows

/-- THE TIED CARD OF 'rotalaw02.ConfigReaches'. -/
def configReachesCard : Claim7 := { stood := { row := configReachesRow, standIns := [], harness := (true, "61f4cdce9d951f6ef98931e69330e3f23a2b19b15478ef3d16ff01c2dada7e66"), looks := false }, kinds := [], alts := [], laidByText := true, laidKinds := [.data, .data], laidTests := true, laidLooks := .later }
def ConfigReachesCardSaid : Prop := Claim7.holds Tryd.pinned (.plain (OpenSpec.ofChange configReachesSpec)) configReachesCard

/-- THE SECOND FORM's CARD OF 'rotalaw02.ConfigReaches'. -/
def configReachesUptoCard : Claim7 := { stood := { row := configReachesUptoRow, standIns := [], harness := (true, "61f4cdce9d951f6ef98931e69330e3f23a2b19b15478ef3d16ff01c2dada7e66"), looks := false }, kinds := [], alts := [], laidByText := true, laidKinds := [.data, .data], laidTests := true, laidLooks := .later }
def ConfigReachesUptoCardSaid : Prop := Claim7.holds Tryd.pinned (.plain (OpenSpec.upto configReachesSpec)) configReachesUptoCard
end Rows
end Go.Proofs.YthngjegimecaaaaDoor
