/-
  rotalaw02.alive, run: true, whatever is drawn, in each memory in which the two tables stand.
-/
import Derived.Test.YtbodpnggkihllaaDoorDoor
namespace Go.Proofs.YtbodpnggkihllaaDoor
open Go.Proofs.YtbodpnggkihllaaDoor.Ev Go.RowKit
set_option linter.unusedVariables false

theorem alive2_closed : closedO Tryd.prog known orc 3000 19 = true := by kernel_rfl
theorem alive2_any {W : World} (h : GOk known W) : Calls Tryd.prog 19 #[] W fun e w' => e = .returned (.bool true) ∧ Below W.heap.size W w' :=
  closedO_ok (orc_ok h) h alive2_closed
end Go.Proofs.YtbodpnggkihllaaDoor
