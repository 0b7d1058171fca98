/-
  rotalaw02.alive, run: true, whatever is drawn, in each memory in which the two tables stand.
-/
import Derived.Test.YteakpfgociakdaaDoorDoor
namespace Go.Proofs.YteakpfgociakdaaDoor
open Go.Proofs.YteakpfgociakdaaDoor.Ev Go.RowKit
set_option linter.unusedVariables false

theorem alive2_closed : closedO Tryd.prog known orc 3000 20 = true := by kernel_rfl
theorem alive2_any {W : World} (h : GOk known W) : Calls Tryd.prog 20 #[] W fun e w' => e = .returned (.bool true) ∧ Below W.heap.size W w' :=
  closedO_ok (orc_ok h) h alive2_closed
end Go.Proofs.YteakpfgociakdaaDoor
