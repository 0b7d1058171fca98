/-
  rotalaw07.alive, run: true, whatever is drawn, in each memory in which the two tables stand.
-/
import Derived.Test.YtbeggdahbhfhpaaDoorDoorS
namespace Go.Proofs.YtbeggdahbhfhpaaDoor
open Go.Proofs.YtbeggdahbhfhpaaDoor.Ev Go.RowKit
set_option linter.unusedVariables false

theorem alive7_closed : closedO Tryd.prog known orc 3000 15 = true := by kernel_rfl
theorem alive7_any {W : World} (h : GOk known W) : Calls Tryd.prog 15 #[] W fun e w' => e = .returned (.bool true) ∧ Below W.heap.size W w' :=
  closedO_ok (orc_ok h) h alive7_closed
end Go.Proofs.YtbeggdahbhfhpaaDoor
