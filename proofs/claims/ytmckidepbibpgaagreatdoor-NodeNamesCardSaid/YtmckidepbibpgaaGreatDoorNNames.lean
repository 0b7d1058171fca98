/-
  rotalaw10.NodeNames, run: true, whatever is drawn, in each memory in which the tables stand.
-/
import Derived.Test.YtmckidepbibpgaaGreatDoorLive10
namespace Go.Proofs.YtmckidepbibpgaaGreatDoor
open Go.Proofs.YtmckidepbibpgaaGreatDoor.Ev Go.RowKit
set_option linter.unusedVariables false

theorem nnames_closed : closedO Tryz.prog known orc2 5000 5 = true := by kernel_rfl
theorem nnames_any {W : World} (h : GOk known W) : Calls Tryz.prog 5 #[] W fun e w' => e = .returned (.bool true) ∧ Below W.heap.size W w' :=
  closedO_ok (orc2_ok h) h nnames_closed
end Go.Proofs.YtmckidepbibpgaaGreatDoor
