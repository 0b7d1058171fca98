/-
  rotalaw06.VlinkNames, run: true, whatever is drawn, in each memory in which the two tables stand.
-/
import Derived.Test.YtlaapomhmficiaaDoorDoor
namespace Go.Proofs.YtlaapomhmficiaaDoor
open Go.Proofs.YtlaapomhmficiaaDoor.Ev Go.RowKit
set_option linter.unusedVariables false

theorem vnames_closed : closedO Tryd.prog known orc 3000 7 = true := by kernel_rfl
theorem vnames_any {W : World} (h : GOk known W) : Calls Tryd.prog 7 #[] W fun e w' => e = .returned (.bool true) ∧ Below W.heap.size W w' :=
  closedO_ok (orc_ok h) h vnames_closed
end Go.Proofs.YtlaapomhmficiaaDoor
