/-
  rotalaw06.alive, run: true, whatever is drawn, in each memory in which the two tables stand.
-/
import Derived.Test.YtdfpeilflinmhaaDoorDoor
namespace Go.Proofs.YtdfpeilflinmhaaDoor
open Go.Proofs.YtdfpeilflinmhaaDoor.Ev Go.RowKit
set_option linter.unusedVariables false

theorem alive6_closed : closedO Tryd.prog known orc 3000 12 = true := by kernel_rfl
theorem alive6_any {W : World} (h : GOk known W) : Calls Tryd.prog 12 #[] W fun e w' => e = .returned (.bool true) ∧ Below W.heap.size W w' :=
  closedO_ok (orc_ok h) h alive6_closed
end Go.Proofs.YtdfpeilflinmhaaDoor
