/-
  rotalaw08.ClockNames, run: true, whatever is drawn, in each memory in which the two tables stand.
-/
import Derived.Test.YtdfpeilflinmhaaDoorDoor
namespace Go.Proofs.YtdfpeilflinmhaaDoor
open Go.Proofs.YtdfpeilflinmhaaDoor.Ev Go.RowKit
set_option linter.unusedVariables false

theorem cnames_closed : closedO Tryd.prog known orc 3000 9 = true := by kernel_rfl
theorem cnames_any {W : World} (h : GOk known W) : Calls Tryd.prog 9 #[] W fun e w' => e = .returned (.bool true) ∧ Below W.heap.size W w' :=
  closedO_ok (orc_ok h) h cnames_closed
end Go.Proofs.YtdfpeilflinmhaaDoor
