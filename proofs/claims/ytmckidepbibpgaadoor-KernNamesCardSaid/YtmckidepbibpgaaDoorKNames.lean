/-
  rotalaw05.KernNames, run: true, whatever is drawn, in each memory in which the tables stand.
-/
import Derived.Test.YtmckidepbibpgaaDoorDoor
namespace Go.Proofs.YtmckidepbibpgaaDoor
open Go.Proofs.YtmckidepbibpgaaDoor.Ev Go.RowKit
set_option linter.unusedVariables false

theorem knames_closed : closedO Tryd.prog known orc 5000 3 = true := by kernel_rfl
theorem knames_any {W : World} (h : GOk known W) : Calls Tryd.prog 3 #[] W fun e w' => e = .returned (.bool true) ∧ Below W.heap.size W w' :=
  closedO_ok (orc_ok h) h knames_closed
end Go.Proofs.YtmckidepbibpgaaDoor
