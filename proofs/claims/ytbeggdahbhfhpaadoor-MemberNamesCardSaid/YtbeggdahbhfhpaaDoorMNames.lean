/-
  rotalaw09.MemberNames, run: true, whatever is drawn, in each memory in which the tables stand.
-/
import Derived.Test.YtbeggdahbhfhpaaDoorDoor
namespace Go.Proofs.YtbeggdahbhfhpaaDoor
open Go.Proofs.YtbeggdahbhfhpaaDoor.Ev Go.RowKit
set_option linter.unusedVariables false

theorem mnames_closed : closedO Tryd.prog known orc 5000 6 = true := by kernel_rfl
theorem mnames_any {W : World} (h : GOk known W) : Calls Tryd.prog 6 #[] W fun e w' => e = .returned (.bool true) ∧ Below W.heap.size W w' :=
  closedO_ok (orc_ok h) h mnames_closed
end Go.Proofs.YtbeggdahbhfhpaaDoor
