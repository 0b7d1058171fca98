/-
  What 'alive' answers: a closed call, told by the evaluator's run in the kernel.
-/
import Derived.Test.YtdennekkbdlhdaaDoorEvE
import Derived.Test.YtdennekkbdlhdaaDoorProg
import Derived.KernelRfl
namespace Go.Proofs.YtdennekkbdlhdaaDoor
open Go.Proofs.YtdennekkbdlhdaaDoor.Ev Go.RowKit
set_option linter.unusedVariables false

theorem alive_closed : closedB Tryd.prog [] 3000 5 = true := by kernel_rfl
theorem alive_any (w : World) : Calls Tryd.prog 5 #[] w fun e w' => e = .returned (.bool true) ∧ Below w.heap.size w w' := closed_ok gok_nil alive_closed
end Go.Proofs.YtdennekkbdlhdaaDoor
