/-
  RingNames: a closed call: the evaluator's run, in the kernel, answers true; its soundness makes the call's own answer of that.
-/
import Derived.Test.YtmplioglihmkjaaEvE
import Derived.Test.YtmplioglihmkjaaProg
import Derived.KernelRfl
namespace Go.Proofs.Ytmplioglihmkjaa
open Go.Proofs.Ytmplioglihmkjaa.Ev Go.RowKit
set_option linter.unusedVariables false

theorem names_closed : closedB Try.prog [] 3000 6 = true := by kernel_rfl
theorem names_any (w : World) : Calls Try.prog 6 #[] w fun e w' => e = .returned (.bool true) ∧ Below w.heap.size w w' := closed_ok gok_nil names_closed
end Go.Proofs.Ytmplioglihmkjaa
