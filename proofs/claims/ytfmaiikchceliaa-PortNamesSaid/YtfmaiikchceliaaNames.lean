/-
  PortNames: a closed call: the evaluator's run, in the kernel, answers true; its soundness makes the call's own answer of that.
-/
import Derived.Test.YtfmaiikchceliaaEvE
import Derived.Test.YtfmaiikchceliaaProg
import Derived.KernelRfl
namespace Go.Proofs.Ytfmaiikchceliaa
open Go.Proofs.Ytfmaiikchceliaa.Ev Go.RowKit
set_option linter.unusedVariables false

theorem names_closed : closedB Try.prog [] 3000 4 = true := by kernel_rfl
theorem names_any (w : World) : Calls Try.prog 4 #[] w fun e w' => e = .returned (.bool true) ∧ Below w.heap.size w w' := closed_ok gok_nil names_closed
end Go.Proofs.Ytfmaiikchceliaa
