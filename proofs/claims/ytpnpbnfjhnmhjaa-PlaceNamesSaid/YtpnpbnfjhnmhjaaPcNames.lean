/-
  PlaceNames: a closed call: the evaluator's run, in the kernel, answers true; its soundness makes the call's own answer of that.
-/
import Derived.Test.YtpnpbnfjhnmhjaaEvE
import Derived.Test.YtpnpbnfjhnmhjaaProg
import Derived.KernelRfl
namespace Go.Proofs.Ytpnpbnfjhnmhjaa
open Go.Proofs.Ytpnpbnfjhnmhjaa.Ev Go.RowKit
set_option linter.unusedVariables false

theorem names_closed : closedB Try.prog [] 3000 5 = true := by kernel_rfl
theorem names_any (w : World) : Calls Try.prog 5 #[] w fun e w' => e = .returned (.bool true) ∧ Below w.heap.size w w' := closed_ok gok_nil names_closed
end Go.Proofs.Ytpnpbnfjhnmhjaa
