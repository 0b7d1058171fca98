/-
  The first two rows of the errors' table: nodes and owners, and clocks.
-/
import Derived.Test.YthngjegimecaaaaDoorCfgSmall
namespace Go.Proofs.YthngjegimecaaaaDoor
open Go.RowKit Go.Deep
set_option linter.unusedVariables false

/-- the first row -/
def NodesOk (c : Conf) : Prop := 4 ≤ c.nodes ∧ c.nodes ≤ 16 ∧ (c.owners.length : Int) = c.nodes ∧ ∀ n : Nat, n < c.owners.length → c.owners.count (n : Int) = 1
instance (c : Conf) : Decidable (NodesOk c) := by unfold NodesOk; infer_instance

end Go.Proofs.YthngjegimecaaaaDoor
