/-
  The six rules, one behind the other.
-/
import Derived.Test.YthngjegimecaaaaDoorChkF
import Derived.Test.YthngjegimecaaaaDoorChkB
import Derived.Laws.EntriesVeiled
namespace Go.Proofs.YthngjegimecaaaaDoor
open Go.RowKit Go.Deep
set_option linter.unusedVariables false

set_option maxRecDepth 100000 in
theorem rules_any (w : World) : Calls Tryd.prog 14 #[] w fun e w' =>
    e = .returned (.agg #[.int .i64 21, .func (.func 17) #[] #[], .int .i64 22, .func (.func 18) #[] #[], .int .i64 23, .func (.func 19) #[] #[],
      .int .i64 24, .func (.func 20) #[] #[], .int .i64 25, .func (.func 21) #[] #[], .int .i64 26, .func (.func 22) #[] #[]]) ∧ Below w.heap.size w w' := by
  go_enter Tryd.func14, Tryd.ntmps14
  go_wp2
  exact bodyPost_ret (results_cell_row (fn := Tryd.f14) rfl _ _ w.heap.size _ _ (0, 0) _ rfl (heap_alloc_new _ _) Tryd.underlying49 rfl (by kernel_rfl)) rfl ⟨rfl, (Below.refl _ _).alloc (Nat.le_refl _) _⟩
end Go.Proofs.YthngjegimecaaaaDoor
