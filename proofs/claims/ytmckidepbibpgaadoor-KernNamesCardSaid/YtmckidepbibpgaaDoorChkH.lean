/-
  The six rules, one behind the other.
-/
import Derived.Test.YtmckidepbibpgaaDoorChkF
import Derived.Test.YtmckidepbibpgaaDoorChkB
import Derived.Laws.EntriesVeiled
namespace Go.Proofs.YtmckidepbibpgaaDoor
open Go.RowKit Go.Deep
set_option linter.unusedVariables false

set_option maxRecDepth 100000 in
theorem rules_any (w : World) : Calls Tryd.prog 59 #[] w fun e w' =>
    e = .returned (.agg #[.int .i64 21, .func (.func 82) #[] #[], .int .i64 22, .func (.func 83) #[] #[], .int .i64 23, .func (.func 84) #[] #[],
      .int .i64 24, .func (.func 85) #[] #[], .int .i64 25, .func (.func 86) #[] #[], .int .i64 26, .func (.func 87) #[] #[]]) ∧ Below w.heap.size w w' := by
  go_enter Tryd.func59, Tryd.ntmps59
  go_wp2
  exact bodyPost_ret (results_cell_row (fn := Tryd.f59) rfl _ _ w.heap.size _ _ (0, 0) _ rfl (heap_alloc_new _ _) Tryd.underlying146 rfl (by kernel_rfl)) rfl ⟨rfl, (Below.refl _ _).alloc (Nat.le_refl _) _⟩
end Go.Proofs.YtmckidepbibpgaaDoor
