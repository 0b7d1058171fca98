/-
  The six rules, one behind the other.
-/
import Derived.Test.YtlaapomhmficiaaDoorChkF
import Derived.Test.YtlaapomhmficiaaDoorChkB
import Derived.Laws.EntriesVeiled
namespace Go.Proofs.YtlaapomhmficiaaDoor
open Go.RowKit Go.Deep
set_option linter.unusedVariables false

set_option maxRecDepth 100000 in
theorem rules_any (w : World) : Calls Tryd.prog 56 #[] w fun e w' =>
    e = .returned (.agg #[.int .i64 21, .func (.func 77) #[] #[], .int .i64 22, .func (.func 78) #[] #[], .int .i64 23, .func (.func 79) #[] #[],
      .int .i64 24, .func (.func 80) #[] #[], .int .i64 25, .func (.func 81) #[] #[], .int .i64 26, .func (.func 82) #[] #[]]) ∧ Below w.heap.size w w' := by
  go_enter Tryd.func56, Tryd.ntmps56
  go_wp2
  exact bodyPost_ret (results_cell_row (fn := Tryd.f56) rfl _ _ w.heap.size _ _ (0, 0) _ rfl (heap_alloc_new _ _) Tryd.underlying128 rfl (by kernel_rfl)) rfl ⟨rfl, (Below.refl _ _).alloc (Nat.le_refl _) _⟩
end Go.Proofs.YtlaapomhmficiaaDoor
