/-
  The six rules, one behind the other.
-/
import Derived.Test.YtbodpnggkihllaaDoorChkF
import Derived.Test.YtbodpnggkihllaaDoorChkB
import Derived.Laws.EntriesVeiled
namespace Go.Proofs.YtbodpnggkihllaaDoor
open Go.RowKit Go.Deep
set_option linter.unusedVariables false

set_option maxRecDepth 100000 in
theorem rules_any (w : World) : Calls Tryd.prog 20 #[] w fun e w' =>
    e = .returned (.agg #[.int .i64 21, .func (.func 34) #[] #[], .int .i64 22, .func (.func 35) #[] #[], .int .i64 23, .func (.func 36) #[] #[],
      .int .i64 24, .func (.func 37) #[] #[], .int .i64 25, .func (.func 38) #[] #[], .int .i64 26, .func (.func 39) #[] #[]]) ∧ Below w.heap.size w w' := by
  go_enter Tryd.func20, Tryd.ntmps20
  go_wp2
  exact bodyPost_ret (results_cell_row (fn := Tryd.f20) rfl _ _ w.heap.size _ _ (0, 0) _ rfl (heap_alloc_new _ _) Tryd.underlying47 rfl (by kernel_rfl)) rfl ⟨rfl, (Below.refl _ _).alloc (Nat.le_refl _) _⟩
end Go.Proofs.YtbodpnggkihllaaDoor
