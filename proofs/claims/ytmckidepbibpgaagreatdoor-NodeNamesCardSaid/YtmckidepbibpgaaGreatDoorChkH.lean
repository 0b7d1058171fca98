/-
  The six rules, one behind the other.
-/
import Derived.Test.YtmckidepbibpgaaGreatDoorChkF
import Derived.Test.YtmckidepbibpgaaGreatDoorChkB
import Derived.Laws.EntriesVeiled
namespace Go.Proofs.YtmckidepbibpgaaGreatDoor
open Go.RowKit Go.Deep
set_option linter.unusedVariables false

set_option maxRecDepth 100000 in
theorem rules_any (w : World) : Calls Tryz.prog 106 #[] w fun e w' =>
    e = .returned (.agg #[.int .i64 21, .func (.func 171) #[] #[], .int .i64 22, .func (.func 172) #[] #[], .int .i64 23, .func (.func 173) #[] #[],
      .int .i64 24, .func (.func 174) #[] #[], .int .i64 25, .func (.func 175) #[] #[], .int .i64 26, .func (.func 176) #[] #[]]) ∧ Below w.heap.size w w' := by
  go_enter Tryz.func106, Tryz.ntmps106
  go_wp2
  exact bodyPost_ret (results_cell_row (fn := Tryz.f106) rfl _ _ w.heap.size _ _ (0, 0) _ rfl (heap_alloc_new _ _) Tryz.underlying174 rfl (by kernel_rfl)) rfl ⟨rfl, (Below.refl _ _).alloc (Nat.le_refl _) _⟩
end Go.Proofs.YtmckidepbibpgaaGreatDoor
