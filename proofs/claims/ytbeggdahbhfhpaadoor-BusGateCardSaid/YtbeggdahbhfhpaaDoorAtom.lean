/-
  atomic.Uint64's Add and Load, in one goroutine.
-/
import Derived.Test.YtbeggdahbhfhpaaDoorProg
import Derived.WalkKit
import Derived.Laws.Pointers
import Derived.Laws.LoneSync
import Derived.Laws.NewBlocks
import Derived.RegionTactic
import Derived.RegionCalls
import Derived.ChangeAlike
namespace Go.Proofs.YtbeggdahbhfhpaaDoor
open Go.RowKit
set_option linter.unusedVariables false

/-- atomic.Uint64's Add -/
theorem uadd (a : Addr) (x y : Nat) (w : World) (hx : x + y < 18446744073709551616) (hc : w.cell? a = some (.int .u64 (x : Int))) (hz : w.frozen? a = false) :
    Calls Tryd.prog 98 #[.pointer (some a), .int .u64 (y : Int)] w fun e w' => e = .returned (.int .u64 ((x + y : Nat) : Int)) ∧ w.setCell a (.int .u64 ((x + y : Nat) : Int)) = w' := by
  have hadd := run_call_add (P := Tryd.prog) Tryd.func135 (by kernel_rfl) (by kernel_rfl) (by kernel_rfl) .u64 (by kernel_rfl) (y := (y : Int)) (s := ((x + y : Nat) : Int)) hc hz (by
    simp [go_sem, IntKind.wrap, IntKind.bits, IntKind.signed]
    omega)
  clear hx
  go_enter Tryd.func98, Tryd.ntmps98
  go_wp2
  go_ret
  exact ⟨rfl, rfl⟩
theorem uadd_at (a : Addr) (x y : Nat) (yi : Int) (hyi : yi = (y : Int)) (w : World) (hx : x + y < 18446744073709551616) (hc : w.cell? a = some (.int .u64 (x : Int))) (hz : w.frozen? a = false) :
    Calls Tryd.prog 98 #[.pointer (some a), .int .u64 yi] w fun e w' => e = .returned (.int .u64 ((x + y : Nat) : Int)) ∧ w.setCell a (.int .u64 ((x + y : Nat) : Int)) = w' := by
  subst hyi; exact uadd a x y w hx hc hz
/-- atomic.Uint64's Load -/
theorem uload (a : Addr) (x : Int) (w : World) (hc : w.cell? a = some (.int .u64 x)) :
    Calls Tryd.prog 56 #[.pointer (some a)] w fun e w' => e = .returned (.int .u64 x) ∧ w = w' := by
  have hl := run_call_load (P := Tryd.prog) Tryd.func102 (by kernel_rfl) (by kernel_rfl) (by kernel_rfl) .u64 (by kernel_rfl) hc
  go_enter Tryd.func56, Tryd.ntmps56
  go_wp2
  go_ret
  exact ⟨rfl, rfl⟩
end Go.Proofs.YtbeggdahbhfhpaaDoor
