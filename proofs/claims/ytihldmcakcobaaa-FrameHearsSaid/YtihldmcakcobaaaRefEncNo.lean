/-
  The document's own Encode, of what may not be sent; and its own look at a sum.
-/
import Derived.Test.YtihldmcakcobaaaOnto
import Derived.Test.YtihldmcakcobaaaRefSum
namespace Go.Proofs.Ytihldmcakcobaaa
open Go.RowKit
set_option linter.unusedVariables false

set_option maxRecDepth 100000 in
set_option maxHeartbeats 1000000 in
theorem renc_no (o s m : Int) (p : List Nat) (w : World) (hp : p.length = 64) (ho : (Lit.int .i64 o).wf = true) (hs : (Lit.int .i64 s).wf = true) (hbad : ¬ (0 ≤ o ∧ o < 16 ∧ 0 ≤ s ∧ s ≤ 2147483647)) :
    Calls Try.prog 12 #[.agg (frv o s m p)] w fun e w' => e = .returned (.tuple #[.slice none 0 0, .int .i64 2]) ∧ Below w.heap.size w w' := by
  have a0 : (w.alloc (.cells (frv o s m p) 27)).cell? ⟨w.heap.size, 0, none⟩ = some (.int .i64 o) := by rw [cell_of_row _ _ _ _ _ _ (heap_alloc_new w _)]; exact frv_0 _ _ _ _
  have a1 : (w.alloc (.cells (frv o s m p) 27)).cell? ⟨w.heap.size, 1, none⟩ = some (.int .i64 s) := by rw [cell_of_row _ _ _ _ _ _ (heap_alloc_new w _)]; exact frv_1 _ _ _ _
  have hb := bal w (.cells (frv o s m p) 27)
  generalize frv o s m p = F at a0 a1 hb
  obtain ⟨w1, hw1⟩ : ∃ w1, w.alloc (.cells F 27) = w1 := ⟨_, rfl⟩
  rw [hw1] at a0 a1 hb
  go_enter Try.func12, Try.ntmps12
  by_cases h1 : o < 0
  · go_wp2
    go_ret2
    exact ⟨rfl, hb⟩
  · by_cases h2 : 15 < o
    · go_wp2
      go_ret2
      exact ⟨rfl, hb⟩
    · by_cases h3 : s < 0
      · go_wp2
        go_ret2
        exact ⟨rfl, hb⟩
      · have h4 : 2147483647 < s := by omega
        go_wp2
        go_ret2
        exact ⟨rfl, hb⟩
end Go.Proofs.Ytihldmcakcobaaa
