/-
  The document's own bytes of a state.
-/
import Derived.Test.YtihldmcakcobaaaBuf
namespace Go.Proofs.Ytihldmcakcobaaa
open Go.RowKit
set_option linter.unusedVariables false

set_option maxRecDepth 100000 in
set_option maxHeartbeats 2000000 in
theorem rstate_any (z m : Int) (w : World) (hz : (Lit.int .i64 z).wf = true) (hm : (Lit.int .u16 m).wf = true) :
    Calls Try.prog 22 #[.agg #[.int .i64 z, .int .u16 m]] w fun e w' => ∃ g, e = .returned (.slice (some ⟨g, 0, none⟩) 6 6) ∧ w'.heap[g]? = some (.cells (bys (st z m)) 5 (0, 0)) ∧ w.heap.size ≤ g ∧ Below w.heap.size w w' := by
  have hb := bounds_u16 hm
  have hbz := bounds_i64 hz
  obtain ⟨w1, hw1⟩ : ∃ w1, w.alloc (.cells #[.int .i64 z, .int .u16 m] 24) = w1 := ⟨_, rfl⟩
  have k0 : w1.cell? ⟨w.heap.size, 0, none⟩ = some (.int .i64 z) := by rw [← hw1, cell_of_row _ _ _ _ _ _ (heap_alloc_new w _)]; rfl
  have k1 : w1.cell? ⟨w.heap.size, 1, none⟩ = some (.int .u16 m) := by rw [← hw1, cell_of_row _ _ _ _ _ _ (heap_alloc_new w _)]; rfl
  have hb1 : Below w.heap.size w w1 := by rw [← hw1]; exact bal w _
  have hs1 : w1.heap.size = w.heap.size + 1 := by rw [← hw1]; simp
  have HS1 := hide hs1
  have hq : IntKind.u16.wrap (m.tdiv 256) = m / 256 := by
    rw [Int.tdiv_eq_ediv_of_nonneg hb.1]
    show (m / 256) % 65536 = m / 256
    omega
  have HQ := hide hq
  have W1 := hide hw1
  clear hw1 hs1 hq
  go_enter Try.func22, Try.ntmps22
  go_wp2_with fail
  rw [W1.out]
  go_wp2_with fail
  go_ret
  rw [HQ.out]
  have hs1 := HS1.out
  have h0 : z % 4294967296 / 16777216 = ((z / 16777216 % 256).toNat : Nat) := by omega
  have h1 : z % 4294967296 / 65536 % 256 = ((z / 65536 % 256).toNat : Nat) := by omega
  have h2 : z % 4294967296 / 256 % 256 = ((z / 256 % 256).toNat : Nat) := by omega
  have h3 : z % 256 = ((z % 256).toNat : Nat) := by omega
  have h4 : m / 256 % 256 = ((m / 256).toNat : Nat) := by omega
  have h5 : m % 256 = ((m % 256).toNat : Nat) := by omega
  refine ⟨w.heap.size + 1, rfl, ?_, by omega, hb1.alloc (by omega) _⟩
  rw [← hs1, heap_alloc_new w1 _, h0, h1, h2, h3, h4, h5]
  rfl
end Go.Proofs.Ytihldmcakcobaaa
