/-
  Boxes: made, and known again; bounds.
-/
import Derived.Test.YtdimllmbalponaaKinds
import Derived.LaidEqlPtr
namespace Go.Proofs.Ytdimllmbalponaa
open Go.RowKit Go.Shelf
set_option linter.unusedVariables false

set_option maxRecDepth 100000 in
set_option maxHeartbeats 400000 in
theorem within_at (n l m : Int) (w : World) : Calls Try.prog 10 #[.int .i64 n, .agg #[.int .i64 l, .int .i64 m]] w fun e w' => e = .returned (.bool (decide (l ≤ n ∧ n ≤ m))) ∧ Below w.heap.size w w' := by
  have c0 : (w.alloc (.cells #[.int .i64 l, .int .i64 m] 47)).cell? ⟨w.heap.size, 0, none⟩ = some (.int .i64 l) := by rw [cell_of_row _ _ _ _ _ _ (heap_alloc_new w _)]; rfl
  have c1 : (w.alloc (.cells #[.int .i64 l, .int .i64 m] 47)).cell? ⟨w.heap.size, 1, none⟩ = some (.int .i64 m) := by rw [cell_of_row _ _ _ _ _ _ (heap_alloc_new w _)]; rfl
  have hb := bal w (.cells #[.int .i64 l, .int .i64 m] 47)
  obtain ⟨w1, hw1⟩ : ∃ w1, w.alloc (.cells #[.int .i64 l, .int .i64 m] 47) = w1 := ⟨_, rfl⟩
  rw [hw1] at c0 c1 hb
  obtain ⟨q, hq⟩ : ∃ q, decide (l ≤ n ∧ n ≤ m) = q := ⟨_, rfl⟩
  rw [hq]
  have HQ := hide hq
  clear hq
  by_cases h1 : l ≤ n
  · by_cases h2 : n ≤ m
    · go_enter Try.func10, Try.ntmps10
      go_wp2
      go_ret
      exact ⟨by rw [← HQ.out, decide_eq_true (show l ≤ n ∧ n ≤ m from ⟨h1, h2⟩)]; rfl, hb⟩
    · have h3 : m < n := by omega
      go_enter Try.func10, Try.ntmps10
      go_wp2
      go_ret
      exact ⟨by rw [← HQ.out, decide_eq_false (show ¬ (l ≤ n ∧ n ≤ m) by omega)]; rfl, hb⟩
  · have h3 : n < l := by omega
    go_enter Try.func10, Try.ntmps10
    go_wp2
    go_ret
    exact ⟨by rw [← HQ.out, decide_eq_false (show ¬ (l ≤ n ∧ n ≤ m) by omega)]; rfl, hb⟩

/-- a box's cells -/
def bcs (b : Nat) (pt k d s e f dl dm fl fm : Int) (p g h : Value) (lost : Bool) : Array Value :=
  #[.pointer (some ⟨b, 0, none⟩), .int .i64 pt, .int .i64 k, .int .i64 d, .int .i64 s, .int .i64 e, .int .i64 f, .int .i64 dl, .int .i64 dm, .int .i64 fl, .int .i64 fm, p, g, h, .bool lost]

set_option maxRecDepth 100000 in
set_option maxHeartbeats 400000 in
theorem made_at (pt k d s e f dl dm fl fm : Int) (p g h : Value) (lost : Bool) (w : World) :
    Calls Try.prog 11 #[.agg #[.pointer none, .int .i64 pt, .int .i64 k, .int .i64 d, .int .i64 s, .int .i64 e, .int .i64 f, .int .i64 dl, .int .i64 dm, .int .i64 fl, .int .i64 fm, p, g, h, .bool lost]] w fun e' w' =>
      e' = .returned (.pointer (some ⟨w.heap.size, 0, none⟩)) ∧ w'.heap[w.heap.size]? = some (.cells (bcs w.heap.size pt k d s e f dl dm fl fm p g h lost) 60 (0, 0)) ∧ w'.heap.size = w.heap.size + 1 ∧ Below w.heap.size w w' := by
  obtain ⟨cs, hcs⟩ : ∃ cs : Array Value, #[.pointer none, .int .i64 pt, .int .i64 k, .int .i64 d, .int .i64 s, .int .i64 e, .int .i64 f, .int .i64 dl, .int .i64 dm, .int .i64 fl, .int .i64 fm, p, g, h, .bool lost] = cs := ⟨_, rfl⟩
  have hset : cs.setIfInBounds 0 (.pointer (some ⟨w.heap.size, 0, none⟩)) = bcs w.heap.size pt k d s e f dl dm fl fm p g h lost := by rw [← hcs]; rfl
  rw [hcs]
  have hn := heap_alloc_new w (.cells cs 60)
  have c0 : (w.alloc (.cells cs 60)).cell? ⟨w.heap.size, 0, none⟩ = some (.pointer none) := by rw [cell_of_row _ _ _ _ _ _ hn, ← hcs]; rfl
  have f0 : (w.alloc (.cells cs 60)).frozen? ⟨w.heap.size, 0, none⟩ = false := by unfold World.frozen?; rw [hn]; rfl
  have hb := bal w (.cells cs 60)
  have hz : (w.alloc (.cells cs 60)).heap.size = w.heap.size + 1 := by simp
  obtain ⟨w1, hw1⟩ : ∃ w1, w.alloc (.cells cs 60) = w1 := ⟨_, rfl⟩
  rw [hw1] at c0 f0 hb hn hz
  have HN := hide hn; have HB := hide hb; have HZ := hide hz
  clear hn hb hz hcs
  go_enter Try.func11, Try.ntmps11
  go_wp2
  go_ret
  refine ⟨rfl, ?_, ?_, HB.out.setCell (p := ⟨w.heap.size, 0, none⟩) (Nat.le_refl _) _⟩
  · rw [setCell_row HN.out, hset]
  · show (w1.heap.modify _ _).size = _
    rw [Array.size_modify]; exact HZ.out

set_option maxRecDepth 100000 in
set_option maxHeartbeats 400000 in
theorem isMade_at (b : Nat) (w : World) (h : w.cell? ⟨b, 0, none⟩ = some (.pointer (some ⟨b, 0, none⟩))) : Calls Try.prog 24 #[.pointer (some ⟨b, 0, none⟩)] w fun e w' => e = .returned (.bool true) ∧ w = w' := by
  obtain ⟨j, hj⟩ := Option.isSome_iff_exists.1 (show (Try.prog.info? 60).isSome = true by kernel_rfl)
  have he := fun W => run_eql_ptr_same (P := Try.prog) (w := W) (tp := 25) ⟨b, 0, none⟩ Try.underlying25 hj
  clear hj
  go_enter Try.func24, Try.ntmps24
  go_wp2
  go_ret
  exact ⟨rfl, rfl⟩
end Go.Proofs.Ytdimllmbalponaa
