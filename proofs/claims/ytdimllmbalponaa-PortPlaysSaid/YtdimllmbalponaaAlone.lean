/-
  rotaref02.Alone, and rotaref04.New.
-/
import Derived.Test.YtdimllmbalponaaRefRecv
import Derived.Test.YtdimllmbalponaaArgs
namespace Go.Proofs.Ytdimllmbalponaa
open Go.RowKit Go.Shelf
set_option linter.unusedVariables false

set_option maxRecDepth 100000 in
set_option maxHeartbeats 4000000 in
theorem alone_at (pt k d s e f : Int) (w : World) : Calls Try.prog 12 #[.agg #[.int .i64 pt, .int .i64 k, .int .i64 d, .int .i64 s, .int .i64 e, .int .i64 f]] w fun e' w' => e' = .returned (.bool (decide (May k d s e f))) ∧ Below w.heap.size w w' := by
  have hb := bal w (.cells #[.int .i64 pt, .int .i64 k, .int .i64 d, .int .i64 s, .int .i64 e, .int .i64 f] 23)
  have hr := heap_alloc_new w (.cells #[.int .i64 pt, .int .i64 k, .int .i64 d, .int .i64 s, .int .i64 e, .int .i64 f] 23)
  obtain ⟨w1, hw1⟩ : ∃ w1, w.alloc (.cells #[.int .i64 pt, .int .i64 k, .int .i64 d, .int .i64 s, .int .i64 e, .int .i64 f] 23) = w1 := ⟨_, rfl⟩
  rw [hw1] at hb hr
  have c1 : w1.cell? ⟨w.heap.size, 1, none⟩ = some (.int .i64 k) := by rw [cell_of_row _ _ _ _ _ _ hr]; rfl
  have c2 : w1.cell? ⟨w.heap.size, 2, none⟩ = some (.int .i64 d) := by rw [cell_of_row _ _ _ _ _ _ hr]; rfl
  have c3 : w1.cell? ⟨w.heap.size, 3, none⟩ = some (.int .i64 s) := by rw [cell_of_row _ _ _ _ _ _ hr]; rfl
  have c4 : w1.cell? ⟨w.heap.size, 4, none⟩ = some (.int .i64 e) := by rw [cell_of_row _ _ _ _ _ _ hr]; rfl
  have c5 : w1.cell? ⟨w.heap.size, 5, none⟩ = some (.int .i64 f) := by rw [cell_of_row _ _ _ _ _ _ hr]; rfl
  have HB := hide hb
  obtain ⟨g, hg⟩ : ∃ g, decide (May k d s e f) = g := ⟨_, rfl⟩
  rw [hg]
  have HG := hide hg
  clear hb hr hg
  by_cases hc2 : k < 1
  · obtain rfl : g = false := by rw [← HG.out]; exact decide_eq_false fun h => by have h1 := h.1; have h2 := h.2.1; have h3 := h.2.2.1; omega
    clear HG
    go_enter Try.func12, Try.ntmps12
    go_wp2
    go_ret
    exact ⟨rfl, HB.out⟩
  by_cases hc2 : 2 < k
  · obtain rfl : g = false := by rw [← HG.out]; exact decide_eq_false fun h => by have h1 := h.1; have h2 := h.2.1; have h3 := h.2.2.1; omega
    clear HG
    go_enter Try.func12, Try.ntmps12
    go_wp2
    go_ret
    exact ⟨rfl, HB.out⟩
  by_cases hc2 : d < 1
  · obtain rfl : g = false := by rw [← HG.out]; exact decide_eq_false fun h => by have h1 := h.1; have h2 := h.2.1; have h3 := h.2.2.1; omega
    clear HG
    go_enter Try.func12, Try.ntmps12
    go_wp2
    go_ret
    exact ⟨rfl, HB.out⟩
  by_cases hc2 : 2 < d
  · obtain rfl : g = false := by rw [← HG.out]; exact decide_eq_false fun h => by have h1 := h.1; have h2 := h.2.1; have h3 := h.2.2.1; omega
    clear HG
    go_enter Try.func12, Try.ntmps12
    go_wp2
    go_ret
    exact ⟨rfl, HB.out⟩
  by_cases hc2 : s < 1
  · obtain rfl : g = false := by rw [← HG.out]; exact decide_eq_false fun h => by have h1 := h.1; have h2 := h.2.1; have h3 := h.2.2.1; omega
    clear HG
    go_enter Try.func12, Try.ntmps12
    go_wp2
    go_ret
    exact ⟨rfl, HB.out⟩
  by_cases hc2 : 32 < s
  · obtain rfl : g = false := by rw [← HG.out]; exact decide_eq_false fun h => by have h1 := h.1; have h2 := h.2.1; have h3 := h.2.2.1; omega
    clear HG
    go_enter Try.func12, Try.ntmps12
    go_wp2
    go_ret
    exact ⟨rfl, HB.out⟩
  have hs : 1 ≤ s ∧ s ≤ 32 := by omega
  rcases (show k = 2 ∨ k = 1 by omega) with rfl | rfl
  · skip
    by_cases hq4 : 1 ≤ e
    · skip
      by_cases hq6 : e ≤ 8
      · skip
        by_cases hq8 : f = 0
        · subst hq8
          obtain rfl : g = true := by rw [← HG.out]; exact decide_eq_true (by simp [May]; omega)
          clear HG
          go_enter Try.func12, Try.ntmps12
          go_wp2
          go_ret
          exact ⟨rfl, HB.out⟩
        · have hx : (f == 0) = false := by simpa using hq8
          have hy : decide (f = 0) = false := decide_eq_false hq8
          obtain rfl : g = false := by rw [← HG.out]; exact decide_eq_false fun h => by simp [May] at h; omega
          clear HG
          go_enter Try.func12, Try.ntmps12
          go_wp2
          go_ret
          exact ⟨rfl, HB.out⟩
      · skip
        obtain rfl : g = false := by rw [← HG.out]; exact decide_eq_false fun h => by simp [May] at h; omega
        clear HG
        go_enter Try.func12, Try.ntmps12
        go_wp2
        go_ret
        exact ⟨rfl, HB.out⟩
    · skip
      obtain rfl : g = false := by rw [← HG.out]; exact decide_eq_false fun h => by simp [May] at h; omega
      clear HG
      go_enter Try.func12, Try.ntmps12
      go_wp2
      go_ret
      exact ⟨rfl, HB.out⟩
  · rcases (show d = 2 ∨ d = 1 by omega) with rfl | rfl
    · skip
      by_cases hq6 : e = 0
      · subst hq6
        by_cases hq8 : 1 ≤ f
        · skip
          by_cases hq10 : f ≤ 65535
          · skip
            obtain rfl : g = true := by rw [← HG.out]; exact decide_eq_true (by simp [May]; omega)
            clear HG
            go_enter Try.func12, Try.ntmps12
            go_wp2
            go_ret
            exact ⟨rfl, HB.out⟩
          · skip
            obtain rfl : g = false := by rw [← HG.out]; exact decide_eq_false fun h => by simp [May] at h; omega
            clear HG
            go_enter Try.func12, Try.ntmps12
            go_wp2
            go_ret
            exact ⟨rfl, HB.out⟩
        · skip
          obtain rfl : g = false := by rw [← HG.out]; exact decide_eq_false fun h => by simp [May] at h; omega
          clear HG
          go_enter Try.func12, Try.ntmps12
          go_wp2
          go_ret
          exact ⟨rfl, HB.out⟩
      · have hx : (e == 0) = false := by simpa using hq6
        have hy : decide (e = 0) = false := decide_eq_false hq6
        obtain rfl : g = false := by rw [← HG.out]; exact decide_eq_false fun h => by simp [May] at h; omega
        clear HG
        go_enter Try.func12, Try.ntmps12
        go_wp2
        go_ret
        exact ⟨rfl, HB.out⟩
    · skip
      by_cases hq6 : e = 0
      · subst hq6
        by_cases hq8 : f = 0
        · subst hq8
          obtain rfl : g = true := by rw [← HG.out]; exact decide_eq_true (by simp [May]; omega)
          clear HG
          go_enter Try.func12, Try.ntmps12
          go_wp2
          go_ret
          exact ⟨rfl, HB.out⟩
        · have hx : (f == 0) = false := by simpa using hq8
          have hy : decide (f = 0) = false := decide_eq_false hq8
          obtain rfl : g = false := by rw [← HG.out]; exact decide_eq_false fun h => by simp [May] at h; omega
          clear HG
          go_enter Try.func12, Try.ntmps12
          go_wp2
          go_ret
          exact ⟨rfl, HB.out⟩
      · have hx : (e == 0) = false := by simpa using hq6
        have hy : decide (e = 0) = false := decide_eq_false hq6
        obtain rfl : g = false := by rw [← HG.out]; exact decide_eq_false fun h => by simp [May] at h; omega
        clear HG
        go_enter Try.func12, Try.ntmps12
        go_wp2
        go_ret
        exact ⟨rfl, HB.out⟩
end Go.Proofs.Ytdimllmbalponaa
