/-
  The walk of SumMeters: whatever two meters are given, each counts what it was given itself, and tells the document's sums, and the first of them.
-/
import Derived.Test.YthhlokhhhponbaaAdd
import Derived.Test.YthhlokhhhponbaaRef
import Derived.Test.YthhlokhhhponbaaMany
import Derived.Deep.RegionHeld3
namespace Go.Proofs.Ythhlokhhhponbaa
open Go.RowKit
set_option linter.unusedVariables false

/-- two meters, and what the law has counted itself, in six blocks one behind the other -/
structure MS (w wr : World) (g0 g1 p2 p3 p4 p5 : Nat) (a0 : Bool) (f0 b0 s0 : Nat) (a1 : Bool) (f1 b1 s1 : Nat) (F0 F1 B0 B1 S0 S1 : Nat) : Prop where
  e1 : g1 = g0 + 1
  e2 : p2 = g0 + 2
  e3 : p3 = g0 + 3
  e4 : p4 = g0 + 4
  e5 : p5 = g0 + 5
  old : w.heap.size ≤ g0
  below : Below w.heap.size w wr
  lt : p5 < wr.heap.size
  m0 : Blk wr g0 (mcells a0 f0 b0 s0)
  m1 : Blk wr g1 (mcells a1 f1 b1 s1)
  cm : wr.heap[p2]? = some (.cells #[.pointer (some ⟨g0, 0, none⟩), .pointer (some ⟨g1, 0, none⟩)] 33 (0, 0))
  cb : wr.heap[p3]? = some (.cells #[.int .u64 (B0 : Int), .int .u64 (B1 : Int)] 35 (0, 0))
  cs : wr.heap[p4]? = some (.cells #[.int .u64 (S0 : Int), .int .u64 (S1 : Int)] 35 (0, 0))
  cf : wr.heap[p5]? = some (.cells #[.int .u32 (F0 : Int), .int .u32 (F1 : Int)] 36 (0, 0))

theorem MS.start (w : World) : MS w ((((((w.alloc (.cells (mcells false 0 0 0) 56)).alloc (.cells (mcells false 0 0 0) 56)).alloc
      (.cells #[.pointer (some ⟨w.heap.size, 0, none⟩), .pointer (some ⟨w.heap.size + 1, 0, none⟩)] 33)).alloc
      (.cells #[.int .u64 0, .int .u64 0] 35)).alloc (.cells #[.int .u64 0, .int .u64 0] 35)).alloc (.cells #[.int .u32 0, .int .u32 0] 36))
    w.heap.size (w.heap.size + 1) (w.heap.size + 1 + 1) (w.heap.size + 1 + 1 + 1) (w.heap.size + 1 + 1 + 1 + 1) (w.heap.size + 1 + 1 + 1 + 1 + 1) false 0 0 0 false 0 0 0 0 0 0 0 0 0 := by
  have hh : ∀ (W : World) (i : Nat), W.heap.size = i → ∀ o, (W.alloc o).heap[i]? = some o := fun W i e o => by subst e; exact heap_alloc_new W o
  have ho : ∀ (W : World) (i : Nat) (o : Obj) (v : Option Obj), i < W.heap.size → W.heap[i]? = v → (W.alloc o).heap[i]? = v := fun W i o v h e => (Below.heap_alloc W o i h).trans e
  refine ⟨rfl, rfl, rfl, rfl, rfl, Nat.le_refl _, ?_, by simp, ?_, ?_, ?_, ?_, ?_, ?_⟩
  · exact ((((((Below.refl _ _).alloc (Nat.le_refl _) _).alloc (by simp) _).alloc (by simp <;> omega) _).alloc (by simp <;> omega) _).alloc (by simp <;> omega) _).alloc (by simp <;> omega) _
  · exact ho _ _ _ _ (by simp <;> omega) (ho _ _ _ _ (by simp <;> omega) (ho _ _ _ _ (by simp <;> omega) (ho _ _ _ _ (by simp <;> omega) (ho _ _ _ _ (by simp) (hh _ _ rfl _)))))
  · exact ho _ _ _ _ (by simp <;> omega) (ho _ _ _ _ (by simp <;> omega) (ho _ _ _ _ (by simp <;> omega) (ho _ _ _ _ (by simp) (hh _ _ (by simp) _))))
  · exact ho _ _ _ _ (by simp <;> omega) (ho _ _ _ _ (by simp <;> omega) (ho _ _ _ _ (by simp) (hh _ _ (by simp) _)))
  · exact ho _ _ _ _ (by simp <;> omega) (ho _ _ _ _ (by simp) (hh _ _ (by simp) _))
  · exact ho _ _ _ _ (by simp) (hh _ _ (by simp) _)
  · exact hh _ _ (by simp) _

section
variable {w wr : World} {g0 g1 p2 p3 p4 p5 : Nat} {a0 : Bool} {f0 b0 s0 : Nat} {a1 : Bool} {f1 b1 s1 : Nat} {F0 F1 B0 B1 S0 S1 : Nat}
theorem MS.drew (h : MS w wr g0 g1 p2 p3 p4 p5 a0 f0 b0 s0 a1 f1 b1 s1 F0 F1 B0 B1 S0 S1) : MS w wr.drew g0 g1 p2 p3 p4 p5 a0 f0 b0 s0 a1 f1 b1 s1 F0 F1 B0 B1 S0 S1 :=
  ⟨h.e1, h.e2, h.e3, h.e4, h.e5, h.old, h.below.drew, h.lt, h.m0, h.m1, h.cm, h.cb, h.cs, h.cf⟩
theorem MS.drewN (h : MS w wr g0 g1 p2 p3 p4 p5 a0 f0 b0 s0 a1 f1 b1 s1 F0 F1 B0 B1 S0 S1) (m : Nat) : MS w (wr.drewN m) g0 g1 p2 p3 p4 p5 a0 f0 b0 s0 a1 f1 b1 s1 F0 F1 B0 B1 S0 S1 :=
  ⟨h.e1, h.e2, h.e3, h.e4, h.e5, h.old, below_drewN h.below m, h.lt, h.m0, h.m1, h.cm, h.cb, h.cs, h.cf⟩
theorem MS.alloc (h : MS w wr g0 g1 p2 p3 p4 p5 a0 f0 b0 s0 a1 f1 b1 s1 F0 F1 B0 B1 S0 S1) (o : Obj) : MS w (wr.alloc o) g0 g1 p2 p3 p4 p5 a0 f0 b0 s0 a1 f1 b1 s1 F0 F1 B0 B1 S0 S1 := by
  have h1 := h.e1; have h2 := h.e2; have h3 := h.e3; have h4 := h.e4; have h5 := h.e5; have h6 := h.lt
  exact ⟨h1, h2, h3, h4, h5, h.old, h.below.alloc h.below.size o, by simp; omega, h.m0.alloc o, h.m1.alloc o, (Below.heap_alloc wr o _ (by omega)).trans h.cm, (Below.heap_alloc wr o _ (by omega)).trans h.cb, (Below.heap_alloc wr o _ (by omega)).trans h.cs, (Below.heap_alloc wr o _ (by omega)).trans h.cf⟩
theorem MS.add0 {wq : World} {a0' : Bool} {f0' b0' s0' : Nat} (h : MS w wr g0 g1 p2 p3 p4 p5 a0 f0 b0 s0 a1 f1 b1 s1 F0 F1 B0 B1 S0 S1) (hg : wr.grownBy wq (some g0)) (hb : Blk wq g0 (mcells a0' f0' b0' s0')) :
    MS w wq g0 g1 p2 p3 p4 p5 a0' f0' b0' s0' a1 f1 b1 s1 F0 F1 B0 B1 S0 S1 := by
  have h1 := h.e1; have h2 := h.e2; have h3 := h.e3; have h4 := h.e4; have h5 := h.e5; have h6 := h.lt; have h7 := h.old; have h8 := hg.size
  have hk : ∀ q, q < wr.heap.size → q ≠ g0 → wq.heap[q]? = wr.heap[q]? := fun q hq hne => hg.block q hq (fun e => hne (by injection e))
  exact ⟨h1, h2, h3, h4, h5, h.old, h.below.grown hg h.below.size (fun q hq => by injection hq with hq; omega), by omega, hb, (hk _ (by omega) (by omega)).trans h.m1,
    (hk _ (by omega) (by omega)).trans h.cm, (hk _ (by omega) (by omega)).trans h.cb, (hk _ (by omega) (by omega)).trans h.cs, (hk _ (by omega) (by omega)).trans h.cf⟩
theorem MS.add1 {wq : World} {a1' : Bool} {f1' b1' s1' : Nat} (h : MS w wr g0 g1 p2 p3 p4 p5 a0 f0 b0 s0 a1 f1 b1 s1 F0 F1 B0 B1 S0 S1) (hg : wr.grownBy wq (some g1)) (hb : Blk wq g1 (mcells a1' f1' b1' s1')) :
    MS w wq g0 g1 p2 p3 p4 p5 a0 f0 b0 s0 a1' f1' b1' s1' F0 F1 B0 B1 S0 S1 := by
  have h1 := h.e1; have h2 := h.e2; have h3 := h.e3; have h4 := h.e4; have h5 := h.e5; have h6 := h.lt; have h7 := h.old; have h8 := hg.size
  have hk : ∀ q, q < wr.heap.size → q ≠ g1 → wq.heap[q]? = wr.heap[q]? := fun q hq hne => hg.block q hq (fun e => hne (by injection e))
  exact ⟨h1, h2, h3, h4, h5, h.old, h.below.grown hg h.below.size (fun q hq => by injection hq with hq; omega), by omega, (hk _ (by omega) (by omega)).trans h.m0, hb,
    (hk _ (by omega) (by omega)).trans h.cm, (hk _ (by omega) (by omega)).trans h.cb, (hk _ (by omega) (by omega)).trans h.cs, (hk _ (by omega) (by omega)).trans h.cf⟩
theorem MS.setF0 (h : MS w wr g0 g1 p2 p3 p4 p5 a0 f0 b0 s0 a1 f1 b1 s1 F0 F1 B0 B1 S0 S1) (v : Nat) :
    MS w (wr.setCell ⟨p5, 0, none⟩ (.int .u32 (v : Int))) g0 g1 p2 p3 p4 p5 a0 f0 b0 s0 a1 f1 b1 s1 v F1 B0 B1 S0 S1 := by
  have h1 := h.e1; have h2 := h.e2; have h3 := h.e3; have h4 := h.e4; have h5 := h.e5; have h6 := h.lt; have h7 := h.old
  have hk : ∀ q, q ≠ p5 → (wr.setCell ⟨p5, 0, none⟩ (.int .u32 (v : Int))).heap[q]? = wr.heap[q]? := fun q hne => Below.heap_setCell wr _ _ q hne
  exact ⟨h1, h2, h3, h4, h5, h.old, h.below.setCell (by show w.heap.size ≤ p5; omega) _, by simpa [World.setCell] using h6, (hk _ (by omega)).trans h.m0, (hk _ (by omega)).trans h.m1, (hk _ (by omega)).trans h.cm, (hk _ (by omega)).trans h.cb, (hk _ (by omega)).trans h.cs, (heap_setCell_same wr p5 0 _ _ _ h.cf)⟩
theorem MS.setF1 (h : MS w wr g0 g1 p2 p3 p4 p5 a0 f0 b0 s0 a1 f1 b1 s1 F0 F1 B0 B1 S0 S1) (v : Nat) :
    MS w (wr.setCell ⟨p5, 1, none⟩ (.int .u32 (v : Int))) g0 g1 p2 p3 p4 p5 a0 f0 b0 s0 a1 f1 b1 s1 F0 v B0 B1 S0 S1 := by
  have h1 := h.e1; have h2 := h.e2; have h3 := h.e3; have h4 := h.e4; have h5 := h.e5; have h6 := h.lt; have h7 := h.old
  have hk : ∀ q, q ≠ p5 → (wr.setCell ⟨p5, 1, none⟩ (.int .u32 (v : Int))).heap[q]? = wr.heap[q]? := fun q hne => Below.heap_setCell wr _ _ q hne
  exact ⟨h1, h2, h3, h4, h5, h.old, h.below.setCell (by show w.heap.size ≤ p5; omega) _, by simpa [World.setCell] using h6, (hk _ (by omega)).trans h.m0, (hk _ (by omega)).trans h.m1, (hk _ (by omega)).trans h.cm, (hk _ (by omega)).trans h.cb, (hk _ (by omega)).trans h.cs, (heap_setCell_same wr p5 1 _ _ _ h.cf)⟩
theorem MS.setB0 (h : MS w wr g0 g1 p2 p3 p4 p5 a0 f0 b0 s0 a1 f1 b1 s1 F0 F1 B0 B1 S0 S1) (v : Nat) :
    MS w (wr.setCell ⟨p3, 0, none⟩ (.int .u64 (v : Int))) g0 g1 p2 p3 p4 p5 a0 f0 b0 s0 a1 f1 b1 s1 F0 F1 v B1 S0 S1 := by
  have h1 := h.e1; have h2 := h.e2; have h3 := h.e3; have h4 := h.e4; have h5 := h.e5; have h6 := h.lt; have h7 := h.old
  have hk : ∀ q, q ≠ p3 → (wr.setCell ⟨p3, 0, none⟩ (.int .u64 (v : Int))).heap[q]? = wr.heap[q]? := fun q hne => Below.heap_setCell wr _ _ q hne
  exact ⟨h1, h2, h3, h4, h5, h.old, h.below.setCell (by show w.heap.size ≤ p3; omega) _, by simpa [World.setCell] using h6, (hk _ (by omega)).trans h.m0, (hk _ (by omega)).trans h.m1, (hk _ (by omega)).trans h.cm, (heap_setCell_same wr p3 0 _ _ _ h.cb), (hk _ (by omega)).trans h.cs, (hk _ (by omega)).trans h.cf⟩
theorem MS.setB1 (h : MS w wr g0 g1 p2 p3 p4 p5 a0 f0 b0 s0 a1 f1 b1 s1 F0 F1 B0 B1 S0 S1) (v : Nat) :
    MS w (wr.setCell ⟨p3, 1, none⟩ (.int .u64 (v : Int))) g0 g1 p2 p3 p4 p5 a0 f0 b0 s0 a1 f1 b1 s1 F0 F1 B0 v S0 S1 := by
  have h1 := h.e1; have h2 := h.e2; have h3 := h.e3; have h4 := h.e4; have h5 := h.e5; have h6 := h.lt; have h7 := h.old
  have hk : ∀ q, q ≠ p3 → (wr.setCell ⟨p3, 1, none⟩ (.int .u64 (v : Int))).heap[q]? = wr.heap[q]? := fun q hne => Below.heap_setCell wr _ _ q hne
  exact ⟨h1, h2, h3, h4, h5, h.old, h.below.setCell (by show w.heap.size ≤ p3; omega) _, by simpa [World.setCell] using h6, (hk _ (by omega)).trans h.m0, (hk _ (by omega)).trans h.m1, (hk _ (by omega)).trans h.cm, (heap_setCell_same wr p3 1 _ _ _ h.cb), (hk _ (by omega)).trans h.cs, (hk _ (by omega)).trans h.cf⟩
theorem MS.setS0 (h : MS w wr g0 g1 p2 p3 p4 p5 a0 f0 b0 s0 a1 f1 b1 s1 F0 F1 B0 B1 S0 S1) (v : Nat) :
    MS w (wr.setCell ⟨p4, 0, none⟩ (.int .u64 (v : Int))) g0 g1 p2 p3 p4 p5 a0 f0 b0 s0 a1 f1 b1 s1 F0 F1 B0 B1 v S1 := by
  have h1 := h.e1; have h2 := h.e2; have h3 := h.e3; have h4 := h.e4; have h5 := h.e5; have h6 := h.lt; have h7 := h.old
  have hk : ∀ q, q ≠ p4 → (wr.setCell ⟨p4, 0, none⟩ (.int .u64 (v : Int))).heap[q]? = wr.heap[q]? := fun q hne => Below.heap_setCell wr _ _ q hne
  exact ⟨h1, h2, h3, h4, h5, h.old, h.below.setCell (by show w.heap.size ≤ p4; omega) _, by simpa [World.setCell] using h6, (hk _ (by omega)).trans h.m0, (hk _ (by omega)).trans h.m1, (hk _ (by omega)).trans h.cm, (hk _ (by omega)).trans h.cb, (heap_setCell_same wr p4 0 _ _ _ h.cs), (hk _ (by omega)).trans h.cf⟩
theorem MS.setS1 (h : MS w wr g0 g1 p2 p3 p4 p5 a0 f0 b0 s0 a1 f1 b1 s1 F0 F1 B0 B1 S0 S1) (v : Nat) :
    MS w (wr.setCell ⟨p4, 1, none⟩ (.int .u64 (v : Int))) g0 g1 p2 p3 p4 p5 a0 f0 b0 s0 a1 f1 b1 s1 F0 F1 B0 B1 S0 v := by
  have h1 := h.e1; have h2 := h.e2; have h3 := h.e3; have h4 := h.e4; have h5 := h.e5; have h6 := h.lt; have h7 := h.old
  have hk : ∀ q, q ≠ p4 → (wr.setCell ⟨p4, 1, none⟩ (.int .u64 (v : Int))).heap[q]? = wr.heap[q]? := fun q hne => Below.heap_setCell wr _ _ q hne
  exact ⟨h1, h2, h3, h4, h5, h.old, h.below.setCell (by show w.heap.size ≤ p4; omega) _, by simpa [World.setCell] using h6, (hk _ (by omega)).trans h.m0, (hk _ (by omega)).trans h.m1, (hk _ (by omega)).trans h.cm, (hk _ (by omega)).trans h.cb, (heap_setCell_same wr p4 1 _ _ _ h.cs), (hk _ (by omega)).trans h.cf⟩
theorem MS.c20 (h : MS w wr g0 g1 p2 p3 p4 p5 a0 f0 b0 s0 a1 f1 b1 s1 F0 F1 B0 B1 S0 S1) : wr.cell? ⟨p2, 0, none⟩ = some (.pointer (some ⟨g0, 0, none⟩)) := (cell_of_row _ _ 0 _ _ (0, 0) h.cm).trans rfl
theorem MS.z20 (h : MS w wr g0 g1 p2 p3 p4 p5 a0 f0 b0 s0 a1 f1 b1 s1 F0 F1 B0 B1 S0 S1) : wr.frozen? ⟨p2, 0, none⟩ = false := frozen_of_row _ _ 0 _ _ h.cm
theorem MS.c21 (h : MS w wr g0 g1 p2 p3 p4 p5 a0 f0 b0 s0 a1 f1 b1 s1 F0 F1 B0 B1 S0 S1) : wr.cell? ⟨p2, 1, none⟩ = some (.pointer (some ⟨g1, 0, none⟩)) := (cell_of_row _ _ 1 _ _ (0, 0) h.cm).trans rfl
theorem MS.z21 (h : MS w wr g0 g1 p2 p3 p4 p5 a0 f0 b0 s0 a1 f1 b1 s1 F0 F1 B0 B1 S0 S1) : wr.frozen? ⟨p2, 1, none⟩ = false := frozen_of_row _ _ 1 _ _ h.cm
theorem MS.c30 (h : MS w wr g0 g1 p2 p3 p4 p5 a0 f0 b0 s0 a1 f1 b1 s1 F0 F1 B0 B1 S0 S1) : wr.cell? ⟨p3, 0, none⟩ = some (.int .u64 (B0 : Int)) := (cell_of_row _ _ 0 _ _ (0, 0) h.cb).trans rfl
theorem MS.z30 (h : MS w wr g0 g1 p2 p3 p4 p5 a0 f0 b0 s0 a1 f1 b1 s1 F0 F1 B0 B1 S0 S1) : wr.frozen? ⟨p3, 0, none⟩ = false := frozen_of_row _ _ 0 _ _ h.cb
theorem MS.c31 (h : MS w wr g0 g1 p2 p3 p4 p5 a0 f0 b0 s0 a1 f1 b1 s1 F0 F1 B0 B1 S0 S1) : wr.cell? ⟨p3, 1, none⟩ = some (.int .u64 (B1 : Int)) := (cell_of_row _ _ 1 _ _ (0, 0) h.cb).trans rfl
theorem MS.z31 (h : MS w wr g0 g1 p2 p3 p4 p5 a0 f0 b0 s0 a1 f1 b1 s1 F0 F1 B0 B1 S0 S1) : wr.frozen? ⟨p3, 1, none⟩ = false := frozen_of_row _ _ 1 _ _ h.cb
theorem MS.c40 (h : MS w wr g0 g1 p2 p3 p4 p5 a0 f0 b0 s0 a1 f1 b1 s1 F0 F1 B0 B1 S0 S1) : wr.cell? ⟨p4, 0, none⟩ = some (.int .u64 (S0 : Int)) := (cell_of_row _ _ 0 _ _ (0, 0) h.cs).trans rfl
theorem MS.z40 (h : MS w wr g0 g1 p2 p3 p4 p5 a0 f0 b0 s0 a1 f1 b1 s1 F0 F1 B0 B1 S0 S1) : wr.frozen? ⟨p4, 0, none⟩ = false := frozen_of_row _ _ 0 _ _ h.cs
theorem MS.c41 (h : MS w wr g0 g1 p2 p3 p4 p5 a0 f0 b0 s0 a1 f1 b1 s1 F0 F1 B0 B1 S0 S1) : wr.cell? ⟨p4, 1, none⟩ = some (.int .u64 (S1 : Int)) := (cell_of_row _ _ 1 _ _ (0, 0) h.cs).trans rfl
theorem MS.z41 (h : MS w wr g0 g1 p2 p3 p4 p5 a0 f0 b0 s0 a1 f1 b1 s1 F0 F1 B0 B1 S0 S1) : wr.frozen? ⟨p4, 1, none⟩ = false := frozen_of_row _ _ 1 _ _ h.cs
theorem MS.c50 (h : MS w wr g0 g1 p2 p3 p4 p5 a0 f0 b0 s0 a1 f1 b1 s1 F0 F1 B0 B1 S0 S1) : wr.cell? ⟨p5, 0, none⟩ = some (.int .u32 (F0 : Int)) := (cell_of_row _ _ 0 _ _ (0, 0) h.cf).trans rfl
theorem MS.z50 (h : MS w wr g0 g1 p2 p3 p4 p5 a0 f0 b0 s0 a1 f1 b1 s1 F0 F1 B0 B1 S0 S1) : wr.frozen? ⟨p5, 0, none⟩ = false := frozen_of_row _ _ 0 _ _ h.cf
theorem MS.c51 (h : MS w wr g0 g1 p2 p3 p4 p5 a0 f0 b0 s0 a1 f1 b1 s1 F0 F1 B0 B1 S0 S1) : wr.cell? ⟨p5, 1, none⟩ = some (.int .u32 (F1 : Int)) := (cell_of_row _ _ 1 _ _ (0, 0) h.cf).trans rfl
theorem MS.z51 (h : MS w wr g0 g1 p2 p3 p4 p5 a0 f0 b0 s0 a1 f1 b1 s1 F0 F1 B0 B1 S0 S1) : wr.frozen? ⟨p5, 1, none⟩ = false := frozen_of_row _ _ 1 _ _ h.cf
end

/-- what holds behind i pieces -/
def Inv (w : World) (g0 g1 p2 p3 p4 p5 i : Nat) (wr : World) : Prop :=
  ∃ f0 b0 s0 f1 b1 s1 : Nat, MS w wr g0 g1 p2 p3 p4 p5 (decide (0 < s0)) f0 b0 s0 (decide (0 < s1)) f1 b1 s1 f0 f1 b0 b1 s0 s1 ∧ b0 + b1 ≤ 1000 * i ∧ s0 + s1 ≤ i ∧ (s0 = 0 → f0 = 0) ∧ (s1 = 0 → f1 = 0)
end Go.Proofs.Ythhlokhhhponbaa
