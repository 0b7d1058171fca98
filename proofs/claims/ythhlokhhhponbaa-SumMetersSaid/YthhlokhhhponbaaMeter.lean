/-
  A meter's methods, in one goroutine: what each answers, and how the meter's block turns.
-/
import Derived.Test.YthhlokhhhponbaaOnce
namespace Go.Proofs.Ythhlokhhhponbaa
open Go.RowKit
set_option linter.unusedVariables false

/-- block g is just these cells -/
def Blk (w : World) (g : Nat) (cs : Array Value) : Prop := w.heap[g]? = some (.cells cs 56 (0, 0))
theorem Blk.cell {w : World} {g : Nat} {cs : Array Value} (h : Blk w g cs) (i : Nat) {v : Value} (hv : cs[i]? = some v) : w.cell? ⟨g, i, none⟩ = some v := by
  rw [cell_of_row w g i cs 56 (0, 0) h]; exact hv
theorem Blk.free {w : World} {g : Nat} {cs : Array Value} (h : Blk w g cs) (i : Nat) : w.frozen? ⟨g, i, none⟩ = false := by
  unfold Blk at h
  simp [World.frozen?, h]
theorem Blk.lt {w : World} {g : Nat} {cs : Array Value} (h : Blk w g cs) : g < w.heap.size := by
  rcases Nat.lt_or_ge g w.heap.size with h1 | h1
  · exact h1
  · unfold Blk at h; rw [Array.getElem?_eq_none h1] at h; cases h
theorem Blk.set {w : World} {g : Nat} {cs : Array Value} (h : Blk w g cs) (i : Nat) (u : Value) : Blk (w.setCell ⟨g, i, none⟩ u) g (cs.setIfInBounds i u) := by
  unfold Blk at h ⊢
  simp [World.setCell, Array.getElem?_modify, h]
theorem Blk.drew {w : World} {g : Nat} {cs : Array Value} (h : Blk w g cs) : Blk w.drew g cs := h
theorem Blk.alloc {w : World} {g : Nat} {cs : Array Value} (h : Blk w g cs) (o : Obj) : Blk (w.alloc o) g cs := (Below.heap_alloc w o g h.lt).trans h
theorem Blk.other {w : World} {g : Nat} {cs : Array Value} (h : Blk w g cs) {p : Addr} (hp : g ≠ p.block) (u : Value) : Blk (w.setCell p u) g cs := (Below.heap_setCell w p u g hp).trans h
theorem Blk.below {w w' : World} {g B : Nat} {cs : Array Value} (h : Blk w g cs) (hb : Below B w w') (hB : g < B) : Blk w' g cs := (hb.block g hB).trans h

/-- the meter's cells -/
def mcells (any : Bool) (first bytes sums : Nat) : Array Value :=
  #[.bool true, .int .u32 (if any then 1 else 0), .int .i32 0, .int .u32 0, .int .u32 (first : Int), .int .u32 (if any then 1 else 0), .int .u64 (bytes : Int), .int .u64 (sums : Int)]

theorem made_yes (g : Nat) (w : World) (h : w.cell? ⟨g, 0, none⟩ = some (.bool true)) :
    Calls Try.prog 26 #[.pointer (some ⟨g, 0, none⟩)] w fun e w' => e = .returned (.bool true) ∧ w = w' := by
  go_enter Try.func26, Try.ntmps26
  go_wp2
  go_ret
  exact ⟨rfl, rfl⟩
theorem made_zero (g : Nat) (w : World) (h : w.cell? ⟨g, 0, none⟩ = some (.bool false)) :
    Calls Try.prog 26 #[.pointer (some ⟨g, 0, none⟩)] w fun e w' => e = .returned (.bool false) ∧ w = w' := by
  go_enter Try.func26, Try.ntmps26
  go_wp2
  go_ret
  exact ⟨rfl, rfl⟩
theorem made_none (w : World) :
    Calls Try.prog 26 #[.pointer none] w fun e w' => e = .returned (.bool false) ∧ w = w' := by
  go_enter Try.func26, Try.ntmps26
  go_wp2
  go_ret
  exact ⟨rfl, rfl⟩

theorem note_any (g : Nat) (s : Int) (x4 x5 : Value) (w : World) (h4 : w.cell? ⟨g, 4, none⟩ = some x4) (h5 : w.cell? ⟨g, 5, none⟩ = some x5) (f4 : w.frozen? ⟨g, 4, none⟩ = false) (f5 : w.frozen? ⟨g, 5, none⟩ = false) :
    Calls Try.prog 29 #[.pointer (some ⟨g, 0, none⟩), .int .u32 s] w fun e w' => e = .returned (.tuple #[]) ∧ (w.setCell ⟨g, 4, none⟩ (.int .u32 s)).drew.setCell ⟨g, 5, none⟩ (.int .u32 1) = w' := by
  have h5' : (w.setCell ⟨g, 4, none⟩ (.int .u32 s)).cell? ⟨g, 5, none⟩ = some x5 := (World.cell?_setCell_other w ⟨g, 4, none⟩ ⟨g, 5, none⟩ _ (by simp)).trans h5
  have f5' : (w.setCell ⟨g, 4, none⟩ (.int .u32 s)).frozen? ⟨g, 5, none⟩ = false := by rw [World.frozen?_setCell]; exact f5
  go_enter Try.func29, Try.ntmps29
  go_wp2_with (go_at_call 35; refine (bstore ⟨g, 5, none⟩ x5 _ h5' f5').mono ?_; rintro e w' ⟨rfl, rfl⟩)
  go_end0
  exact ⟨rfl, rfl⟩

theorem clo_any (g : Nat) (pm ps : Addr) (s : Int) (x4 x5 : Value) (w : World) (hm : w.cell? pm = some (.pointer (some ⟨g, 0, none⟩))) (hs : w.cell? ps = some (.int .u32 s))
    (h4 : w.cell? ⟨g, 4, none⟩ = some x4) (h5 : w.cell? ⟨g, 5, none⟩ = some x5) (f4 : w.frozen? ⟨g, 4, none⟩ = false) (f5 : w.frozen? ⟨g, 5, none⟩ = false) :
    Calls Try.prog 28 #[.pointer (some pm), .pointer (some ps)] w fun e w' => e = .returned (.tuple #[]) ∧ (w.setCell ⟨g, 4, none⟩ (.int .u32 s)).drew.setCell ⟨g, 5, none⟩ (.int .u32 1) = w' := by
  go_enter Try.func28, Try.ntmps28
  go_wp2_with (go_at_call 29; refine (note_any g s x4 x5 _ h4 h5 f4 f5).mono ?_; rintro e w' ⟨rfl, rfl⟩)
  go_end0
  exact ⟨rfl, rfl⟩

theorem gb_set {a w : World} {g : Nat} (h : a.grownBy w (some g)) (i : Nat) (u : Value) : a.grownBy (w.setCell ⟨g, i, none⟩ u) (some g) :=
  ⟨h.os, h.tape, h.output, by simpa [World.setCell] using h.size, fun k hk hne => (Below.heap_setCell w ⟨g, i, none⟩ u k (fun e => hne (by rw [e]))).trans (h.block k hk hne)⟩
theorem gb_drew {a w : World} {row : Option Nat} (h : a.grownBy w row) : a.grownBy w.drew row := ⟨h.os, h.tape, h.output, h.size, h.block⟩
theorem gb_alloc {a w : World} {row : Option Nat} (h : a.grownBy w row) (o : Obj) : a.grownBy (w.alloc o) row :=
  ⟨h.os, h.tape, h.output, Nat.le_trans h.size (by simp), fun i hi hne => (Below.heap_alloc w o i (Nat.lt_of_lt_of_le hi h.size)).trans (h.block i hi hne)⟩

set_option maxRecDepth 100000 in
set_option maxHeartbeats 1600000 in
theorem slow_any (g : Nat) (pm ps : Addr) (s : Int) (x3 x4 x5 x6 x7 : Value) (w : World) (hpm : ¬ g = pm.block) (hps : ¬ g = ps.block)
    (hm : w.cell? pm = some (.pointer (some ⟨g, 0, none⟩))) (hs : w.cell? ps = some (.int .u32 s)) (hb : Blk w g #[.bool true, .int .u32 0, .int .i32 0, x3, x4, x5, x6, x7]) :
    Calls Try.prog 34 #[.pointer (some ⟨g, 1, none⟩), .func (.func 28) #[] #[.pointer (some pm), .pointer (some ps)]] w fun e w' =>
      e = .returned (.tuple #[]) ∧ Blk w' g #[.bool true, .int .u32 1, .int .i32 0, x3, .int .u32 s, .int .u32 1, x6, x7] ∧ w.grownBy w' (some g) := by
  have b1 := hb.set 2 (.int .i32 1)
  have b2 := (b1.set 4 (.int .u32 s)).drew.set 5 (.int .u32 1)
  have b3 := b2.drew.set 1 (.int .u32 1)
  have b4 := b3.set 2 (.int .i32 0)
  have g1 := gb_set (World.grownBy.refl w (some g)) 2 (.int .i32 1)
  have g2 := gb_set (gb_drew (gb_set g1 4 (.int .u32 s))) 5 (.int .u32 1)
  have g4 := gb_set (gb_set (gb_drew g2) 1 (.int .u32 1)) 2 (.int .i32 0)
  have c2 := hb.cell 2 rfl
  have c1 := b1.cell 1 rfl
  have c4 := b1.cell 4 rfl
  have c5 := b1.cell 5 rfl
  have k1 := b2.cell 1 rfl
  have k2 := b3.cell 2 rfl
  have hm1 : (w.setCell ⟨g, 2, none⟩ (.int .i32 1)).cell? pm = some (.pointer (some ⟨g, 0, none⟩)) := (World.cell?_setCell_other _ ⟨g, 2, none⟩ pm _ (fun h => hpm (by rw [← h]))).trans hm
  have hs1 : (w.setCell ⟨g, 2, none⟩ (.int .i32 1)).cell? ps = some (.int .u32 s) := (World.cell?_setCell_other _ ⟨g, 2, none⟩ ps _ (fun h => hps (by rw [← h]))).trans hs
  have hnot := not_run
  have F2 := hb.free 2; have F4 := b1.free 4; have F5 := b1.free 5; have G1 := b2.free 1; have G2 := b3.free 2
  have B4 := hide b4; have G4 := hide g4
  clear b1 b2 b3 b4 g1 g2 g4 hb
  go_enter_defers Try.func34, Try.ntmps34
  go_wp2_with (first
    | (go_at_call 39; refine (lock_free ⟨g, 2, none⟩ _ c2 F2).mono ?_; rintro e w' ⟨rfl, rfl⟩)
    | (go_at_call 32; refine (bload ⟨g, 1, none⟩ 0 _ c1).mono ?_; rintro e w' ⟨rfl, rfl⟩)
    | (go_at_call 28; refine (clo_any g pm ps s _ _ _ hm1 hs1 c4 c5 F4 F5).mono ?_; rintro e w' ⟨rfl, rfl⟩))
  refine leaves_cons (f := 35) (args := #[.pointer (some ⟨g, 1, none⟩), .bool true]) (by simp) (by simp [go_sem]) ?_
  refine (bstore_d ⟨g, 1, none⟩ _ .returning _ k1 G1).mono ?_
  rintro e u' w'' ⟨rfl, rfl, rfl⟩
  refine leaves_cons (f := 40) (args := #[.pointer (some ⟨g, 2, none⟩)]) (by simp [settle]) (by simp [go_sem]) ?_
  refine (unlock_d ⟨g, 2, none⟩ _ _ k2 G2).mono ?_
  rintro e u' w'' ⟨rfl, rfl, rfl⟩
  exact ⟨_, results_none rfl _ _ _, rfl, B4.out, G4.out⟩

set_option maxRecDepth 100000 in
set_option maxHeartbeats 1600000 in
theorem do_first (g : Nat) (pm ps : Addr) (s : Int) (x3 x4 x5 x6 x7 : Value) (w : World) (hpm : ¬ g = pm.block) (hps : ¬ g = ps.block)
    (hm : w.cell? pm = some (.pointer (some ⟨g, 0, none⟩))) (hs : w.cell? ps = some (.int .u32 s)) (hb : Blk w g #[.bool true, .int .u32 0, .int .i32 0, x3, x4, x5, x6, x7]) :
    Calls Try.prog 27 #[.pointer (some ⟨g, 1, none⟩), .func (.func 28) #[] #[.pointer (some pm), .pointer (some ps)]] w fun e w' =>
      e = .returned (.tuple #[]) ∧ Blk w' g #[.bool true, .int .u32 1, .int .i32 0, x3, .int .u32 s, .int .u32 1, x6, x7] ∧ w.grownBy w' (some g) := by
  have c1 := hb.cell 1 rfl
  have hnot := not_run
  go_enter Try.func27, Try.ntmps27
  go_wp2_with (first
    | (go_at_call 32; refine (bload ⟨g, 1, none⟩ 0 _ c1).mono ?_; rintro e w' ⟨rfl, rfl⟩)
    | (go_at_call 34; refine (slow_any g pm ps s x3 x4 x5 x6 x7 _ hpm hps hm hs hb).mono ?_; rintro e w' ⟨rfl, hb1, hg1⟩))
  go_end0
  exact ⟨rfl, hb1, hg1⟩

theorem do_done (a : Addr) (fv : Value) (w : World) (h0 : w.cell? a = some (.int .u32 1)) :
    Calls Try.prog 27 #[.pointer (some a), fv] w fun e w' => e = .returned (.tuple #[]) ∧ w = w' := by
  have hnot := not_run
  go_enter Try.func27, Try.ntmps27
  go_wp2_with (go_at_call 32; refine (bload a 1 _ h0).mono ?_; rintro e w' ⟨rfl, rfl⟩)
  go_end0
  exact ⟨rfl, rfl⟩
end Go.Proofs.Ythhlokhhhponbaa
