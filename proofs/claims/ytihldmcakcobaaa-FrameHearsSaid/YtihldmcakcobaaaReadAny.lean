/-
  What any bytes tell as a frame, whatever their sum: read, in all its ways.
-/
import Derived.Test.YtihldmcakcobaaaRead
namespace Go.Proofs.Ytihldmcakcobaaa
open Go.RowKit
set_option linter.unusedVariables false

set_option maxRecDepth 100000 in
set_option maxHeartbeats 1000000 in
theorem read_slot (c0 c1 c2 c3 c6 n : Nat) (blk off cap : Nat) (w : World) (hcap : 75 ≤ cap) (hm : cap ≤ maxLen)
    (h0 : w.cell? ⟨blk, off, none⟩ = some (.int .u8 (c0 : Int))) (h1 : w.cell? ⟨blk, off + 1, none⟩ = some (.int .u8 (c1 : Int))) (h2 : w.cell? ⟨blk, off + 2, none⟩ = some (.int .u8 (c2 : Int))) (h3 : w.cell? ⟨blk, off + 3, none⟩ = some (.int .u8 (c3 : Int))) (h6 : w.cell? ⟨blk, off + 6, none⟩ = some (.int .u8 (c6 : Int)))
    (b0 : c0 < 256) (b1 : c1 < 256) (b2 : c2 < 256) (b3 : c3 < 256) (b6 : c6 < 16) (hn : ((c0 * 256 + c1) * 256 + c2) * 256 + c3 = n) (hlt : 2147483647 < n) :
    Calls Try.prog 27 #[.slice (some ⟨blk, off, none⟩) 75 cap] w fun e w' => e = .returned (.tuple #[.agg fr0, .bool false]) ∧ Below w.heap.size w w' := by
  have hz := (zero_of_info info_fr).1
  have hblk : blk < w.heap.size := World.block_lt_of_cell? w _ h6
  obtain ⟨w1, hw1⟩ : ∃ w1, w.alloc (.cells fr0 27) = w1 := ⟨_, rfl⟩
  have g0 : w1.cell? ⟨blk, off, none⟩ = some (.int .u8 (c0 : Int)) := by rw [← hw1]; exact (bcl (bal _ _) hblk).trans h0
  have g1 : w1.cell? ⟨blk, off + 1, none⟩ = some (.int .u8 (c1 : Int)) := by rw [← hw1]; exact (bcl (bal _ _) hblk).trans h1
  have g2 : w1.cell? ⟨blk, off + 2, none⟩ = some (.int .u8 (c2 : Int)) := by rw [← hw1]; exact (bcl (bal _ _) hblk).trans h2
  have g3 : w1.cell? ⟨blk, off + 3, none⟩ = some (.int .u8 (c3 : Int)) := by rw [← hw1]; exact (bcl (bal _ _) hblk).trans h3
  have g6 : w1.cell? ⟨blk, off + 6, none⟩ = some (.int .u8 (c6 : Int)) := by rw [← hw1]; exact (bcl (bal _ _) hblk).trans h6
  have H0 : Hid (w1.heap[w.heap.size]? = some (.cells fr0 27 (0, 0))) := hide (by rw [← hw1]; exact heap_alloc_new w _)
  have H1 := hide (show Below w.heap.size w w1 by rw [← hw1]; exact bal w _)
  have hor := or_four c0 c1 c2 c3 b0 b1 b2 b3
  rw [hn] at hor
  have Hn := hide hn; have Hor := hide hor
  clear h0 h1 h2 h3 h6 hn hor
  go_enter Try.func27, Try.ntmps27
  go_wp2_with fail
  go_quiet (fail)
  rw [Hor.out]
  have HW1 := hide hw1; clear hw1
  go_wp2_with (refine wpList_store_row rfl 27 (.tmp 2) (.tmp 40) rfl w.heap.size fr0 rfl rfl 27 _ H0.out (fr_info fr0_size) rfl (frv_one _ _ _ _) ?_)
  refine bodyPost_ret (results_row_slot (fn := Try.f27) rfl _ _ w.heap.size 27 fr0 (0, 0) rfl (.bool false) rfl ?_ fr0_size) rfl ⟨rfl, ?_⟩
  · exact setRow_heap _ _ _ _ _ _ H0.out
  · exact below_setRow (below_drewN H1.out _) (Nat.le_refl _) _

/-- may these bytes be a frame's? -/
def isFr (b : List Nat) : Bool := decide (b.length = 75 ∧ b.getD 6 0 < 16 ∧ slotB b ≤ 2147483647)
/-- the frame that bytes tell -/
def frB (b : List Nat) : Array Value := frv (b.getD 6 0 : Nat) (slotB b : Nat) (memB b : Nat) (payB b)
def frOf (b : List Nat) : Array Value := if isFr b then frB b else fr0
theorem isFr_iff {b : List Nat} : isFr b = true ↔ b.length = 75 ∧ b.getD 6 0 < 16 ∧ slotB b ≤ 2147483647 := by unfold isFr; simp

theorem read_any (b : List Nat) (n : Nat) (A : Option Addr) (cap : Nat) (w : World) (hn : b.length = n) (hcap : n ≤ cap) (hm : cap ≤ maxLen) (hB : Bytes w A b) :
    Calls Try.prog 27 #[.slice A n cap] w fun e w' => e = .returned (.tuple #[.agg (frOf b), .bool (isFr b)]) ∧ Below w.heap.size w w' := by
  by_cases h75 : n = 75
  · subst h75
    obtain ⟨blk, off, rfl, hblk, hc⟩ := hB.at (k := 0) (by omega)
    have hlt := hB.byte
    by_cases h6 : b.getD 6 0 < 16
    · by_cases hs : slotB b ≤ 2147483647
      · have hi : isFr b = true := isFr_iff.2 ⟨hn, h6, hs⟩
        rw [show frOf b = frB b by unfold frOf; rw [if_pos hi], hi]
        refine read_ok (payB b) _ _ _ _ _ _ _ _ _ blk off cap w hcap hm (by simp [payB]; omega) (fun j hj => ?_) (hc 0 (by omega)) (hc 1 (by omega)) (hc 2 (by omega)) (hc 3 (by omega)) (hc 4 (by omega)) (hc 5 (by omega)) (hc 6 (by omega)) (hlt 0) (hlt 1) (hlt 2) (hlt 3) (hlt 4) (hlt 5) h6 rfl rfl hs
        have h := hc (7 + j) (by omega)
        rw [show off + 7 + j = off + (7 + j) by omega, h]
        simp [payB, List.getD_eq_getElem?_getD, hj]
      · have hi : isFr b = false := by
          have : ¬ isFr b = true := fun h => hs (isFr_iff.1 h).2.2
          simpa using this
        rw [show frOf b = fr0 by unfold frOf; rw [hi]; rfl, hi]
        exact read_slot _ _ _ _ _ _ blk off cap w hcap hm (hc 0 (by omega)) (hc 1 (by omega)) (hc 2 (by omega)) (hc 3 (by omega)) (hc 6 (by omega)) (hlt 0) (hlt 1) (hlt 2) (hlt 3) h6 rfl (by unfold slotB at hs; omega)
    · have hi : isFr b = false := by
        have : ¬ isFr b = true := fun h => h6 (isFr_iff.1 h).2.1
        simpa using this
      rw [show frOf b = fr0 by unfold frOf; rw [hi]; rfl, hi]
      exact read_owner b blk off cap w hn hcap hm hc (by omega)
  · have hi : isFr b = false := by
      have : ¬ isFr b = true := fun h => h75 (by have := (isFr_iff.1 h).1; omega)
      simpa using this
    rw [show frOf b = fr0 by unfold frOf; rw [hi]; rfl, hi]
    exact read_long n A cap w h75 (by omega)
end Go.Proofs.Ytihldmcakcobaaa
