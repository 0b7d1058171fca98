/-
  The door's own examples: true, wherever the library's table lies.
-/
import Derived.Test.YtklkndnikcjbhaaDoorBtE
namespace Go.Proofs.YtklkndnikcjbhaaDoor
open Go.RowKit Go.Shelf
set_option linter.unusedVariables false
set_option linter.unusedSimpArgs false
set_option maxRecDepth 100000

theorem c_of : ofV [0, 3] = .tuple #[.int .u64 9, .int .i64 0] := by
  unfold ofV
  rw [if_pos (by intro z hz; simp at hz; omega)]
  rfl
theorem c_mem : memI 9 = [0, 3] := by decide +kernel
theorem c_pc : pc 9 = 2 := by decide +kernel
theorem c_from : fromF 9 1 = some 3 := by decide +kernel

set_option maxHeartbeats 2000000 in
theorem alive_at (w : World) (hT : Tz w) : Calls Tryd.prog 31 #[] w fun e w' => e = .returned (.bool true) ∧ Below w.heap.size w w' := by
  have HT := hide hT
  clear hT
  go_enter Tryd.func31, Tryd.ntmps31
  go_wp2_with fail
  have hb1 := bal w (.cells #[.int .i64 0, .int .i64 3] 3)
  have hI : Ints (w.alloc (.cells #[.int .i64 0, .int .i64 3] 3)) (some ⟨w.heap.size, 0, none⟩) [0, 3] := by
    refine ⟨by intro z hz; simp at hz; unfold I64; omega, .inr ⟨_, 0, rfl, by simp, fun i hi => ?_⟩⟩
    show World.cell? _ _ = _
    rw [cell_of_row _ _ _ _ _ _ (heap_alloc_new w _)]
    have hi : i < 2 := hi
    obtain rfl | rfl : i = 0 ∨ i = 1 := by omega
    · rfl
    · rfl
  refine (of_at [0, 3] _ _ _ hI (by decide)).mono ?_
  rintro e w1 ⟨rfl, rfl⟩
  rw [c_of]
  have HT1 := hide (HT.out.below hb1 HT.out.lt)
  have HB1 := hide hb1
  clear hb1 hI
  generalize w.alloc (.cells #[.int .i64 0, .int .i64 3] 3) = w1 at *
  go_wp2_with fail
  refine (members_any 9 (by decide) w1 HT1.out).mono ?_
  rintro e w2 ⟨h, rfl, hO, hb2⟩
  rw [c_mem] at hO
  obtain ⟨A, cc, rfl, hI2⟩ := own_ints hO (by intro z hz; simp at hz; unfold I64; omega)
  have HT2 := hide (HT1.out.below hb2 HT1.out.lt)
  have HB2 := hide (HB1.out.trans (hb2.mono HB1.out.size))
  have HI2 := hide hI2
  clear hO hb2 hI2
  go_wp2_with fail
  refine (from_at 9 (by decide) 1 w2 HT2.out).mono ?_
  rintro e w3 ⟨rfl, hb3⟩
  rw [c_from, show fromV (some 3) = .tuple #[.int .i64 3, .bool true] from rfl]
  have HB3 := hide (HB2.out.trans (hb3.mono HB2.out.size))
  have hI3 := HI2.out.of_below hb3 (Nat.le_refl _)
  obtain ⟨b, off, rfl, hbl, hc0⟩ := hI3.at (k := 0) (by decide)
  obtain ⟨b', off', e', _, hc1⟩ := hI3.at (k := 1) (by decide)
  have e' := Option.some.inj e'
  injection e' with e1 e2
  subst e1 e2
  clear hb3 hI3
  have c0 : w3.cell? ⟨b, off, none⟩ = some (.int .i64 0) := hc0
  have c1 : w3.cell? ⟨b, off + 1, none⟩ = some (.int .i64 3) := hc1
  clear hc0 hc1
  have HP := hide c_pc
  go_wp2_with (go_at_call 16; refine (size_at 9 (by decide) _).mono ?_; rintro e w' ⟨rfl, rfl⟩; rw [HP.out])
  go_ret
  exact ⟨rfl, HB3.out⟩
end Go.Proofs.YtklkndnikcjbhaaDoor
