/-
  The chapter's first examples; RingPlaces' and RingRound's walks.
-/
import Derived.Test.YtmplioglihmkjaaRgC
import Derived.Laws.Tables
namespace Go.Proofs.Ytmplioglihmkjaa
open Go.RowKit Go.Shelf
set_option linter.unusedVariables false
set_option linter.unusedSimpArgs false

theorem al_1 : placeV (-1) 5 = .tuple #[.int .i64 4, .int .i64 0] := (if_pos (by decide +kernel)).trans (by rfl)
theorem al_2 : stepsV 4 1 5 = .tuple #[.int .i64 2, .int .i64 0] := (if_pos (by decide +kernel)).trans (by rfl)
theorem al_3 : withinV 4 0 1 5 = .tuple #[.bool true, .int .i64 0] := (if_pos (by decide +kernel)).trans (by rfl)
theorem al_4 : withinV 1 0 4 5 = .tuple #[.bool false, .int .i64 0] := (if_pos (by decide +kernel)).trans (by rfl)
theorem i64_small {z : Int} (h : -1000 ≤ z ∧ z ≤ 1000) : I64 z := by unfold I64; omega

set_option maxHeartbeats 1000000 in
theorem alive_at (w : World) : Calls Try.prog 35 #[] w fun e w' => e = .returned (.bool true) ∧ w = w' := by
  go_enter Try.func35, Try.ntmps35
  go_wp2_with fail
  refine (Place_at (-1) 5 (i64_small (by decide)) _).mono ?_
  rintro e w' ⟨rfl, rfl⟩
  rw [al_1]
  go_wp2_with fail
  refine (Steps_at 4 1 5 (i64_small (by decide)) (i64_small (by decide)) _).mono ?_
  rintro e w' ⟨rfl, rfl⟩
  rw [al_2]
  go_wp2_with fail
  refine (Within_at 4 0 1 5 (i64_small (by decide)) (i64_small (by decide)) (i64_small (by decide)) _).mono ?_
  rintro e w' ⟨rfl, rfl⟩
  rw [al_3]
  go_wp2_with fail
  refine (Within_at 1 0 4 5 (i64_small (by decide)) (i64_small (by decide)) (i64_small (by decide)) _).mono ?_
  rintro e w' ⟨rfl, rfl⟩
  rw [al_4]
  go_wp2_with fail
  go_ret
  exact ⟨rfl, rfl⟩

set_option maxRecDepth 100000 in
set_option maxHeartbeats 4000000 in
theorem places_walk (x0 x1 x2 n : Int) (h0 : I64 x0) (h1 : I64 x1) (h2 : I64 x2) (hn : I64 n) (w : World) :
    Calls Try.prog 3 #[.agg #[.int .i64 x0, .int .i64 x1, .int .i64 x2], .int .i64 n] w fun e w' => e = .returned (.bool true) ∧ Below w.heap.size w w' := by
  by_cases hbig : 5000 < n ∧ n ≤ 1048576
  · obtain ⟨g1, g2⟩ := hbig
    go_enter Try.func3, Try.ntmps3
    go_wp2_with fail
    go_ret
    exact ⟨rfl, bal w _⟩
  have HP := hide (fun W => Place_at x0 n h0 W)
  have HS := hide (fun W => Steps_at x0 x1 n h0 h1 W)
  have HW := hide (fun W => Within_at x0 x1 x2 n h0 h1 h2 W)
  have HM := hide (fun W => rmay_at [] none 0 n W (Arcs.nil W none) (by simp))
  have hM : mayB n [] = ringB n := by simp [mayB]
  rw [hM] at HM
  clear hM
  cases hr : ringB n with
  | true =>
    obtain ⟨r0, r1⟩ := ringB_t hr
    have HRP := hide (fun W => rplace_at x0 n h0 r0 r1 W)
    have HRS := hide (fun W => rsteps_at x0 x1 n h0 h1 r0 r1 W)
    have HRW := hide (fun W => rwithin_at x0 x1 x2 n h0 h1 h2 r0 r1 W)
    rw [show placeV x0 n = _ from if_pos hr] at HP
    rw [show stepsV x0 x1 n = _ from if_pos hr] at HS
    rw [show withinV x0 x1 x2 n = _ from if_pos hr] at HW
    rw [hr] at HM
    generalize x0 % n = p at *
    generalize stp p (x1 % n) n = s at *
    generalize withinB x0 x1 x2 n = v at *
    have hle : n ≤ 5000 := by omega
    clear hr hbig
    go_enter Try.func3, Try.ntmps3
    go_wp2_with fail
    refine (HM.out _).mono ?_
    rintro e w' ⟨rfl, rfl⟩
    have c0 : (w.alloc (.cells #[.int .i64 x0, .int .i64 x1, .int .i64 x2] 22)).cell? ⟨w.heap.size, 0, none⟩ = some (.int .i64 x0) := by rw [cell_of_row _ _ _ _ _ _ (heap_alloc_new w _)]; rfl
    have c1 : (w.alloc (.cells #[.int .i64 x0, .int .i64 x1, .int .i64 x2] 22)).cell? ⟨w.heap.size, 1, none⟩ = some (.int .i64 x1) := by rw [cell_of_row _ _ _ _ _ _ (heap_alloc_new w _)]; rfl
    have c2 : (w.alloc (.cells #[.int .i64 x0, .int .i64 x1, .int .i64 x2] 22)).cell? ⟨w.heap.size, 2, none⟩ = some (.int .i64 x2) := by rw [cell_of_row _ _ _ _ _ _ (heap_alloc_new w _)]; rfl
    have HB := hide (bal w (.cells #[.int .i64 x0, .int .i64 x1, .int .i64 x2] 22))
    generalize w.alloc (.cells #[.int .i64 x0, .int .i64 x1, .int .i64 x2] 22) = wa at *
    go_wp2_with fail
    refine (HP.out _).mono ?_
    rintro e w' ⟨rfl, rfl⟩
    go_wp2_with fail
    refine (HS.out _).mono ?_
    rintro e w' ⟨rfl, rfl⟩
    go_wp2_with fail
    refine (HW.out _).mono ?_
    rintro e w' ⟨rfl, rfl⟩
    go_wp2_with fail
    refine (HRP.out _).mono ?_
    rintro e w' ⟨rfl, rfl⟩
    go_wp2_with fail
    refine (HRS.out _).mono ?_
    rintro e w' ⟨rfl, rfl⟩
    go_wp2_with fail
    refine (HRW.out _).mono ?_
    rintro e w' ⟨rfl, rfl⟩
    go_wp2_with fail
    go_ret
    exact ⟨by simp, HB.out⟩
  | false =>
    rw [show placeV x0 n = _ from if_neg (by rw [hr]; decide)] at HP
    rw [show stepsV x0 x1 n = _ from if_neg (by rw [hr]; decide)] at HS
    rw [show withinV x0 x1 x2 n = _ from if_neg (by rw [hr]; decide)] at HW
    rw [hr] at HM
    have hbig2 : n ≤ 5000 ∨ 1048576 < n := by omega
    clear hbig hr
    rcases hbig2 with hle | hgt
    · go_enter Try.func3, Try.ntmps3
      go_wp2_with fail
      refine (HM.out _).mono ?_
      rintro e w' ⟨rfl, rfl⟩
      have c0 : (w.alloc (.cells #[.int .i64 x0, .int .i64 x1, .int .i64 x2] 22)).cell? ⟨w.heap.size, 0, none⟩ = some (.int .i64 x0) := by rw [cell_of_row _ _ _ _ _ _ (heap_alloc_new w _)]; rfl
      have c1 : (w.alloc (.cells #[.int .i64 x0, .int .i64 x1, .int .i64 x2] 22)).cell? ⟨w.heap.size, 1, none⟩ = some (.int .i64 x1) := by rw [cell_of_row _ _ _ _ _ _ (heap_alloc_new w _)]; rfl
      have c2 : (w.alloc (.cells #[.int .i64 x0, .int .i64 x1, .int .i64 x2] 22)).cell? ⟨w.heap.size, 2, none⟩ = some (.int .i64 x2) := by rw [cell_of_row _ _ _ _ _ _ (heap_alloc_new w _)]; rfl
      have HB := hide (bal w (.cells #[.int .i64 x0, .int .i64 x1, .int .i64 x2] 22))
      generalize w.alloc (.cells #[.int .i64 x0, .int .i64 x1, .int .i64 x2] 22) = wa at *
      go_wp2_with fail
      refine (HP.out _).mono ?_
      rintro e w' ⟨rfl, rfl⟩
      go_wp2_with fail
      refine (HS.out _).mono ?_
      rintro e w' ⟨rfl, rfl⟩
      go_wp2_with fail
      refine (HW.out _).mono ?_
      rintro e w' ⟨rfl, rfl⟩
      go_wp2_with fail
      go_ret
      exact ⟨by simp, HB.out⟩
    · go_enter Try.func3, Try.ntmps3
      go_wp2_with fail
      refine (HM.out _).mono ?_
      rintro e w' ⟨rfl, rfl⟩
      have c0 : (w.alloc (.cells #[.int .i64 x0, .int .i64 x1, .int .i64 x2] 22)).cell? ⟨w.heap.size, 0, none⟩ = some (.int .i64 x0) := by rw [cell_of_row _ _ _ _ _ _ (heap_alloc_new w _)]; rfl
      have c1 : (w.alloc (.cells #[.int .i64 x0, .int .i64 x1, .int .i64 x2] 22)).cell? ⟨w.heap.size, 1, none⟩ = some (.int .i64 x1) := by rw [cell_of_row _ _ _ _ _ _ (heap_alloc_new w _)]; rfl
      have c2 : (w.alloc (.cells #[.int .i64 x0, .int .i64 x1, .int .i64 x2] 22)).cell? ⟨w.heap.size, 2, none⟩ = some (.int .i64 x2) := by rw [cell_of_row _ _ _ _ _ _ (heap_alloc_new w _)]; rfl
      have HB := hide (bal w (.cells #[.int .i64 x0, .int .i64 x1, .int .i64 x2] 22))
      generalize w.alloc (.cells #[.int .i64 x0, .int .i64 x1, .int .i64 x2] 22) = wa at *
      go_wp2_with fail
      refine (HP.out _).mono ?_
      rintro e w' ⟨rfl, rfl⟩
      go_wp2_with fail
      refine (HS.out _).mono ?_
      rintro e w' ⟨rfl, rfl⟩
      go_wp2_with fail
      refine (HW.out _).mono ?_
      rintro e w' ⟨rfl, rfl⟩
      go_wp2_with fail
      go_ret
      exact ⟨by simp, HB.out⟩
end Go.Proofs.Ytmplioglihmkjaa
