/-
  RingRound's walk.
-/
import Derived.Test.YtmplioglihmkjaaRgD
namespace Go.Proofs.Ytmplioglihmkjaa
open Go.RowKit Go.Shelf
set_option linter.unusedVariables false
set_option linter.unusedSimpArgs false

theorem round_math {A B C n : Int} (hA : 0 ≤ A ∧ A < n) (hB : 0 ≤ B ∧ B < n) (hC : 0 ≤ C ∧ C < n) :
    (A + stp A B n) % n = B ∧ (stp A B n + stp B A n = 0 ∨ stp A B n + stp B A n = n) ∧ (stp A B n + stp B C n) % n = stp A C n ∧ (stp A B n ≤ stp A C n ↔ stp A B n + stp B C n = stp A C n) := by
  rw [stp_eq hA hB, stp_eq hB hA, stp_eq hB hC, stp_eq hA hC]
  refine ⟨?_, ?_, ?_, ?_⟩
  · rw [mod2 (by split <;> omega) (by split <;> omega)]; split <;> split <;> omega
  · split <;> split <;> omega
  · rw [mod2 (by split <;> split <;> omega) (by split <;> split <;> omega)]; split <;> split <;> split <;> split <;> omega
  · split <;> split <;> split <;> omega

set_option maxRecDepth 100000 in
set_option maxHeartbeats 4000000 in
theorem round_walk (x0 x1 x2 : Int) (n : Nat) (h0 : I64 x0) (h1 : I64 x1) (h2 : I64 x2) (hn : n < 65536) (w : World) :
    Calls Try.prog 7 #[.agg #[.int .i64 x0, .int .i64 x1, .int .i64 x2], .int .u16 n] w fun e w' => e = .returned (.bool true) ∧ Below w.heap.size w w' := by
  obtain ⟨z, hz⟩ : ∃ z, z = n % 5000 := ⟨_, rfl⟩
  have hmod : (n : Int).tmod 5000 = (z : Int) := by rw [hz]; rfl
  have hmod2 : (n : Int) % 5000 = (z : Int) := by rw [hz]; rfl
  have hz5 : z < 5000 := by omega
  clear hz
  have hr : ringB (1 + (z : Int)) = true := decide_eq_true (by omega)
  have HAB := hide (fun W => Steps_at x0 x1 (1 + (z : Int)) h0 h1 W)
  have HBA := hide (fun W => Steps_at x1 x0 (1 + (z : Int)) h1 h0 W)
  have HBC := hide (fun W => Steps_at x1 x2 (1 + (z : Int)) h1 h2 W)
  have HAC := hide (fun W => Steps_at x0 x2 (1 + (z : Int)) h0 h2 W)
  have HA := hide (fun W => Place_at x0 (1 + (z : Int)) h0 W)
  have HB := hide (fun W => Place_at x1 (1 + (z : Int)) h1 W)
  have HW := hide (fun W => Within_at x0 x1 x2 (1 + (z : Int)) h0 h1 h2 W)
  rw [show stepsV x0 x1 _ = _ from if_pos hr] at HAB
  rw [show stepsV x1 x0 _ = _ from if_pos hr] at HBA
  rw [show stepsV x1 x2 _ = _ from if_pos hr] at HBC
  rw [show stepsV x0 x2 _ = _ from if_pos hr] at HAC
  rw [show placeV x0 _ = _ from if_pos hr] at HA
  rw [show placeV x1 _ = _ from if_pos hr] at HB
  rw [show withinV x0 x1 x2 _ = _ from if_pos hr] at HW
  unfold withinB at HW
  have rA := place_rng (a := x0) (n := 1 + (z : Int)) (by omega)
  have rB := place_rng (a := x1) (n := 1 + (z : Int)) (by omega)
  have rC := place_rng (a := x2) (n := 1 + (z : Int)) (by omega)
  obtain ⟨m1, m2, m3, m4⟩ := round_math rA rB rC
  have sAB := stp_rng (a := x0 % (1 + (z : Int))) (b := x1 % (1 + (z : Int))) (n := 1 + (z : Int)) (by omega)
  have sBA := stp_rng (a := x1 % (1 + (z : Int))) (b := x0 % (1 + (z : Int))) (n := 1 + (z : Int)) (by omega)
  have sBC := stp_rng (a := x1 % (1 + (z : Int))) (b := x2 % (1 + (z : Int))) (n := 1 + (z : Int)) (by omega)
  have sAC := stp_rng (a := x0 % (1 + (z : Int))) (b := x2 % (1 + (z : Int))) (n := 1 + (z : Int)) (by omega)
  generalize stp (x0 % (1 + (z : Int))) (x1 % (1 + (z : Int))) (1 + (z : Int)) = ab at *
  generalize stp (x1 % (1 + (z : Int))) (x0 % (1 + (z : Int))) (1 + (z : Int)) = ba at *
  generalize stp (x1 % (1 + (z : Int))) (x2 % (1 + (z : Int))) (1 + (z : Int)) = bc at *
  generalize stp (x0 % (1 + (z : Int))) (x2 % (1 + (z : Int))) (1 + (z : Int)) = ac at *
  generalize x0 % (1 + (z : Int)) = A at *
  generalize x1 % (1 + (z : Int)) = B at *
  clear rC
  have HON := hide (fun W => Place_at (A + ab) (1 + (z : Int)) (by unfold I64; omega) W)
  rw [show placeV (A + ab) _ = _ from if_pos hr, m1] at HON
  have HM2 := hide m2
  have HM3 := hide m3
  have HM4 := hide m4
  obtain ⟨a1, a2⟩ := sAB
  obtain ⟨b1, b2⟩ := sBA
  obtain ⟨c1, c2⟩ := sBC
  obtain ⟨d1, d2⟩ := sAC
  obtain ⟨p1, p2⟩ := rA
  obtain ⟨q1, q2⟩ := rB
  clear m1 m2 m3 m4 hr h0 h1 h2
  go_enter Try.func7, Try.ntmps7
  go_wp2_with fail
  refine (alive_at _).mono ?_
  rintro e w' ⟨rfl, rfl⟩
  have c0 : (w.alloc (.cells #[.int .i64 x0, .int .i64 x1, .int .i64 x2] 22)).cell? ⟨w.heap.size, 0, none⟩ = some (.int .i64 x0) := by rw [cell_of_row _ _ _ _ _ _ (heap_alloc_new w _)]; rfl
  have c1 : (w.alloc (.cells #[.int .i64 x0, .int .i64 x1, .int .i64 x2] 22)).cell? ⟨w.heap.size, 1, none⟩ = some (.int .i64 x1) := by rw [cell_of_row _ _ _ _ _ _ (heap_alloc_new w _)]; rfl
  have c2 : (w.alloc (.cells #[.int .i64 x0, .int .i64 x1, .int .i64 x2] 22)).cell? ⟨w.heap.size, 2, none⟩ = some (.int .i64 x2) := by rw [cell_of_row _ _ _ _ _ _ (heap_alloc_new w _)]; rfl
  have HBw := hide (bal w (.cells #[.int .i64 x0, .int .i64 x1, .int .i64 x2] 22))
  generalize w.alloc (.cells #[.int .i64 x0, .int .i64 x1, .int .i64 x2] 22) = wa at *
  go_wp2_with fail
  refine (HAB.out _).mono ?_
  rintro e w' ⟨rfl, rfl⟩
  go_wp2_with fail
  refine (HBA.out _).mono ?_
  rintro e w' ⟨rfl, rfl⟩
  go_wp2_with fail
  refine (HBC.out _).mono ?_
  rintro e w' ⟨rfl, rfl⟩
  go_wp2_with fail
  refine (HAC.out _).mono ?_
  rintro e w' ⟨rfl, rfl⟩
  go_wp2_with fail
  refine (HA.out _).mono ?_
  rintro e w' ⟨rfl, rfl⟩
  go_wp2_with fail
  refine (HB.out _).mono ?_
  rintro e w' ⟨rfl, rfl⟩
  go_wp2_with fail
  refine (HON.out _).mono ?_
  rintro e w' ⟨rfl, rfl⟩
  go_wp2_with fail
  refine (HW.out _).mono ?_
  rintro e w' ⟨rfl, rfl⟩
  have m3 := HM3.out
  have HM4b := hide (show (ab + bc == ac) = decide (ab ≤ ac) by
    rw [Bool.eq_iff_iff, beq_iff_eq, decide_eq_true_iff]; exact HM4.out.symm)
  have m4 := HM4b.out
  have HL := hide (show decide (ab ≤ ac) = decide (ab ≤ ac) from rfl)
  generalize hd : decide (ab ≤ ac) = d at *
  clear HAB HBA HBC HAC HA HB HON HW
  rcases HM2.out with m2 | m2
  · have f1 : (ab + ba != 0) = false := by simp [m2]
    clear m2
    cases d with
    | true =>
      go_wp2_with fail
      go_ret
      exact ⟨rfl, HBw.out⟩
    | false =>
      go_wp2_with fail
      go_ret
      exact ⟨rfl, HBw.out⟩
  · have f1 : (ab + ba != 0) = true := by simp; omega
    have f2 : (ab + ba != 1 + (z : Int)) = false := by simp [m2]
    clear m2
    cases d with
    | true =>
      go_wp2_with fail
      go_ret
      exact ⟨rfl, HBw.out⟩
    | false =>
      go_wp2_with fail
      go_ret
      exact ⟨rfl, HBw.out⟩
end Go.Proofs.Ytmplioglihmkjaa
