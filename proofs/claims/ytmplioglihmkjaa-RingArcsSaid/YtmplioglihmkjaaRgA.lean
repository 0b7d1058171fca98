/-
  Places and steps: the program's own.
-/
import Derived.Test.YtmplioglihmkjaaPl
import Derived.Test.YtmplioglihmkjaaRgM
import Derived.Test.YtmplioglihmkjaaRgN
namespace Go.Proofs.Ytmplioglihmkjaa
open Go.RowKit Go.Shelf
set_option linter.unusedVariables false
set_option linter.unusedSimpArgs false

def ringB (n : Int) : Bool := decide (1 ≤ n ∧ n ≤ 1048576)
theorem isRing_at (n : Int) (w : World) :
    Calls Try.prog 36 #[.int .i64 n] w fun e w' => e = .returned (.bool (ringB n)) ∧ w = w' := by
  by_cases h0 : 1 ≤ n
  · by_cases h1 : n ≤ 1048576
    · have H : Hid (ringB n = true) := decide_eq_true ⟨h0, h1⟩
      go_enter Try.func36, Try.ntmps36
      go_wp2
      go_ret
      exact ⟨by rw [H.out]; simp [h0, h1], rfl⟩
    · have H : Hid (ringB n = false) := decide_eq_false fun h => h1 h.2
      go_enter Try.func36, Try.ntmps36
      go_wp2
      go_ret
      exact ⟨by rw [H.out]; simp [h0, h1], rfl⟩
  · have H : Hid (ringB n = false) := decide_eq_false fun h => h0 h.1
    go_enter Try.func36, Try.ntmps36
    go_wp2
    go_ret
    exact ⟨by rw [H.out]; rfl, rfl⟩

theorem place_at (a n : Int) (ha : I64 a) (h0 : 1 ≤ n) (h1 : n ≤ 1048576) (w : World) :
    Calls Try.prog 37 #[.int .i64 a, .int .i64 n] w fun e w' => e = .returned (.int .i64 (a % n)) ∧ w = w' := by
  have H := hide (show (a.tmod n + n) % n = a % n from by
    have := place_math (a := a) (n := n) (by omega)
    rwa [Int.tmod_eq_emod_of_nonneg (by have := Int.lt_tmod_of_pos a (show 0 < n by omega); omega)] at this)
  have g1 : -n < a.tmod n := Int.lt_tmod_of_pos _ (by omega)
  have g2 : a.tmod n < n := Int.tmod_lt_of_pos _ (by omega)
  have g3 : 0 ≤ (a.tmod n + n) % n := Int.emod_nonneg _ (by omega)
  have g4 : (a.tmod n + n) % n < n := Int.emod_lt_of_pos _ (by omega)
  unfold I64 at ha
  go_enter Try.func37, Try.ntmps37
  go_wp2
  go_ret
  exact ⟨by rw [H.out]; rfl, rfl⟩

theorem steps_at (a b n : Int) (h0 : 1 ≤ n) (h1 : n ≤ 1048576) (ha : 0 ≤ a ∧ a < n) (hb : 0 ≤ b ∧ b < n) (w : World) :
    Calls Try.prog 38 #[.int .i64 a, .int .i64 b, .int .i64 n] w fun e w' => e = .returned (.int .i64 (stp a b n)) ∧ w = w' := by
  have HP := hide (fun W => place_at (b - a) n (by unfold I64; omega) h0 h1 W)
  go_enter Try.func38, Try.ntmps38
  go_wp2_with (go_at_call 37; refine (HP.out _).mono ?_; rintro e w' ⟨rfl, rfl⟩)
  go_ret
  exact ⟨rfl, rfl⟩

def placeV (a n : Int) : Value := if ringB n then .tuple #[.int .i64 (a % n), .int .i64 0] else .tuple #[.int .i64 0, .int .i64 130]
def stepsV (a b n : Int) : Value := if ringB n then .tuple #[.int .i64 (stp (a % n) (b % n) n), .int .i64 0] else .tuple #[.int .i64 0, .int .i64 130]
def withinB (a x b n : Int) : Bool := decide (stp (a % n) (x % n) n ≤ stp (a % n) (b % n) n)
def withinV (a x b n : Int) : Value := if ringB n then .tuple #[.bool (withinB a x b n), .int .i64 0] else .tuple #[.bool false, .int .i64 130]
theorem ringB_t {n : Int} (h : ringB n = true) : 1 ≤ n ∧ n ≤ 1048576 := of_decide_eq_true h

theorem Place_at (a n : Int) (ha : I64 a) (w : World) :
    Calls Try.prog 12 #[.int .i64 a, .int .i64 n] w fun e w' => e = .returned (placeV a n) ∧ w = w' := by
  cases hr : ringB n with
  | true =>
    obtain ⟨h0, h1⟩ := ringB_t hr
    have H : Hid (placeV a n = .tuple #[.int .i64 (a % n), .int .i64 0]) := if_pos hr
    have HP := hide (fun W => place_at a n ha h0 h1 W)
    have HR := hide hr
    clear hr
    go_enter Try.func12, Try.ntmps12
    go_wp2_with fail
    refine (isRing_at _ _).mono ?_
    rintro e w' ⟨rfl, rfl⟩
    rw [HR.out]
    go_wp2_with fail
    refine (HP.out _).mono ?_
    rintro e w' ⟨rfl, rfl⟩
    go_wp2_with fail
    go_ret2
    exact ⟨by rw [H.out]; rfl, rfl⟩
  | false =>
    have H : Hid (placeV a n = .tuple #[.int .i64 0, .int .i64 130]) := if_neg (by rw [hr]; decide)
    have HR := hide hr
    clear hr
    go_enter Try.func12, Try.ntmps12
    go_wp2_with (go_at_call 36; refine (isRing_at _ _).mono ?_; rintro e w' ⟨rfl, rfl⟩; rw [HR.out])
    go_ret2
    exact ⟨by rw [H.out]; rfl, rfl⟩

theorem Steps_at (a b n : Int) (ha : I64 a) (hb : I64 b) (w : World) :
    Calls Try.prog 13 #[.int .i64 a, .int .i64 b, .int .i64 n] w fun e w' => e = .returned (stepsV a b n) ∧ w = w' := by
  cases hr : ringB n with
  | true =>
    obtain ⟨h0, h1⟩ := ringB_t hr
    have H : Hid (stepsV a b n = .tuple #[.int .i64 (stp (a % n) (b % n) n), .int .i64 0]) := if_pos hr
    have HP := hide (fun W => place_at a n ha h0 h1 W)
    have HQ := hide (fun W => place_at b n hb h0 h1 W)
    have HS := hide (fun W => steps_at (a % n) (b % n) n h0 h1 (place_rng (by omega)) (place_rng (by omega)) W)
    have HR := hide hr
    clear hr
    go_enter Try.func13, Try.ntmps13
    go_wp2_with fail
    refine (isRing_at _ _).mono ?_
    rintro e w' ⟨rfl, rfl⟩
    rw [HR.out]
    go_wp2_with fail
    refine (HP.out _).mono ?_
    rintro e w' ⟨rfl, rfl⟩
    go_wp2_with fail
    refine (HQ.out _).mono ?_
    rintro e w' ⟨rfl, rfl⟩
    go_wp2_with fail
    refine (HS.out _).mono ?_
    rintro e w' ⟨rfl, rfl⟩
    go_wp2_with fail
    go_ret2
    exact ⟨by rw [H.out]; rfl, rfl⟩
  | false =>
    have H : Hid (stepsV a b n = .tuple #[.int .i64 0, .int .i64 130]) := if_neg (by rw [hr]; decide)
    have HR := hide hr
    clear hr
    go_enter Try.func13, Try.ntmps13
    go_wp2_with (go_at_call 36; refine (isRing_at _ _).mono ?_; rintro e w' ⟨rfl, rfl⟩; rw [HR.out])
    go_ret2
    exact ⟨by rw [H.out]; rfl, rfl⟩

set_option maxHeartbeats 1000000 in
theorem Within_at (a x b n : Int) (ha : I64 a) (hx : I64 x) (hb : I64 b) (w : World) :
    Calls Try.prog 14 #[.int .i64 a, .int .i64 x, .int .i64 b, .int .i64 n] w fun e w' => e = .returned (withinV a x b n) ∧ w = w' := by
  cases hr : ringB n with
  | true =>
    obtain ⟨h0, h1⟩ := ringB_t hr
    have H : Hid (withinV a x b n = .tuple #[.bool (decide (stp (a % n) (x % n) n ≤ stp (a % n) (b % n) n)), .int .i64 0]) := if_pos hr
    have HP := hide (fun W => place_at a n ha h0 h1 W)
    have HX := hide (fun W => place_at x n hx h0 h1 W)
    have HQ := hide (fun W => place_at b n hb h0 h1 W)
    have HS := hide (fun W => steps_at (a % n) (b % n) n h0 h1 (place_rng (by omega)) (place_rng (by omega)) W)
    have HT := hide (fun W => steps_at (a % n) (x % n) n h0 h1 (place_rng (by omega)) (place_rng (by omega)) W)
    have HR := hide hr
    clear hr
    go_enter Try.func14, Try.ntmps14
    go_wp2_with fail
    refine (isRing_at _ _).mono ?_
    rintro e w' ⟨rfl, rfl⟩
    rw [HR.out]
    go_wp2_with fail
    refine (HP.out _).mono ?_
    rintro e w' ⟨rfl, rfl⟩
    go_wp2_with fail
    refine (HX.out _).mono ?_
    rintro e w' ⟨rfl, rfl⟩
    go_wp2_with fail
    refine (HT.out _).mono ?_
    rintro e w' ⟨rfl, rfl⟩
    go_wp2_with fail
    refine (HQ.out _).mono ?_
    rintro e w' ⟨rfl, rfl⟩
    go_wp2_with fail
    refine (HS.out _).mono ?_
    rintro e w' ⟨rfl, rfl⟩
    go_wp2_with fail
    go_ret2
    exact ⟨by rw [H.out]; rfl, rfl⟩
  | false =>
    have H : Hid (withinV a x b n = .tuple #[.bool false, .int .i64 130]) := if_neg (by rw [hr]; decide)
    have HR := hide hr
    clear hr
    go_enter Try.func14, Try.ntmps14
    go_wp2_with (go_at_call 36; refine (isRing_at _ _).mono ?_; rintro e w' ⟨rfl, rfl⟩; rw [HR.out])
    go_ret2
    exact ⟨by rw [H.out]; rfl, rfl⟩
end Go.Proofs.Ytmplioglihmkjaa
