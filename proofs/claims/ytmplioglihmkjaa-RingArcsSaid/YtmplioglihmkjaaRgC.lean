/-
  The document's own places and steps; RingPlaces' and RingRound's walks.
-/
import Derived.Test.YtmplioglihmkjaaRgB
namespace Go.Proofs.Ytmplioglihmkjaa
open Go.RowKit Go.Shelf
set_option linter.unusedVariables false
set_option linter.unusedSimpArgs false

theorem rplace_at (a n : Int) (ha : I64 a) (h0 : 1 ≤ n) (h1 : n ≤ 1048576) (w : World) :
    Calls Try.prog 15 #[.int .i64 a, .int .i64 n] w fun e w' => e = .returned (.int .i64 (a % n)) ∧ w = w' := by
  have g1 : -n < a.tmod n := Int.lt_tmod_of_pos _ (by omega)
  have g2 : a.tmod n < n := Int.tmod_lt_of_pos _ (by omega)
  have hd := Int.tmod_add_mul_tdiv a n
  by_cases hneg : a.tmod n < 0
  · have H := hide (show a.tmod n + n = a % n from by
      have h2 : a.tmod n = a - n * a.tdiv n := by omega
      have : (a.tmod n + n) % n = a % n := by rw [Int.add_emod_right, h2, Int.sub_eq_add_neg, ← Int.mul_neg, Int.add_mul_emod_self_left]
      rw [← this, Int.emod_eq_of_lt (by omega) (by omega)])
    clear hd
    unfold I64 at ha
    go_enter Try.func15, Try.ntmps15
    go_wp2
    go_ret
    exact ⟨by rw [← H.out]; rfl, rfl⟩
  · have H := hide (show a.tmod n = a % n from by
      have h2 : a.tmod n = a - n * a.tdiv n := by omega
      have : a.tmod n % n = a % n := by rw [h2, Int.sub_eq_add_neg, ← Int.mul_neg, Int.add_mul_emod_self_left]
      rw [← this, Int.emod_eq_of_lt (by omega) (by omega)])
    clear hd
    unfold I64 at ha
    go_enter Try.func15, Try.ntmps15
    go_wp2
    go_ret
    exact ⟨by rw [← H.out]; rfl, rfl⟩

theorem rsteps_at (a b n : Int) (ha : I64 a) (hb : I64 b) (h0 : 1 ≤ n) (h1 : n ≤ 1048576) (w : World) :
    Calls Try.prog 16 #[.int .i64 a, .int .i64 b, .int .i64 n] w fun e w' => e = .returned (.int .i64 (stp (a % n) (b % n) n)) ∧ w = w' := by
  have HP := hide (fun W => rplace_at a n ha h0 h1 W)
  have HQ := hide (fun W => rplace_at b n hb h0 h1 W)
  have ra := place_rng (a := a) (n := n) (by omega)
  have rb := place_rng (a := b) (n := n) (by omega)
  have H := hide (stp_eq ra rb)
  generalize a % n = x at *
  generalize b % n = y at *
  obtain ⟨ra1, ra2⟩ := ra
  obtain ⟨rb1, rb2⟩ := rb
  by_cases hc : y < x
  · go_enter Try.func16, Try.ntmps16
    go_wp2_with fail
    refine (HP.out _).mono ?_
    rintro e w' ⟨rfl, rfl⟩
    go_wp2_with fail
    refine (HQ.out _).mono ?_
    rintro e w' ⟨rfl, rfl⟩
    go_wp2_with fail
    go_ret
    exact ⟨by rw [H.out, if_neg (by omega)]; exact ret_int (show y + n - x = y - x + n by omega), rfl⟩
  · go_enter Try.func16, Try.ntmps16
    go_wp2_with fail
    refine (HP.out _).mono ?_
    rintro e w' ⟨rfl, rfl⟩
    go_wp2_with fail
    refine (HQ.out _).mono ?_
    rintro e w' ⟨rfl, rfl⟩
    go_wp2_with fail
    go_ret
    exact ⟨by rw [H.out, if_pos (by omega)]; rfl, rfl⟩

/-- where one is behind so many steps -/
theorem walk_one {A X n : Int} {i : Nat} (hn : 1 ≤ n) (hA : 0 ≤ A ∧ A < n) (hX : 0 ≤ X ∧ X < n) (hi : (i : Int) ≤ stp A X n) (hin : (i : Int) < n) :
    ((A + i) % n = X ↔ (i : Int) = stp A X n) := by
  rw [stp_eq hA hX] at *
  rw [mod2 (by omega) (by omega)]
  constructor
  · intro h; split at hi <;> split at h <;> split <;> omega
  · intro h; split at h <;> split <;> omega

set_option maxHeartbeats 1000000 in
theorem rwithin_at (a x b n : Int) (ha : I64 a) (hx : I64 x) (hb : I64 b) (h0 : 1 ≤ n) (h1 : n ≤ 1048576) (w : World) :
    Calls Try.prog 17 #[.int .i64 a, .int .i64 x, .int .i64 b, .int .i64 n] w fun e w' => e = .returned (.bool (withinB a x b n)) ∧ w = w' := by
  have HP := hide (fun W => rplace_at a n ha h0 h1 W)
  have HX := hide (fun W => rplace_at x n hx h0 h1 W)
  have HQ := hide (fun W => rplace_at b n hb h0 h1 W)
  have ra := place_rng (a := a) (n := n) (by omega)
  have rx := place_rng (a := x) (n := n) (by omega)
  have rb := place_rng (a := b) (n := n) (by omega)
  have H := hide (show withinB a x b n = decide (stp (a % n) (x % n) n ≤ stp (a % n) (b % n) n) from rfl)
  generalize withinB a x b n = r at *
  generalize a % n = A at *
  generalize x % n = X at *
  generalize b % n = B at *
  have HRx := hide rx
  have HRb := hide rb
  have HRa := hide ra
  have sx := stp_rng (a := A) (b := X) (n := n) (by omega)
  have sb := stp_rng (a := A) (b := B) (n := n) (by omega)
  have HSx := hide (fun i : Nat => walk_one (i := i) h0 ra rx)
  have HSb := hide (fun i : Nat => walk_one (i := i) h0 ra rb)
  generalize stp A X n = sX at *
  generalize stp A B n = sB at *
  obtain ⟨N, rfl⟩ := Int.eq_ofNat_of_zero_le (show 0 ≤ n by omega)
  obtain ⟨sx1, sx2⟩ := sx
  obtain ⟨sb1, sb2⟩ := sb
  clear ra rx rb ha hx hb
  go_enter Try.func17, Try.ntmps17
  go_wp2_with fail
  refine (HP.out _).mono ?_
  rintro e w' ⟨rfl, rfl⟩
  go_wp2_with fail
  refine (HQ.out _).mono ?_
  rintro e w' ⟨rfl, rfl⟩
  go_wp2_with fail
  refine (HX.out _).mono ?_
  rintro e w' ⟨rfl, rfl⟩
  go_wp2_with fail
  go_loop [9, 12, 8] (fun z iv r => ∃ i : Nat, (i : Int) ≤ sX ∧ (i : Int) ≤ sB ∧ iv = .int .i64 i ∧ z = .int .i64 ((A + i) % N)) (fun _ iv _ => N - (intOf iv).toNat)
  case atStart => exact ⟨0, by omega, by omega, rfl, by rw [show A + ((0 : Nat) : Int) = A by omega, Int.emod_eq_of_lt HRa.out.1 HRa.out.2]⟩
  case round =>
    obtain ⟨i, hX, hB, rfl, rfl⟩ := hrel
    have hiN : (i : Int) < (N : Int) := by omega
    have hx := HSx.out i hX hiN
    have hb := HSb.out i hB hiN
    have HN := hide (show ((A + i) % N + 1) % N = (A + (i + 1 : Nat)) % N from by rw [Int.emod_add_emod]; congr 1; omega)
    have HZ := hide (place_rng (a := A + i) (n := N) (by omega))
    have HP1 := hide (fun W => rplace_at ((A + i) % N + 1) N (by have := HZ.out; unfold I64; omega) h0 h1 W)
    rw [HN.out] at HP1
    generalize (A + (i : Int)) % (N : Int) = z at *
    obtain ⟨z1, z2⟩ := HZ.out
    by_cases hzx : z = X
    · have e : (z == X) = true := beq_iff_eq.2 hzx
      have HV := hide (show r = true by rw [H.out]; exact decide_eq_true (by have := hx.1 hzx; omega))
      clear hx hb hzx
      go_wp2_with fail
      go_ret
      exact ⟨by rw [HV.out]; rfl, rfl⟩
    · have e : (z == X) = false := beq_eq_false_iff_ne.2 hzx
      have hne : ¬ (i : Int) = sX := fun h => hzx (hx.2 h)
      by_cases hzb : z = B
      · have e2 : (z == B) = true := beq_iff_eq.2 hzb
        have HV := hide (show r = false by rw [H.out]; exact decide_eq_false (by have := hb.1 hzb; omega))
        clear hx hb hzx hzb
        go_wp2_with fail
        go_ret
        exact ⟨by rw [HV.out]; rfl, rfl⟩
      · have e2 : (z == B) = false := beq_eq_false_iff_ne.2 hzb
        have hne2 : ¬ (i : Int) = sB := fun h => hzb (hb.2 h)
        clear hx hb hzx hzb
        go_wp2_with fail
        refine (HP1.out _).mono ?_
        rintro e w' ⟨rfl, rfl⟩
        go_wp2_with fail
        go_round
        case rel => exact ⟨i + 1, by omega, by omega, by go_num, rfl⟩
        case measure => simp [intOf]; omega
end Go.Proofs.Ytmplioglihmkjaa
