/-
  Eight steps of a sum, told.
-/
import Derived.Test.YtmckidepbibpgaaGreatDoorChkA
import Derived.Test.YtmckidepbibpgaaGreatDoorMath
import Derived.WalkKit
import Derived.WalkSpells
import Derived.WalkLawsBesides
import Derived.BigQuiet
namespace Go.Proofs.YtmckidepbibpgaaGreatDoor
open Go.RowKit
set_option linter.unusedVariables false
set_option linter.unusedSimpArgs false

theorem oret_int {k : IntKind} {a b : Int} (h : a = b) : Ending.returned (.int k a) = .returned (.int k b) := by rw [h]
theorem oxor_u32 (a b : Nat) (ha : a < 4294967296) (hb : b < 4294967296) : bits .xor .u32 (a : Int) (b : Int) = ((a ^^^ b : Nat) : Int) := u32_xor_nat a b ha hb
theorem obit_u32 (n : Nat) (h : n < 4294967296) : bits .and .u32 (n : Int) 1 = ((n % 2 : Nat) : Int) := by
  rw [show bits .and .u32 (n : Int) 1 = ((n &&& 1 : Nat) : Int) from u32_and_nat n 1 h (by omega), nat_mask1]
set_option maxHeartbeats 400000 in
theorem ostep_any (n : Nat) (w : World) (h : n < 4294967296) :
    Calls Tryz.prog 261 #[.int .u32 n] w fun e w' => e = .returned (.int .u32 (SumMath.step n : Nat)) ∧ w = w' := by
  rcases Nat.mod_two_eq_zero_or_one n with ho | ho
  · have ht : (bits .and .u32 (n : Int) 1 == 1) = false := by rw [obit_u32 n h, ho]; rfl
    have H := hide ho; clear ho
    go_enter Tryz.func261, Tryz.ntmps261
    go_wp2
    go_ret
    exact ⟨oret_int (by rw [SumMath.step_even n H]; omega), rfl⟩
  · have ht : (bits .and .u32 (n : Int) 1 == 1) = true := by rw [obit_u32 n h, ho]; rfl
    have H := hide ho; clear ho
    go_enter Tryz.func261, Tryz.ntmps261
    go_wp2
    go_ret
    exact ⟨oret_int (by rw [SumMath.step_odd n H, show ((n : Int) / 2) = ((n / 2 : Nat) : Int) by omega]; exact oxor_u32 (n / 2) 3988292384 (by omega) (by omega)), rfl⟩
set_option maxHeartbeats 400000 in
theorem oeight_any (n : Nat) (w : World) (h : n < 4294967296) :
    Calls Tryz.prog 215 #[.int .u32 n] w fun e w' => e = .returned (.int .u32 (SumMath.steps 8 n : Nat)) ∧ w = w' := by
  go_enter Tryz.func215, Tryz.ntmps215
  go_wp2
  go_loop [0, 3] (fun t i => ∃ k : Nat, k ≤ 8 ∧ i = .int .i64 k ∧ t = .int .u32 (SumMath.steps k n : Nat)) (fun _ i => 8 - (intOf i).toNat)
  case atStart => exact ⟨0, by omega, rfl, rfl⟩
  case round =>
    obtain ⟨k, hk, rfl, rfl⟩ := hrel
    have hs := SumMath.steps_lt k h
    have H : Hid (SumMath.steps (k + 1) n = SumMath.step (SumMath.steps k n)) := SumMath.steps_succ k n
    by_cases hlt : k < 8
    · go_wp2_with (go_at_call 261; refine (ostep_any _ _ hs).mono ?_; rintro e w' ⟨rfl, rfl⟩)
      go_round
      case rel => exact ⟨k + 1, by omega, by go_num, by rw [H.out]⟩
      case measure => simp [intOf]; omega
    · obtain rfl : k = 8 := by omega
      go_wp2
      go_ret
      exact ⟨rfl, rfl⟩
end Go.Proofs.YtmckidepbibpgaaGreatDoor
