/-
  The document's own sums: steps, More and Sum say what the plain mathematics says.
-/
import Derived.Test.YtihldmcakcobaaaSum
namespace Go.Proofs.Ytihldmcakcobaaa
open Go.RowKit
set_option linter.unusedVariables false

set_option maxHeartbeats 400000 in
theorem rsteps_any (n : Nat) (w : World) (h : n < 4294967296) :
    Calls Try.prog 35 #[.int .u32 n] w fun e w' => e = .returned (.int .u32 (SumMath.steps 8 n : Nat)) ∧ w = w' := by
  go_enter Try.func35, Try.ntmps35
  go_wp2
  go_loop [0, 3, 4] (fun t i _ => ∃ k : Nat, k ≤ 8 ∧ i = .int .i64 k ∧ t = .int .u32 (SumMath.steps k n : Nat)) (fun _ i _ => 8 - (intOf i).toNat)
  case atStart => exact ⟨0, by omega, rfl, rfl⟩
  case round =>
    obtain ⟨k, hk, rfl, rfl⟩ := hrel
    have hs := SumMath.steps_lt k h
    have H : Hid (SumMath.steps (k + 1) n = SumMath.step (SumMath.steps k n)) := SumMath.steps_succ k n
    by_cases hlt : k < 8
    · generalize SumMath.steps k n = s at hs H
      rcases Nat.mod_two_eq_zero_or_one s with ho | ho
      · have H2 := hide (SumMath.step_even s ho)
        have ht : (((s : Nat) : Int) % 2 == 1) = false := by rw [show ((s : Int) % 2) = ((s % 2 : Nat) : Int) by omega, ho]; rfl
        clear ho
        go_wp2
        go_round
        case rel => exact ⟨k + 1, by omega, by go_num, by rw [H.out, H2.out]; go_num⟩
        case measure => simp [intOf]; omega
      · have H2 := hide (SumMath.step_odd s ho)
        have hx : bits .xor .u32 ((s : Int) / 2) 3988292384 = ((s / 2 ^^^ 3988292384 : Nat) : Int) := by
          rw [show ((s : Int) / 2) = ((s / 2 : Nat) : Int) by omega]; exact xor_u32 (s / 2) 3988292384 (by omega) (by omega)
        have ht : (((s : Nat) : Int) % 2 == 1) = true := by rw [show ((s : Int) % 2) = ((s % 2 : Nat) : Int) by omega, ho]; rfl
        clear ho
        go_wp2
        go_round
        case rel => exact ⟨k + 1, by omega, by go_num, by rw [H.out, H2.out]⟩
        case measure => simp [intOf]; omega
    · obtain rfl : k = 8 := by omega
      go_wp2
      go_ret
      exact ⟨rfl, rfl⟩

theorem sub_flip (n : Nat) (h : n < 4294967296) : (4294967295 : Int) - (n : Int) = ((SumMath.flip n : Nat) : Int) := by
  unfold SumMath.flip; omega

set_option maxHeartbeats 400000 in
theorem rmore_at (l : List Nat) (s n : Nat) (A : Option Addr) (cap : Nat) (w : World) (h : s < 4294967296) (hn : l.length = n) (hB : Bytes w A l) (hm : n ≤ 1000000) :
    Calls Try.prog 32 #[.int .u32 s, .slice A n cap] w fun e w' => e = .returned (.int .u32 (SumMath.more s l : Nat)) ∧ w = w' := by
  subst hn
  have hf := sub_flip s h
  go_enter Try.func32, Try.ntmps32
  go_wp2
  clear hf
  go_loop [5, 6] (fun n i => ∃ k : Nat, k ≤ l.length ∧ i = .int .i64 k ∧ n = .int .u32 (SumMath.put (SumMath.flip s) (l.take k) : Nat)) (fun _ i => l.length - (intOf i).toNat)
  case atStart => exact ⟨0, by omega, rfl, rfl⟩
  case round =>
    obtain ⟨k, hk, rfl, rfl⟩ := hrel
    have hp := SumMath.put_lt (l.take k) (SumMath.flip_lt s) (fun c hc => hB.1 c (List.mem_of_mem_take hc))
    by_cases hlt : k < l.length
    · obtain ⟨b, off, rfl, hb, hcell⟩ := hB.at hlt
      have hc := hcell k hlt
      have hc2 := hB.byte k
      have H := hide (take_snoc l k hlt)
      clear hcell
      generalize l.getD k 0 = c at hc hc2 H
      generalize SumMath.flip s = t at hp H
      have hx : bits .xor .u32 ((SumMath.put t (l.take k) : Nat) : Int) (c : Int) = ((SumMath.put t (l.take k) ^^^ c : Nat) : Int) := xor_u32 _ _ hp (by omega)
      have hx2 := SumMath.xor_lt hp (show c < 4294967296 by omega)
      have H2 := hide (show SumMath.put t (l.take (k + 1)) = SumMath.steps 8 (SumMath.put t (l.take k) ^^^ c) by rw [H]; exact SumMath.put_snoc _ _ _)
      clear H
      go_wp2_with (go_at_call 35; refine (rsteps_any _ _ hx2).mono ?_; rintro e w' ⟨rfl, rfl⟩)
      go_round
      case rel => exact ⟨k + 1, by omega, by go_num, by rw [H2.out]⟩
      case measure => simp [intOf]; omega
    · obtain rfl : k = l.length := by omega
      rw [List.take_length] at hp
      have hf2 := sub_flip _ hp
      have H := hide (show SumMath.more s l = SumMath.flip (SumMath.put (SumMath.flip s) l) from rfl)
      rw [List.take_length]
      have HF := hide hf2; clear hf2
      go_wp2
      go_ret
      exact ⟨ret_int (by rw [H.out, ← HF.out]), rfl⟩

set_option maxHeartbeats 400000 in
theorem rsum_at (l : List Nat) (n : Nat) (A : Option Addr) (cap : Nat) (w : World) (hn : l.length = n) (hB : Bytes w A l) (hm : n ≤ 1000000) :
    Calls Try.prog 23 #[.slice A n cap] w fun e w' => e = .returned (.int .u32 (SumMath.more 0 l : Nat)) ∧ w = w' := by
  have H := hide hn; clear hn
  go_enter Try.func23, Try.ntmps23
  go_wp2_with (go_at_call 32; refine (rmore_at l 0 _ _ _ _ (by omega) H hB hm).mono ?_; rintro e w' ⟨rfl, rfl⟩)
  go_ret
  exact ⟨rfl, rfl⟩

end Go.Proofs.Ytihldmcakcobaaa
