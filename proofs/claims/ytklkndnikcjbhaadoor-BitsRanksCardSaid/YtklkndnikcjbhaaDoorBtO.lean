/-
  Next: the least greater set of the same size.
-/
import Derived.Test.YtklkndnikcjbhaaDoorBtA
namespace Go.Proofs.YtklkndnikcjbhaaDoor
open Go.RowKit Go.Shelf
set_option linter.unusedVariables false
set_option linter.unusedSimpArgs false

def nextV (s : Nat) (n : Int) : Value := if n < 0 ∨ 64 < n then .tuple #[.int .u64 0, .bool false] else match nextF s n.toNat with
  | some x => .tuple #[.int .u64 (x : Nat), .bool true]
  | none => .tuple #[.int .u64 0, .bool false]
theorem neg_u64 (s : Nat) : IntKind.u64.wrap (-(s : Int)) = (((18446744073709551616 - s % 18446744073709551616) % 18446744073709551616 : Nat) : Int) := by rw [IntKind.wrap_u64]; omega

set_option maxHeartbeats 4000000 in
theorem next_at (s : Nat) (hs : s < 18446744073709551616) (n : Int) (w : World) :
    Calls Tryd.prog 28 #[.int .u64 s, .int .i64 n] w fun e w' => e = .returned (nextV s n) ∧ w = w' := by
  by_cases h1 : n < 0
  · have H := hide (show nextV s n = .tuple #[.int .u64 0, .bool false] from if_pos (.inl h1))
    go_enter Tryd.func28, Tryd.ntmps28
    go_wp2
    go_ret2
    exact ⟨by rw [H.out]; rfl, rfl⟩
  · by_cases h2 : 64 < n
    · have H := hide (show nextV s n = .tuple #[.int .u64 0, .bool false] from if_pos (.inr h2))
      go_enter Tryd.func28, Tryd.ntmps28
      go_wp2
      go_ret2
      exact ⟨by rw [H.out]; rfl, rfl⟩
    · obtain ⟨n, rfl⟩ := Int.eq_ofNat_of_zero_le (show 0 ≤ n by omega)
      have hn : n ≤ 64 := by omega
      have HV := hide (show nextV s (n : Int) = (match nextF s n with
        | some x => .tuple #[.int .u64 (x : Nat), .bool true]
        | none => .tuple #[.int .u64 0, .bool false]) from by
          unfold nextV
          rw [if_neg (by omega), Int.toNat_natCast])
      clear h1 h2
      by_cases h0 : s = 0
      · subst h0
        have HN := hide (show nextF 0 n = none from by simp [nextF])
        have e0 : IntKind.u64.wrap (-(0 : Int)) = 0 := by decide
        have e1 : bits .and .u64 0 0 = 0 := by decide
        go_enter Tryd.func28, Tryd.ntmps28
        go_wp2
        go_ret2
        exact ⟨by rw [HV.out, HN.out]; rfl, rfl⟩
      · obtain ⟨a, b, A, ha, hab, hb, hsh, hA, hN⟩ := nextF_shape (n := n) h0 hs
        have hlow := (Lib.lowest_bit 64 s h0 hs).1
        rw [← ha] at hlow
        have hpa : 2 ^ a < 18446744073709551616 := by
          have : 2 ^ a < 2 ^ 64 := Nat.pow_lt_pow_right (by decide) (by omega)
          omega
        have e1 : bits .and .u64 (s : Int) (IntKind.u64.wrap (-(s : Int))) = ((2 ^ a : Nat) : Int) := by
          rw [show IntKind.u64.wrap (-(s : Int)) = ((18446744073709551616 - s : Nat) : Int) by rw [IntKind.wrap_u64]; omega]
          rw [u64_and_nat s _ hs (by omega)]
          exact congrArg _ hlow
        have e2 : IntKind.u64.wrap ((s : Int) + ((2 ^ a : Nat) : Int)) = (((s + 2 ^ a) % 18446744073709551616 : Nat) : Int) := by rw [IntKind.wrap_u64]; omega
        rcases hN with ⟨h64, hnone, hr0⟩ | ⟨hlt, hr, hrne, hnx, hsome⟩
        · have hr0' : (s + 2 ^ a) % 18446744073709551616 = 0 := hr0
          rw [hr0'] at e2
          rw [hnone] at HV
          clear hsh hA ha hlow hr0 hr0' h0
          generalize 2 ^ a = p at *
          go_enter Tryd.func28, Tryd.ntmps28
          go_wp2
          go_ret2
          exact ⟨by rw [HV.out]; rfl, rfl⟩
        · have hX : (s + 2 ^ a) % 18446744073709551616 = 2 ^ (b + 1) * A + 2 ^ b := hr
          have hle := left_eq (A := A) hab
          rw [← hsh, ← hX] at hle
          have hor := next_or (A := A) hab
          rw [← hX, ← hle] at hor
          have hne : (s + 2 ^ a) % 18446744073709551616 ≠ 0 := hrne
          have hrlt : (s + 2 ^ a) % 18446744073709551616 < 18446744073709551616 := Nat.mod_lt _ (by decide)
          have hp0 : 0 < 2 ^ a := Nat.two_pow_pos a
          generalize (s + 2 ^ a) % 18446744073709551616 = R at *
          generalize 2 ^ a = p at *
          have e3 : bits .xor .u64 (s : Int) (R : Int) = ((s ^^^ R : Nat) : Int) := u64_xor_nat s R hs hrlt
          have hylt : s ^^^ R < 18446744073709551616 := Nat.xor_lt_two_pow (n := 64) hs hrlt
          have hnx' : nxt a b A < 18446744073709551616 := hnx
          have hq : (s ^^^ R) / p / 4 < 18446744073709551616 := by
            have h1 : (s ^^^ R) / p ≤ s ^^^ R := Nat.div_le_self _ _
            omega
          have hq1 : (s ^^^ R) / p < 18446744073709551616 := Nat.lt_of_le_of_lt (Nat.div_le_self _ _) hylt
          have e4 : IntKind.u64.wrap (((s ^^^ R : Nat) : Int) / (p : Int)) = (((s ^^^ R) / p : Nat) : Int) := by
            rw [show ((s ^^^ R : Nat) : Int) / (p : Int) = (((s ^^^ R) / p : Nat) : Int) from rfl, IntKind.wrap_u64]
            omega
          have e5 : bits .or .u64 (R : Int) ((((s ^^^ R) / p : Nat) : Int) / 4) = ((nxt a b A : Nat) : Int) := by
            rw [← hor]
            exact u64_or_nat R ((s ^^^ R) / p / 4) hrlt hq
          have HNX := hide (fun W => isBelow_at (nxt a b A) hnx' n hn W)
          have HBe : Hid (nextF s n = if belowB (nxt a b A) n = true then some (nxt a b A) else none) := by
            show _ = _
            rw [hsome]
            unfold belowB
            simp only [decide_eq_true_eq]
          clear hsome hor hle hX hr hrne hnx hsh hA ha hlow h0
          generalize (s ^^^ R) / p = q at *
          generalize s ^^^ R = y at *
          generalize nxt a b A = x at *
          have hRz : ((R : Int) == 0) = false := by simpa using hne
          cases hbl : belowB x n with
          | true =>
            rw [hbl] at HBe HNX
            rw [if_pos rfl] at HBe
            rw [HBe.out] at HV
            clear HBe hbl
            go_enter Tryd.func28, Tryd.ntmps28
            go_wp2_with (refine (HNX.out _).mono ?_; rintro e w' ⟨rfl, rfl⟩)
            go_ret2
            exact ⟨by rw [HV.out]; rfl, rfl⟩
          | false =>
            rw [hbl] at HBe HNX
            rw [if_neg (by decide)] at HBe
            rw [HBe.out] at HV
            clear HBe hbl
            go_enter Tryd.func28, Tryd.ntmps28
            go_wp2_with (refine (HNX.out _).mono ?_; rintro e w' ⟨rfl, rfl⟩)
            go_ret2
            exact ⟨by rw [HV.out]; rfl, rfl⟩
end Go.Proofs.YtklkndnikcjbhaaDoor
