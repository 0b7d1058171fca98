/-
  The walk of SumSealed: any bytes with their sum behind, the lowest byte first, have the sum 2144DF1C, and with another number behind another one.
-/
import Derived.Test.YthhlokhhhponbaaSum
namespace Go.Proofs.Ythhlokhhhponbaa
open Go.RowKit
set_option linter.unusedVariables false

theorem four_cells (n : Nat) : ((SumMath.four n).map fun c : Nat => Value.int .u8 (c : Int)).toArray =
    #[.int .u8 ((n : Int) % 256), .int .u8 ((n : Int) / 256 % 256), .int .u8 ((n : Int) / 65536 % 256), .int .u8 ((n : Int) / 16777216)] := by
  simp [SumMath.four]

theorem four_len (n : Nat) : (SumMath.four n).length ≤ 1000000 := by simp [SumMath.four]

set_option maxHeartbeats 400000 in
theorem seal_any (n : Nat) (w : World) (h : n < 4294967296) :
    Calls Try.prog 23 #[.int .u32 n] w fun e w' => e = .returned (.slice (some ⟨w.heap.size, 0, none⟩) 4 4) ∧ w.alloc (.cells ((SumMath.four n).map fun c : Nat => Value.int .u8 (c : Int)).toArray 5) = w' := by
  rw [four_cells]
  go_enter Try.func23, Try.ntmps23
  go_wp2
  go_ret
  exact ⟨rfl, rfl⟩

set_option maxHeartbeats 400000 in
theorem sealed_any (l : List Nat) (n : Nat) (A : Option Addr) (cap o : Nat) (w : World) (hn : l.length = n) (hB : Bytes w A l) (ho : o < 4294967296) :
    Calls Try.prog 9 #[.slice A n cap, .int .u32 o] w fun e w' => e = .returned (.bool true) ∧ Below w.heap.size w w' := by
  have Hn := hide hn; clear hn
  by_cases hlen : 100000 < n
  · go_enter Try.func9, Try.ntmps9
    go_wp2_with (go_at_call 22; refine (alive_any _).mono ?_; rintro e w1 ⟨rfl, hb⟩)
    go_ret
    exact ⟨rfl, hb⟩
  · go_enter Try.func9, Try.ntmps9
    go_wp2_with (go_at_call 22; refine (alive_any _).mono ?_; rintro e w1 ⟨rfl, hb⟩)
    refine (sum_at l _ _ _ _ Hn.out (hB.of_below hb (Nat.le_refl _)) (by omega)).mono ?_
    rintro e w2 ⟨rfl, rfl⟩
    have hs := SumMath.more_lt 0 l
    generalize SumMath.more 0 l = s at hs
    have hx : ((SumMath.more s (SumMath.four s) : Nat) : Int) = 558161692 := by rw [SumMath.sealed_is hs]; rfl
    by_cases hos : o = s
    · subst hos
      have Hx := hide hx; clear hx
      go_wp2_with fail
      refine (seal_any o _ hs).mono ?_
      rintro e w3 ⟨rfl, rfl⟩
      go_wp2_with fail
      refine (more_is (SumMath.four o) 558161692 _ _ _ _ _ Hx.out hs rfl (Bytes.new _ _ (SumMath.four_lt hs) _ rfl _ _ _ rfl) (four_len _)).mono ?_
      rintro e w3 ⟨rfl, rfl⟩
      go_wp2_with fail
      refine (seal_any o _ hs).mono ?_
      rintro e w3 ⟨rfl, rfl⟩
      go_wp2_with fail
      refine (more_is (SumMath.four o) 558161692 _ _ _ _ _ Hx.out hs rfl (Bytes.new _ _ (SumMath.four_lt hs) _ (World.size_alloc _ _) _ _ _ rfl) (four_len _)).mono ?_
      rintro e w3 ⟨rfl, rfl⟩
      go_wp2_with fail
      go_ret
      exact ⟨rfl, (hb.alloc hb.size _).alloc (by have := hb.size; simp; omega) _⟩
    · obtain ⟨v, hv, hne⟩ : ∃ v : Int, ((SumMath.more s (SumMath.four o) : Nat) : Int) = v ∧ (v == 558161692) = false := by
        refine ⟨_, rfl, ?_⟩
        have := SumMath.sealed_iff hs ho
        have h2 : SumMath.more s (SumMath.four o) ≠ 558161692 := fun e => hos (this.1 e)
        simp only [beq_eq_false_iff_ne, ne_eq]
        omega
      have hos2 : ((o : Int) == (s : Int)) = false := by simp only [beq_eq_false_iff_ne, ne_eq]; omega
      have Hx := hide hx; clear hx
      have Hv := hide hv; clear hv
      clear hos
      go_wp2_with fail
      refine (seal_any s _ hs).mono ?_
      rintro e w3 ⟨rfl, rfl⟩
      go_wp2_with fail
      refine (more_is (SumMath.four s) 558161692 _ _ _ _ _ Hx.out hs rfl (Bytes.new _ _ (SumMath.four_lt hs) _ rfl _ _ _ rfl) (four_len _)).mono ?_
      rintro e w3 ⟨rfl, rfl⟩
      go_wp2_with fail
      refine (seal_any o _ ho).mono ?_
      rintro e w3 ⟨rfl, rfl⟩
      go_wp2_with fail
      refine (more_is (SumMath.four o) v _ _ _ _ _ Hv.out hs rfl (Bytes.new _ _ (SumMath.four_lt ho) _ (World.size_alloc _ _) _ _ _ rfl) (four_len _)).mono ?_
      rintro e w3 ⟨rfl, rfl⟩
      go_wp2_with fail
      go_ret
      exact ⟨rfl, (hb.alloc hb.size _).alloc (by have := hb.size; simp; omega) _⟩
end Go.Proofs.Ythhlokhhhponbaa
