/-
  The walk of SumParts: the sum of pieces, one behind the other, wherever any bytes are cut.
-/
import Derived.Test.YthhlokhhhponbaaSum
import Derived.Deep.QuietTactic
import Derived.BigQuiet
namespace Go.Proofs.Ythhlokhhhponbaa
open Go.RowKit
set_option linter.unusedVariables false

set_option maxHeartbeats 400000 in
theorem parts_any (l : List Nat) (n : Nat) (A : Option Addr) (cap x y : Nat) (w : World) (hn : l.length = n) (hB : Bytes w A l) (hx : x < 65536) (hy : y < 65536) (hcap : n ≤ cap) (hm : cap ≤ maxLen) :
    Calls Try.prog 6 #[.slice A n cap, .int .u16 x, .int .u16 y] w fun e w' => e = .returned (.bool true) ∧ Below w.heap.size w w' := by
  have Hn := hide hn; clear hn
  unfold maxLen at hm
  by_cases hlen : 100000 < n
  · go_enter Try.func6, Try.ntmps6
    go_wp2_with (go_at_call 22; refine (alive_any _).mono ?_; rintro e w1 ⟨rfl, hb⟩)
    go_ret
    exact ⟨rfl, hb⟩
  · obtain ⟨i, hi, hi2⟩ : ∃ i : Nat, (x : Int) % ((n : Int) + 1) = (i : Int) ∧ i ≤ n := ⟨x % (n + 1), by simp, by have := Nat.mod_lt x (show 0 < n + 1 by omega); omega⟩
    obtain ⟨d, hd, hd2⟩ : ∃ d : Nat, (y : Int) % ((n : Int) - (i : Int) + 1) = (d : Int) ∧ i + d ≤ n := by
      refine ⟨y % (n - i + 1), ?_, by have := Nat.mod_lt y (show 0 < n - i + 1 by omega); omega⟩
      rw [show (n : Int) - (i : Int) + 1 = ((n - i + 1 : Nat) : Int) by omega]
      simp
    go_enter Try.func6, Try.ntmps6
    go_wp2_with (go_at_call 22; refine (alive_any _).mono ?_; rintro e w1 ⟨rfl, hb⟩)
    obtain ⟨j, hj, hj2⟩ : ∃ j : Nat, (i : Int) + (d : Int) = (j : Int) ∧ i ≤ j ∧ j ≤ n := ⟨i + d, by simp, by omega, by omega⟩
    simp only [hi, hd, hj]
    have Hi := hide hi; have Hd := hide hd; have Hj := hide hj; clear hi hd hj hd2
    have hB1 := hB.of_below hb (Nat.le_refl _)
    have hBi := hB1.take i
    have hBj := (hB1.take j).drop i cap (by rw [List.length_take]; have := Hn.out; omega)
    have hBk := hB1.drop j cap (by have := Hn.out; omega)
    have hni : (l.take i).length = i := by rw [List.length_take]; have := Hn.out; omega
    have hnj : ((l.take j).drop i).length = j - i := by rw [List.length_drop, List.length_take]; have := Hn.out; omega
    have hnk : (l.drop j).length = n - j := by rw [List.length_drop, Hn.out]
    have H1 := hide hBi; have H2 := hide hBj; have H3 := hide hBk; have N1 := hide hni; have N2 := hide hnj; have N3 := hide hnk
    clear hBi hBj hBk hni hnj hnk
    have hv : SumMath.more (SumMath.more (SumMath.more 0 (l.take i)) ((l.take j).drop i)) (l.drop j) = SumMath.more 0 l := by
      have e1 : l.take i ++ (l.take j).drop i = l.take j := by
        have h1 := List.take_append_drop i (l.take j)
        rwa [List.take_take, Nat.min_eq_left hj2.1] at h1
      rw [SumMath.more_append _ _ (fun c hc => hB.1 c (List.mem_of_mem_take hc)), e1, SumMath.more_append _ _ (fun c hc => hB.1 c (List.mem_of_mem_take hc)), List.take_append_drop]
    have HV := hide hv; clear hv
    go_quiet ((first
      | (go_at_call 13; exact sum_q (l.take i) _ _ _ _ _ N1.out H1.out (by omega))
      | (go_at_call 15; exact more_q ((l.take j).drop i) _ _ _ _ _ _ (SumMath.more_lt _ _) N2.out H2.out (by omega))
      | (go_at_call 15; exact more_q (l.drop j) _ _ _ _ _ _ (SumMath.more_lt _ _) N3.out H3.out (by omega))
      | (go_at_call 13; exact sum_q l _ _ _ _ _ Hn.out hB1 (by omega))))
    rw [HV.out]
    go_wp2
    all_goals
      go_ret
      exact ⟨rfl, hb.os, hb.tape, hb.output, hb.size, hb.block⟩
end Go.Proofs.Ythhlokhhhponbaa
