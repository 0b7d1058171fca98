/-
  The document's own look at a sum.
-/
import Derived.Test.YtihldmcakcobaaaSummed
import Derived.Test.YtihldmcakcobaaaRefSum
namespace Go.Proofs.Ytihldmcakcobaaa
open Go.RowKit
set_option linter.unusedVariables false

set_option maxRecDepth 100000 in
set_option maxHeartbeats 2000000 in
theorem sealed_at (b l : List Nat) (A A2 : Option Addr) (cap n cap2 : Nat) (w : World) (hb : b.length = 75) (hcap : 75 ≤ cap) (hm : cap ≤ maxLen) (hB : Bytes w A b) (hl : l.length = n) (hn : n ≤ 1000000) (hL : Bytes w A2 l) :
    Calls Try.prog 30 #[.slice A 75 cap, .slice A2 n cap2] w fun e w' => e = .returned (.bool (decide (SumMath.four (SumMath.more 0 l) = b.drop 71))) ∧ w = w' := by
  obtain ⟨blk, off, rfl, hlt, hc⟩ := hB.at (show 0 < b.length by omega)
  have g1 := hc 71 (by omega); have g2 := hc 72 (by omega); have g3 := hc 73 (by omega); have g4 := hc 74 (by omega)
  have l1 := hB.1; have q1 : b.getD 71 0 < 256 := by rw [List.getD_eq_getElem?_getD, List.getElem?_eq_getElem (by omega)]; exact l1 _ (List.getElem_mem _)
  have q2 : b.getD 72 0 < 256 := by rw [List.getD_eq_getElem?_getD, List.getElem?_eq_getElem (by omega)]; exact l1 _ (List.getElem_mem _)
  have q3 : b.getD 73 0 < 256 := by rw [List.getD_eq_getElem?_getD, List.getElem?_eq_getElem (by omega)]; exact l1 _ (List.getElem_mem _)
  have q4 : b.getD 74 0 < 256 := by rw [List.getD_eq_getElem?_getD, List.getElem?_eq_getElem (by omega)]; exact l1 _ (List.getElem_mem _)
  rw [drop_four hb]
  have hsum := rsum_at l n A2 cap2 w hl hL hn
  have hN := SumMath.more_lt 0 l
  generalize SumMath.more 0 l = N at hsum hN ⊢
  generalize b.getD 71 0 = c1 at *; generalize b.getD 72 0 = c2 at *; generalize b.getD 73 0 = c3 at *; generalize b.getD 74 0 = c4 at *
  have e : decide (SumMath.four N = [c1, c2, c3, c4]) = (decide ((c1 : Int) = N % 256) && decide ((c2 : Int) = N / 256 % 256) && decide ((c3 : Int) = N / 65536 % 256) && decide ((c4 : Int) = N / 16777216)) := by
    rw [Bool.eq_iff_iff]
    simp only [SumMath.four, List.cons.injEq, and_true, Bool.and_eq_true, decide_eq_true_eq]
    omega
  rw [e]
  have w1 : (N : Int) / 256 % 256 % 256 = N / 256 % 256 := by omega
  have w2 : (N : Int) / 65536 % 256 % 256 = N / 65536 % 256 := by omega
  have w3 : (N : Int) / 16777216 % 256 = N / 16777216 := by omega
  clear hB hL hl hn hb hc l1 e
  go_enter Try.func30, Try.ntmps30
  go_wp2_with fail
  refine hsum.mono ?_
  rintro e w' ⟨rfl, rfl⟩
  by_cases h1 : (c1 : Int) = N % 256
  · by_cases h2 : (c2 : Int) = N / 256 % 256
    · by_cases h3 : (c3 : Int) = N / 65536 % 256
      · by_cases h4 : (c4 : Int) = N / 16777216
        · go_wp2_with fail
          go_ret
          refine ⟨?_, rfl⟩
          rw [decide_eq_true h1, decide_eq_true h2, decide_eq_true h3, decide_eq_true h4]; rfl
        · go_wp2_with fail
          go_ret
          refine ⟨?_, rfl⟩
          rw [decide_eq_true h1, decide_eq_true h2, decide_eq_true h3, decide_eq_false h4]
          show Ending.returned (Value.bool ((c4 : Int) == (N : Int) / 16777216)) = _
          rw [beq_eq_false_iff_ne.2 h4]; rfl
      · go_wp2_with fail
        go_ret
        refine ⟨?_, rfl⟩
        rw [decide_eq_true h1, decide_eq_true h2, decide_eq_false h3]; rfl
    · go_wp2_with fail
      go_ret
      refine ⟨?_, rfl⟩
      rw [decide_eq_true h1, decide_eq_false h2]; rfl
  · go_wp2_with fail
    go_ret
    refine ⟨?_, rfl⟩
    rw [decide_eq_false h1]; rfl
end Go.Proofs.Ytihldmcakcobaaa
