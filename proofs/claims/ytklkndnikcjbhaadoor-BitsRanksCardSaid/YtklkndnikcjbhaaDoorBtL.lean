/-
  Subsets, Rank, Unrank, Next.
-/
import Derived.Test.YtklkndnikcjbhaaDoorBtK
import Derived.Test.YtklkndnikcjbhaaDoorBtC
namespace Go.Proofs.YtklkndnikcjbhaaDoor
open Go.RowKit Go.Shelf
set_option linter.unusedVariables false
set_option linter.unusedSimpArgs false

def trow (n : Nat) : Array Value := tab.extract (n * 61) (n * 61 + 61)
theorem tab_get {n k : Nat} (hn : n ≤ 60) (hk : k ≤ 60) : tab[n * 61 + k]? = some (.int .u64 (ch n k : Nat)) := by
  unfold tab
  rw [cells_get _ _ _ (by omega), show (n * 61 + k) / 61 = n by omega, show (n * 61 + k) % 61 = k by omega]
theorem trow_get {n k : Nat} (hn : n ≤ 60) (hk : k ≤ 60) : (trow n)[k]? = some (.int .u64 (ch n k : Nat)) := by
  unfold trow
  rw [Array.getElem?_extract, if_pos (by rw [tab_size]; omega)]
  exact tab_get hn hk
theorem ix_big (cs : Array Value) {n : Nat} (hn : n ≤ 60) (W : World) : (Instr.index 64 (.agg cs) (.int .i64 (n : Int))).run Tryd.prog W = .ok (.agg (cs.extract (n * 61) (n * 61 + 61))) W := by
  have h : (0 : Int) ≤ n ∧ (n : Int) < 61 := by omega
  simp [Instr.index, run_underlying Tryd.underlying64, asIntOf, h, part, go_sem]
  omega
theorem ix_small (cs : Array Value) (v : Value) {k : Nat} (hk : k ≤ 60) (h2 : cs[k]? = some v) (W : World) : (Instr.index 63 (.agg cs) (.int .i64 (k : Int))).run Tryd.prog W = .ok v W := by
  have h : (0 : Int) ≤ k ∧ (k : Int) < 61 := by omega
  simp [Instr.index, run_underlying Tryd.underlying63, asIntOf, h, part, h2, go_sem]
  omega
theorem ix_tab {n : Nat} (hn : n ≤ 60) (W : World) : (Instr.index 64 (.agg tab) (.int .i64 (n : Int))).run Tryd.prog W = .ok (.agg (trow n)) W := ix_big tab hn W
theorem ix_row {n k : Nat} (hn : n ≤ 60) (hk : k ≤ 60) (W : World) : (Instr.index 63 (.agg (trow n)) (.int .i64 (k : Int))).run Tryd.prog W = .ok (.int .u64 (ch n k : Nat)) W :=
  ix_small _ _ hk (trow_get hn hk) W

def subV (n k : Int) : Value :=
  if n < 0 ∨ 60 < n then .tuple #[.int .u64 0, .int .i64 120] else if k < 0 ∨ n < k then .tuple #[.int .u64 0, .int .i64 0] else .tuple #[.int .u64 (ch n.toNat k.toNat : Nat), .int .i64 0]
set_option maxHeartbeats 1000000 in
theorem sub_at (n k : Int) (w : World) :
    Calls Tryd.prog 22 #[.int .i64 n, .int .i64 k] w fun e w' => e = .returned (subV n k) ∧ Below w.heap.size w w' := by
  by_cases h1 : n < 0
  · have H := hide (show subV n k = .tuple #[.int .u64 0, .int .i64 120] from if_pos (.inl h1))
    go_enter Tryd.func22, Tryd.ntmps22
    go_wp2
    go_ret2
    exact ⟨by rw [H.out]; rfl, Below.refl _ _⟩
  · by_cases h2 : 60 < n
    · have H := hide (show subV n k = .tuple #[.int .u64 0, .int .i64 120] from if_pos (.inr h2))
      go_enter Tryd.func22, Tryd.ntmps22
      go_wp2
      go_ret2
      exact ⟨by rw [H.out]; rfl, Below.refl _ _⟩
    · have h3 : ¬ (n < 0 ∨ 60 < n) := by omega
      by_cases h4 : k < 0
      · have H := hide (show subV n k = .tuple #[.int .u64 0, .int .i64 0] from by unfold subV; rw [if_neg h3, if_pos (.inl h4)])
        clear h3
        go_enter Tryd.func22, Tryd.ntmps22
        go_wp2
        go_ret2
        exact ⟨by rw [H.out]; rfl, Below.refl _ _⟩
      · by_cases h5 : n < k
        · have H := hide (show subV n k = .tuple #[.int .u64 0, .int .i64 0] from by unfold subV; rw [if_neg h3, if_pos (.inr h5)])
          clear h3
          go_enter Tryd.func22, Tryd.ntmps22
          go_wp2
          go_ret2
          exact ⟨by rw [H.out]; rfl, Below.refl _ _⟩
        · have H := hide (show subV n k = .tuple #[.int .u64 (ch n.toNat k.toNat : Nat), .int .i64 0] from by unfold subV; rw [if_neg h3, if_neg (by omega)])
          obtain ⟨n, rfl⟩ := Int.eq_ofNat_of_zero_le (show 0 ≤ n by omega)
          obtain ⟨k, rfl⟩ := Int.eq_ofNat_of_zero_le (show 0 ≤ k by omega)
          rw [Int.toNat_natCast, Int.toNat_natCast] at H
          have hn : n ≤ 60 := by omega
          have hk : k ≤ 60 := by omega
          have hnk : k ≤ n := by omega
          have i1 := fun W => ix_tab hn W
          have i2 := fun W => ix_row (n := n) (k := k) hn hk W
          clear h3
          generalize ch n k = v at *
          go_enter Tryd.func22, Tryd.ntmps22
          go_wp2_with fail
          refine (subsets_at _).mono ?_
          rintro e w' ⟨rfl, hb⟩
          have HB := hide hb
          clear hb
          generalize trow n = rw1 at *
          generalize tab = tb at *
          go_wp2_with fail
          go_ret2
          exact ⟨by rw [H.out]; rfl, HB.out⟩
end Go.Proofs.YtklkndnikcjbhaaDoor
