/-
  The first two rows of the errors' table: nodes and owners, and clocks.
-/
import Derived.Test.YtbeggdahbhfhpaaDoorCfgSmall
namespace Go.Proofs.YtbeggdahbhfhpaaDoor
open Go.RowKit Go.Deep
set_option linter.unusedVariables false

/-- the first row -/
def NodesOk (c : Conf) : Prop := 4 ≤ c.nodes ∧ c.nodes ≤ 16 ∧ (c.owners.length : Int) = c.nodes ∧ ∀ n : Nat, n < c.owners.length → c.owners.count (n : Int) = 1
instance (c : Conf) : Decidable (NodesOk c) := by unfold NodesOk; infer_instance

set_option maxHeartbeats 1000000 in
theorem rnodes_any (c : Conf) (d : Ad) (w : World) (h : ConfAt w c d) :
    Calls Tryd.prog 103 #[c.val d] w fun e w' => e = .returned (.bool (decide (NodesOk c))) ∧ Below w.heap.size w w' := by
  unfold Conf.val
  by_cases h3 : 4 ≤ c.nodes ∧ c.nodes ≤ 16 ∧ (c.owners.length : Int) = c.nodes
  · obtain ⟨h1, h2, h3⟩ := h3
    have hl : c.owners.length ≤ 16 := by omega
    have hO := hide (h.owners.of_below ((Below.refl w.heap.size w).alloc (Nat.le_refl _) (.cells #[.int .i64 c.nodes, .slice d.oA c.owners.length d.oC, .int .i64 c.drift, .int .i64 c.reading, .int .i64 c.margin, .int .i64 c.bound, .int .i64 c.rejoin, .int .i64 c.quota,
      .slice d.pA c.parts.length d.pC, .slice d.wA c.windows.length d.wC, .slice d.qA c.ports.length d.qC, .slice d.lA c.links.length d.lC] 28)) (Nat.le_refl _))
    clear h
    go_enter Tryd.func103, Tryd.ntmps103
    go_wp2
    go_loop [3] (fun i => ∃ k : Nat, k ≤ c.owners.length ∧ i = .int .i64 k ∧ Hid (∀ n : Nat, n < k → c.owners.count (n : Int) = 1)) (fun i => c.owners.length - (intOf i).toNat)
    case atStart => exact ⟨0, by omega, rfl, fun n hn => by omega⟩
    case round =>
      obtain ⟨k, hk, rfl, H⟩ := hrel
      by_cases hlt : k < c.owners.length
      · by_cases he : c.owners.count (k : Int) = 1
        · have H2 : Hid (∀ n : Nat, n < k + 1 → c.owners.count (n : Int) = 1) := fun n hn => by
            rcases Nat.lt_succ_iff_lt_or_eq.1 hn with h5 | rfl
            · exact H n h5
            · exact he
          go_wp2_with (go_at_call 136; refine (rcount_any c.owners _ _ _ _ hO.out (by omega)).mono ?_; rintro e w' ⟨rfl, rfl⟩)
          go_round
          case rel => exact ⟨k + 1, by omega, by go_num, H2⟩
          case measure => simp [intOf]; omega
        · have H2 : Hid (decide (NodesOk c) = false) := by
            show _ = _
            rw [decide_eq_false_iff_not]
            rintro ⟨_, _, _, a⟩
            exact he (a k hlt)
          go_wp2_with (go_at_call 136; refine (rcount_any c.owners _ _ _ _ hO.out (by omega)).mono ?_; rintro e w' ⟨rfl, rfl⟩)
          go_ret
          exact ⟨by rw [H2.out]; rfl, (Below.refl _ _).alloc (Nat.le_refl _) _⟩
      · obtain rfl : k = c.owners.length := by omega
        have H2 : Hid (decide (NodesOk c) = true) := by
          show _ = _
          rw [decide_eq_true_eq]
          exact ⟨h1, h2, h3, H.out⟩
        go_wp2
        go_ret
        exact ⟨by rw [H2.out]; rfl, (Below.refl _ _).alloc (Nat.le_refl _) _⟩
  · have H : Hid (decide (NodesOk c) = false) := by
      show _ = _
      rw [decide_eq_false_iff_not]
      rintro ⟨a, b, e, _⟩
      exact h3 ⟨a, b, e⟩
    clear h
    go_enter Tryd.func103, Tryd.ntmps103
    go_wp2
    all_goals first | (go_ret; exact ⟨by rw [H.out]; rfl, (Below.refl _ _).alloc (Nat.le_refl _) _⟩) | (exfalso; simp only [bne_eq_false_iff_eq] at *; omega)
end Go.Proofs.YtbeggdahbhfhpaaDoor
