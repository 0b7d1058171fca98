/-
  Check: the six rules, one behind the other.
-/
import Derived.Test.YtdennekkbdlhdaaDoorMD
import Derived.Test.YtdennekkbdlhdaaDoorChkL
import Derived.Test.YtdennekkbdlhdaaDoorMC
import Derived.LoopN
namespace Go.Proofs.YtdennekkbdlhdaaDoor
open Go.RowKit Go.Deep
set_option linter.unusedVariables false

/-- the answer, where the sixth rule is LK -/
noncomputable def checkW (c : Conf) (LK : Prop) [Decidable LK] : Int :=
  if ¬ NodesK c then 21 else if ClockK c = false then 22 else if ¬ PartsK c then 23 else if ¬ WindowsK c then 24 else if ¬ PortsK c then 25 else if ¬ LK then 26 else 0

theorem ix_rules (W : World) : (Instr.index 66 (.agg #[.int .i64 21, .func (.func 30) #[] #[], .int .i64 22, .func (.func 31) #[] #[], .int .i64 23, .func (.func 32) #[] #[], .int .i64 24, .func (.func 33) #[] #[], .int .i64 25, .func (.func 34) #[] #[], .int .i64 26, .func (.func 35) #[] #[]]) (.int .i64 0)).run Tryd.prog W = .ok (.agg #[.int .i64 21, .func (.func 30) #[] #[]]) W ∧ (Instr.index 66 (.agg #[.int .i64 21, .func (.func 30) #[] #[], .int .i64 22, .func (.func 31) #[] #[], .int .i64 23, .func (.func 32) #[] #[], .int .i64 24, .func (.func 33) #[] #[], .int .i64 25, .func (.func 34) #[] #[], .int .i64 26, .func (.func 35) #[] #[]]) (.int .i64 1)).run Tryd.prog W = .ok (.agg #[.int .i64 22, .func (.func 31) #[] #[]]) W ∧ (Instr.index 66 (.agg #[.int .i64 21, .func (.func 30) #[] #[], .int .i64 22, .func (.func 31) #[] #[], .int .i64 23, .func (.func 32) #[] #[], .int .i64 24, .func (.func 33) #[] #[], .int .i64 25, .func (.func 34) #[] #[], .int .i64 26, .func (.func 35) #[] #[]]) (.int .i64 2)).run Tryd.prog W = .ok (.agg #[.int .i64 23, .func (.func 32) #[] #[]]) W ∧ (Instr.index 66 (.agg #[.int .i64 21, .func (.func 30) #[] #[], .int .i64 22, .func (.func 31) #[] #[], .int .i64 23, .func (.func 32) #[] #[], .int .i64 24, .func (.func 33) #[] #[], .int .i64 25, .func (.func 34) #[] #[], .int .i64 26, .func (.func 35) #[] #[]]) (.int .i64 3)).run Tryd.prog W = .ok (.agg #[.int .i64 24, .func (.func 33) #[] #[]]) W ∧ (Instr.index 66 (.agg #[.int .i64 21, .func (.func 30) #[] #[], .int .i64 22, .func (.func 31) #[] #[], .int .i64 23, .func (.func 32) #[] #[], .int .i64 24, .func (.func 33) #[] #[], .int .i64 25, .func (.func 34) #[] #[], .int .i64 26, .func (.func 35) #[] #[]]) (.int .i64 4)).run Tryd.prog W = .ok (.agg #[.int .i64 25, .func (.func 34) #[] #[]]) W ∧ (Instr.index 66 (.agg #[.int .i64 21, .func (.func 30) #[] #[], .int .i64 22, .func (.func 31) #[] #[], .int .i64 23, .func (.func 32) #[] #[], .int .i64 24, .func (.func 33) #[] #[], .int .i64 25, .func (.func 34) #[] #[], .int .i64 26, .func (.func 35) #[] #[]]) (.int .i64 5)).run Tryd.prog W = .ok (.agg #[.int .i64 26, .func (.func 35) #[] #[]]) W := by
  refine ⟨?_, ?_, ?_, ?_, ?_, ?_⟩ <;> simp [Instr.index, run_underlying Tryd.underlying66, asIntOf, go_sem]

set_option maxRecDepth 100000 in
set_option maxHeartbeats 8000000 in
theorem check_with (c : Conf) (d : Ad) (w : World) (hg : Glo w) (h : ConfAt w c d) (LK : Prop) [Decidable LK]
    (hL : NodesK c → PartsK c → PortsK c → ∀ W, Glo W → ConfAt W c d → Calls Tryd.prog 35 #[c.val d] W fun e w' => e = .returned (.bool (decide LK)) ∧ Below W.heap.size W w') :
    Calls Tryd.prog 10 #[c.val d] w fun e w' => e = .returned (.int .i64 (checkW c LK)) ∧ Below w.heap.size w w' := by
  have HR := hide rules_any
  have hS := CfS.first 34 hg h
  have C1 : ∀ W, CfS w W c d → Calls Tryd.prog 30 #[c.val d] W fun e w' => e = .returned (.bool (decide (NodesK c))) ∧ Below W.heap.size W w' := fun W H => nodes_any c d W H.cf
  have C2 : ∀ W, CfS w W c d → Calls Tryd.prog 31 #[c.val d] W fun e w' => e = .returned (.bool (ClockK c)) ∧ Below W.heap.size W w' := fun W H => clock_any c d W
  have C3 : NodesK c → ∀ W, CfS w W c d → Calls Tryd.prog 32 #[c.val d] W fun e w' => e = .returned (.bool (decide (PartsK c))) ∧ Below W.heap.size W w' := fun hn W H => by
    obtain ⟨n1, n2, _⟩ := hn
    obtain ⟨n, hn⟩ := Int.eq_ofNat_of_zero_le (show 0 ≤ c.nodes by omega)
    refine (parts_any c d W H.g H.cf n hn (by omega)).mono ?_
    rintro e w' ⟨v, rfl, hv, hb⟩
    refine ⟨?_, hb⟩
    have : v = decide (PartsK c) := by rw [Bool.eq_iff_iff, hv, decide_eq_true_eq]
    rw [this]
  have C4 : NodesK c → ∀ W, CfS w W c d → Calls Tryd.prog 33 #[c.val d] W fun e w' => e = .returned (.bool (decide (WindowsK c))) ∧ Below W.heap.size W w' := fun hn W H => windows_any c d W H.g H.cf hn.2.1
  have C5 : ∀ W, CfS w W c d → Calls Tryd.prog 34 #[c.val d] W fun e w' => e = .returned (.bool (decide (PortsK c))) ∧ Below W.heap.size W w' := fun W H => ports_any c d W H.g H.cf
  have C6 : NodesK c → PartsK c → PortsK c → ∀ W, CfS w W c d → Calls Tryd.prog 35 #[c.val d] W fun e w' => e = .returned (.bool (decide LK)) ∧ Below W.heap.size W w' := fun a b e W H => hL a b e W H.g H.cf
  have HC1 := hide C1
  have HC2 := hide C2
  have HC3 := hide C3
  have HC4 := hide C4
  have HC5 := hide C5
  have HC6 := hide C6
  clear C1 C2 C3 C4 C5 C6 hL hg h
  have HS := hide hS
  clear hS
  unfold Conf.val at HC1 HC2 HC3 HC4 HC5 HC6 ⊢
  unfold Conf.cells at HS
  go_enter Tryd.func10, Tryd.ntmps10
  go_wp2_with (go_at_call 21; refine (HR.out _).mono ?_; rintro e w1 ⟨rfl, hb1⟩)
  have H0 := hide (HS.out.below hb1)
  clear hb1 HR HS
  have ix0 := fun W => (ix_rules W).1
  have ix1 := fun W => (ix_rules W).2.1
  have ix2 := fun W => (ix_rules W).2.2.1
  have ix3 := fun W => (ix_rules W).2.2.2.1
  have ix4 := fun W => (ix_rules W).2.2.2.2.1
  have ix5 := fun W => (ix_rules W).2.2.2.2.2
  refine wp_loop_rounds 7 ?_
  rw [rounds_succ]
  obtain ⟨hb, ⟨hl, e0, e1, e2, e3, e4, e5, e6, e7, e8, e9, e10, e11⟩, hg, hc⟩ := id H0.out
  clear hb hg hc
  obtain ⟨q0, hq0⟩ : ∃ q, decide (NodesK c) = q := ⟨_, rfl⟩
  replace hq0 := hide hq0
  cases q0
  · go_wp2_with (go_at_call 30; refine (HC1.out _ (H0.out.below ((Below.refl _ _).alloc (Nat.le_refl _) _))).mono ?_; rintro e w2 ⟨rfl, hb2⟩; have H1 := hide ((H0.out.below ((Below.refl _ _).alloc (Nat.le_refl _) _)).below hb2); have hz := (hb2.block _ (alloc_lt _ _)).trans (heap_alloc_new _ _); have hz0 := (cell_of_row _ _ 0 _ _ _ hz).trans (show _ = some (.int .i64 21) from rfl); clear hb2 hz; rw [hq0.out])
    go_ret
    have hn := hide (of_decide_eq_false hq0.out)
    exact ⟨by simp [checkW, hn.out], H1.out.bel⟩
  go_wp2_with (go_at_call 30; refine (HC1.out _ (H0.out.below ((Below.refl _ _).alloc (Nat.le_refl _) _))).mono ?_; rintro e w2 ⟨rfl, hb2⟩; have H1 := hide ((H0.out.below ((Below.refl _ _).alloc (Nat.le_refl _) _)).below hb2); have hz := (hb2.block _ (alloc_lt _ _)).trans (heap_alloc_new _ _); have hz0 := (cell_of_row _ _ 0 _ _ _ hz).trans (show _ = some (.int .i64 21) from rfl); clear hb2 hz; rw [hq0.out])
  have hp0 := hide (of_decide_eq_true hq0.out)
  clear hl e0 e1 e2 e3 e4 e5 e6 e7 e8 e9 e10 e11 hz0 H0
  rw [rounds_succ]
  obtain ⟨hb, ⟨hl, e0, e1, e2, e3, e4, e5, e6, e7, e8, e9, e10, e11⟩, hg, hc⟩ := id H1.out
  clear hb hg hc
  obtain ⟨q1, hq1⟩ : ∃ q, ClockK c = q := ⟨_, rfl⟩
  replace hq1 := hide hq1
  cases q1
  · go_wp2_with (go_at_call 31; refine (HC2.out _ (H1.out.below ((Below.refl _ _).alloc (Nat.le_refl _) _))).mono ?_; rintro e w3 ⟨rfl, hb2⟩; have H2 := hide ((H1.out.below ((Below.refl _ _).alloc (Nat.le_refl _) _)).below hb2); have hz := (hb2.block _ (alloc_lt _ _)).trans (heap_alloc_new _ _); have hz0 := (cell_of_row _ _ 0 _ _ _ hz).trans (show _ = some (.int .i64 22) from rfl); clear hb2 hz; rw [hq1.out])
    go_ret
    exact ⟨by simp [checkW, hp0.out, hq1.out], H2.out.bel⟩
  go_wp2_with (go_at_call 31; refine (HC2.out _ (H1.out.below ((Below.refl _ _).alloc (Nat.le_refl _) _))).mono ?_; rintro e w3 ⟨rfl, hb2⟩; have H2 := hide ((H1.out.below ((Below.refl _ _).alloc (Nat.le_refl _) _)).below hb2); have hz := (hb2.block _ (alloc_lt _ _)).trans (heap_alloc_new _ _); have hz0 := (cell_of_row _ _ 0 _ _ _ hz).trans (show _ = some (.int .i64 22) from rfl); clear hb2 hz; rw [hq1.out])
  clear hl e0 e1 e2 e3 e4 e5 e6 e7 e8 e9 e10 e11 hz0 H1
  rw [rounds_succ]
  obtain ⟨hb, ⟨hl, e0, e1, e2, e3, e4, e5, e6, e7, e8, e9, e10, e11⟩, hg, hc⟩ := id H2.out
  clear hb hg hc
  obtain ⟨q2, hq2⟩ : ∃ q, decide (PartsK c) = q := ⟨_, rfl⟩
  replace hq2 := hide hq2
  cases q2
  · go_wp2_with (go_at_call 32; refine (HC3.out hp0.out _ (H2.out.below ((Below.refl _ _).alloc (Nat.le_refl _) _))).mono ?_; rintro e w4 ⟨rfl, hb2⟩; have H3 := hide ((H2.out.below ((Below.refl _ _).alloc (Nat.le_refl _) _)).below hb2); have hz := (hb2.block _ (alloc_lt _ _)).trans (heap_alloc_new _ _); have hz0 := (cell_of_row _ _ 0 _ _ _ hz).trans (show _ = some (.int .i64 23) from rfl); clear hb2 hz; rw [hq2.out])
    go_ret
    have hn := hide (of_decide_eq_false hq2.out)
    exact ⟨by simp [checkW, hp0.out, hq1.out, hn.out], H3.out.bel⟩
  go_wp2_with (go_at_call 32; refine (HC3.out hp0.out _ (H2.out.below ((Below.refl _ _).alloc (Nat.le_refl _) _))).mono ?_; rintro e w4 ⟨rfl, hb2⟩; have H3 := hide ((H2.out.below ((Below.refl _ _).alloc (Nat.le_refl _) _)).below hb2); have hz := (hb2.block _ (alloc_lt _ _)).trans (heap_alloc_new _ _); have hz0 := (cell_of_row _ _ 0 _ _ _ hz).trans (show _ = some (.int .i64 23) from rfl); clear hb2 hz; rw [hq2.out])
  have hp2 := hide (of_decide_eq_true hq2.out)
  clear hl e0 e1 e2 e3 e4 e5 e6 e7 e8 e9 e10 e11 hz0 H2
  rw [rounds_succ]
  obtain ⟨hb, ⟨hl, e0, e1, e2, e3, e4, e5, e6, e7, e8, e9, e10, e11⟩, hg, hc⟩ := id H3.out
  clear hb hg hc
  obtain ⟨q3, hq3⟩ : ∃ q, decide (WindowsK c) = q := ⟨_, rfl⟩
  replace hq3 := hide hq3
  cases q3
  · go_wp2_with (go_at_call 33; refine (HC4.out hp0.out _ (H3.out.below ((Below.refl _ _).alloc (Nat.le_refl _) _))).mono ?_; rintro e w5 ⟨rfl, hb2⟩; have H4 := hide ((H3.out.below ((Below.refl _ _).alloc (Nat.le_refl _) _)).below hb2); have hz := (hb2.block _ (alloc_lt _ _)).trans (heap_alloc_new _ _); have hz0 := (cell_of_row _ _ 0 _ _ _ hz).trans (show _ = some (.int .i64 24) from rfl); clear hb2 hz; rw [hq3.out])
    go_ret
    have hn := hide (of_decide_eq_false hq3.out)
    exact ⟨by simp [checkW, hp0.out, hq1.out, hp2.out, hn.out], H4.out.bel⟩
  go_wp2_with (go_at_call 33; refine (HC4.out hp0.out _ (H3.out.below ((Below.refl _ _).alloc (Nat.le_refl _) _))).mono ?_; rintro e w5 ⟨rfl, hb2⟩; have H4 := hide ((H3.out.below ((Below.refl _ _).alloc (Nat.le_refl _) _)).below hb2); have hz := (hb2.block _ (alloc_lt _ _)).trans (heap_alloc_new _ _); have hz0 := (cell_of_row _ _ 0 _ _ _ hz).trans (show _ = some (.int .i64 24) from rfl); clear hb2 hz; rw [hq3.out])
  have hp3 := hide (of_decide_eq_true hq3.out)
  clear hl e0 e1 e2 e3 e4 e5 e6 e7 e8 e9 e10 e11 hz0 H3
  rw [rounds_succ]
  obtain ⟨hb, ⟨hl, e0, e1, e2, e3, e4, e5, e6, e7, e8, e9, e10, e11⟩, hg, hc⟩ := id H4.out
  clear hb hg hc
  obtain ⟨q4, hq4⟩ : ∃ q, decide (PortsK c) = q := ⟨_, rfl⟩
  replace hq4 := hide hq4
  cases q4
  · go_wp2_with (go_at_call 34; refine (HC5.out _ (H4.out.below ((Below.refl _ _).alloc (Nat.le_refl _) _))).mono ?_; rintro e w6 ⟨rfl, hb2⟩; have H5 := hide ((H4.out.below ((Below.refl _ _).alloc (Nat.le_refl _) _)).below hb2); have hz := (hb2.block _ (alloc_lt _ _)).trans (heap_alloc_new _ _); have hz0 := (cell_of_row _ _ 0 _ _ _ hz).trans (show _ = some (.int .i64 25) from rfl); clear hb2 hz; rw [hq4.out])
    go_ret
    have hn := hide (of_decide_eq_false hq4.out)
    exact ⟨by simp [checkW, hp0.out, hq1.out, hp2.out, hp3.out, hn.out], H5.out.bel⟩
  go_wp2_with (go_at_call 34; refine (HC5.out _ (H4.out.below ((Below.refl _ _).alloc (Nat.le_refl _) _))).mono ?_; rintro e w6 ⟨rfl, hb2⟩; have H5 := hide ((H4.out.below ((Below.refl _ _).alloc (Nat.le_refl _) _)).below hb2); have hz := (hb2.block _ (alloc_lt _ _)).trans (heap_alloc_new _ _); have hz0 := (cell_of_row _ _ 0 _ _ _ hz).trans (show _ = some (.int .i64 25) from rfl); clear hb2 hz; rw [hq4.out])
  have hp4 := hide (of_decide_eq_true hq4.out)
  clear hl e0 e1 e2 e3 e4 e5 e6 e7 e8 e9 e10 e11 hz0 H4
  rw [rounds_succ]
  obtain ⟨hb, ⟨hl, e0, e1, e2, e3, e4, e5, e6, e7, e8, e9, e10, e11⟩, hg, hc⟩ := id H5.out
  clear hb hg hc
  obtain ⟨q5, hq5⟩ : ∃ q, decide (LK) = q := ⟨_, rfl⟩
  replace hq5 := hide hq5
  cases q5
  · go_wp2_with (go_at_call 35; refine (HC6.out hp0.out hp2.out hp4.out _ (H5.out.below ((Below.refl _ _).alloc (Nat.le_refl _) _))).mono ?_; rintro e w7 ⟨rfl, hb2⟩; have H6 := hide ((H5.out.below ((Below.refl _ _).alloc (Nat.le_refl _) _)).below hb2); have hz := (hb2.block _ (alloc_lt _ _)).trans (heap_alloc_new _ _); have hz0 := (cell_of_row _ _ 0 _ _ _ hz).trans (show _ = some (.int .i64 26) from rfl); clear hb2 hz; rw [hq5.out])
    go_ret
    have hn := hide (of_decide_eq_false hq5.out)
    exact ⟨by simp [checkW, hp0.out, hq1.out, hp2.out, hp3.out, hp4.out, hn.out], H6.out.bel⟩
  go_wp2_with (go_at_call 35; refine (HC6.out hp0.out hp2.out hp4.out _ (H5.out.below ((Below.refl _ _).alloc (Nat.le_refl _) _))).mono ?_; rintro e w7 ⟨rfl, hb2⟩; have H6 := hide ((H5.out.below ((Below.refl _ _).alloc (Nat.le_refl _) _)).below hb2); have hz := (hb2.block _ (alloc_lt _ _)).trans (heap_alloc_new _ _); have hz0 := (cell_of_row _ _ 0 _ _ _ hz).trans (show _ = some (.int .i64 26) from rfl); clear hb2 hz; rw [hq5.out])
  have hp5 := hide (of_decide_eq_true hq5.out)
  clear hl e0 e1 e2 e3 e4 e5 e6 e7 e8 e9 e10 e11 hz0 H5
  rw [rounds_succ]
  go_wp2_with fail
  go_ret
  exact ⟨by simp [checkW, hp0.out, hq1.out, hp2.out, hp3.out, hp4.out, hp5.out], H6.out.bel⟩
end Go.Proofs.YtdennekkbdlhdaaDoor
