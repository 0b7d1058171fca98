/-
  The document's own Check, in the program's words: both answer alike.
-/
import Derived.Test.YtbeggdahbhfhpaaDoorRckB
import Derived.Test.YtbeggdahbhfhpaaDoorRckC
import Derived.Test.YtbeggdahbhfhpaaDoorRckD
import Derived.Test.YtbeggdahbhfhpaaDoorRckE
import Derived.Test.YtbeggdahbhfhpaaDoorRckH
namespace Go.Proofs.YtbeggdahbhfhpaaDoor
open Go.RowKit Go.Deep
set_option linter.unusedVariables false
set_option linter.unusedSimpArgs false

set_option maxRecDepth 100000 in
set_option maxHeartbeats 8000000 in
theorem rcheck_any (c : Conf) (d : Ad) (w : World) (hg : Glo w) (h : ConfAt w c d) (hSm : ∀ k, k < c.links.length → (c.links.getD k default).dests.length ≤ 17592186043904) :
    Calls Tryd.prog 57 #[c.val d] w fun e w' => e = .returned (.int .i64 (checkF c)) ∧ Below w.heap.size w w' := by
  have hS := CfS.first 28 hg h
  have HR : Hid (checkF c = if decide (NodesK c) = false then 21 else if ClockK c = false then 22 else if decide (PartsK c) = false then 23 else if decide (WindowsK c) = false then 24 else if decide (PortsK c) = false then 25 else if decide (LinksK c) = false then 26 else 0) := by
    show _ = _
    unfold checkF checkW
    simp only [decide_eq_false_iff_not]
  have HC0 : Hid (∀ W, CfS w W c d → Calls Tryd.prog 103 #[c.val d] W fun e w' => e = .returned (.bool (decide (NodesK c))) ∧ Below W.heap.size W w') := fun W hW => rnodesK c d W hW.cf
  have HC1 : Hid (∀ W, CfS w W c d → Calls Tryd.prog 104 #[c.val d] W fun e w' => e = .returned (.bool (ClockK c)) ∧ Below W.heap.size W w') := fun W hW => rclockK c d W hW.g hW.cf
  have HC2 : Hid (∀ W, CfS w W c d → Calls Tryd.prog 105 #[c.val d] W fun e w' => e = .returned (.bool (decide (PartsK c))) ∧ Below W.heap.size W w') := fun W hW => rpartsK c d W hW.g hW.cf
  have HC3' : Hid (decide (NodesK c) = true → ∀ W, CfS w W c d → Calls Tryd.prog 106 #[c.val d] W fun e w' => e = .returned (.bool (decide (WindowsK c))) ∧ Below W.heap.size W w') := fun q W hW => rwindowsK c d W hW.g hW.cf (by have := of_decide_eq_true q; exact this.2.1) (by have := (of_decide_eq_true q).1; omega)
  have HC4 : Hid (∀ W, CfS w W c d → Calls Tryd.prog 107 #[c.val d] W fun e w' => e = .returned (.bool (decide (PortsK c))) ∧ Below W.heap.size W w') := fun W hW => rportsK c d W hW.g hW.cf
  have HC5' : Hid (decide (PortsK c) = true → ∀ W, CfS w W c d → Calls Tryd.prog 108 #[c.val d] W fun e w' => e = .returned (.bool (decide (LinksK c))) ∧ Below W.heap.size W w') := fun q W hW => rlinksK c d W hW.g hW.cf (of_decide_eq_true q) hSm
  clear hg h hSm
  generalize checkF c = ans at HR ⊢
  generalize decide (NodesK c) = b0 at HR HC0 HC3'
  generalize ClockK c = b1 at HR HC1
  generalize decide (PartsK c) = b2 at HR HC2
  generalize decide (WindowsK c) = b3 at HR HC3'
  generalize decide (PortsK c) = b4 at HR HC4 HC5'
  generalize decide (LinksK c) = b5 at HR HC5'
  obtain ⟨oA, oC, pA, pC, wA, wC, qA, qC, lA, lC⟩ := d
  obtain ⟨nodes, owners, drift, reading, margin, bound, rejoin, quota, parts, windows, ports, links⟩ := c
  unfold Conf.val at HC0 HC1 HC2 HC3' HC4 HC5' ⊢
  unfold Conf.cells at hS
  dsimp only at hS HC0 HC1 HC2 HC3' HC4 HC5' ⊢
  obtain ⟨hb, ⟨hl, e0, e1, e2, e3, e4, e5, e6, e7, e8, e9, e10, e11⟩, hg, hc⟩ := id hS
  dsimp only at e0 e1 e2 e3 e4 e5 e6 e7 e8 e9 e10 e11
  have HT0 := hide hS
  clear hS hg hc
  go_enter Tryd.func57, Tryd.ntmps57
  cases b0
  · have HX : Hid (ans = 21) := by show _ = _; rw [HR.out]; rfl
    go_wp2_with (first | (go_at_call 103; refine (HC0.out _ HT0.out).mono ?_; rintro e w1 ⟨rfl, hb1⟩; have HT1 := hide (HT0.out.below hb1); clear hb1 hl e0 e1 e2 e3 e4 e5 e6 e7 e8 e9 e10 e11; obtain ⟨_, ⟨hl, e0, e1, e2, e3, e4, e5, e6, e7, e8, e9, e10, e11⟩, _, _⟩ := HT1.out; dsimp only at e0 e1 e2 e3 e4 e5 e6 e7 e8 e9 e10 e11))
    go_ret
    exact ⟨by rw [HX.out]; rfl, HT1.out.bel⟩
  · skip
    have HC3 := hide (HC3'.out rfl)
    cases b1
    · have HX : Hid (ans = 22) := by show _ = _; rw [HR.out]; rfl
      go_wp2_with (first | (go_at_call 103; refine (HC0.out _ HT0.out).mono ?_; rintro e w1 ⟨rfl, hb1⟩; have HT1 := hide (HT0.out.below hb1); clear hb1 hl e0 e1 e2 e3 e4 e5 e6 e7 e8 e9 e10 e11; obtain ⟨_, ⟨hl, e0, e1, e2, e3, e4, e5, e6, e7, e8, e9, e10, e11⟩, _, _⟩ := HT1.out; dsimp only at e0 e1 e2 e3 e4 e5 e6 e7 e8 e9 e10 e11) | (go_at_call 104; refine (HC1.out _ HT1.out).mono ?_; rintro e w1 ⟨rfl, hb1⟩; have HT2 := hide (HT1.out.below hb1); clear hb1 hl e0 e1 e2 e3 e4 e5 e6 e7 e8 e9 e10 e11; obtain ⟨_, ⟨hl, e0, e1, e2, e3, e4, e5, e6, e7, e8, e9, e10, e11⟩, _, _⟩ := HT2.out; dsimp only at e0 e1 e2 e3 e4 e5 e6 e7 e8 e9 e10 e11))
      go_ret
      exact ⟨by rw [HX.out]; rfl, HT2.out.bel⟩
    · skip
      cases b2
      · have HX : Hid (ans = 23) := by show _ = _; rw [HR.out]; rfl
        go_wp2_with (first | (go_at_call 103; refine (HC0.out _ HT0.out).mono ?_; rintro e w1 ⟨rfl, hb1⟩; have HT1 := hide (HT0.out.below hb1); clear hb1 hl e0 e1 e2 e3 e4 e5 e6 e7 e8 e9 e10 e11; obtain ⟨_, ⟨hl, e0, e1, e2, e3, e4, e5, e6, e7, e8, e9, e10, e11⟩, _, _⟩ := HT1.out; dsimp only at e0 e1 e2 e3 e4 e5 e6 e7 e8 e9 e10 e11) | (go_at_call 104; refine (HC1.out _ HT1.out).mono ?_; rintro e w1 ⟨rfl, hb1⟩; have HT2 := hide (HT1.out.below hb1); clear hb1 hl e0 e1 e2 e3 e4 e5 e6 e7 e8 e9 e10 e11; obtain ⟨_, ⟨hl, e0, e1, e2, e3, e4, e5, e6, e7, e8, e9, e10, e11⟩, _, _⟩ := HT2.out; dsimp only at e0 e1 e2 e3 e4 e5 e6 e7 e8 e9 e10 e11) | (go_at_call 105; refine (HC2.out _ HT2.out).mono ?_; rintro e w1 ⟨rfl, hb1⟩; have HT3 := hide (HT2.out.below hb1); clear hb1 hl e0 e1 e2 e3 e4 e5 e6 e7 e8 e9 e10 e11; obtain ⟨_, ⟨hl, e0, e1, e2, e3, e4, e5, e6, e7, e8, e9, e10, e11⟩, _, _⟩ := HT3.out; dsimp only at e0 e1 e2 e3 e4 e5 e6 e7 e8 e9 e10 e11))
        go_ret
        exact ⟨by rw [HX.out]; rfl, HT3.out.bel⟩
      · skip
        cases b3
        · have HX : Hid (ans = 24) := by show _ = _; rw [HR.out]; rfl
          go_wp2_with (first | (go_at_call 103; refine (HC0.out _ HT0.out).mono ?_; rintro e w1 ⟨rfl, hb1⟩; have HT1 := hide (HT0.out.below hb1); clear hb1 hl e0 e1 e2 e3 e4 e5 e6 e7 e8 e9 e10 e11; obtain ⟨_, ⟨hl, e0, e1, e2, e3, e4, e5, e6, e7, e8, e9, e10, e11⟩, _, _⟩ := HT1.out; dsimp only at e0 e1 e2 e3 e4 e5 e6 e7 e8 e9 e10 e11) | (go_at_call 104; refine (HC1.out _ HT1.out).mono ?_; rintro e w1 ⟨rfl, hb1⟩; have HT2 := hide (HT1.out.below hb1); clear hb1 hl e0 e1 e2 e3 e4 e5 e6 e7 e8 e9 e10 e11; obtain ⟨_, ⟨hl, e0, e1, e2, e3, e4, e5, e6, e7, e8, e9, e10, e11⟩, _, _⟩ := HT2.out; dsimp only at e0 e1 e2 e3 e4 e5 e6 e7 e8 e9 e10 e11) | (go_at_call 105; refine (HC2.out _ HT2.out).mono ?_; rintro e w1 ⟨rfl, hb1⟩; have HT3 := hide (HT2.out.below hb1); clear hb1 hl e0 e1 e2 e3 e4 e5 e6 e7 e8 e9 e10 e11; obtain ⟨_, ⟨hl, e0, e1, e2, e3, e4, e5, e6, e7, e8, e9, e10, e11⟩, _, _⟩ := HT3.out; dsimp only at e0 e1 e2 e3 e4 e5 e6 e7 e8 e9 e10 e11) | (go_at_call 106; refine (HC3.out _ HT3.out).mono ?_; rintro e w1 ⟨rfl, hb1⟩; have HT4 := hide (HT3.out.below hb1); clear hb1 hl e0 e1 e2 e3 e4 e5 e6 e7 e8 e9 e10 e11; obtain ⟨_, ⟨hl, e0, e1, e2, e3, e4, e5, e6, e7, e8, e9, e10, e11⟩, _, _⟩ := HT4.out; dsimp only at e0 e1 e2 e3 e4 e5 e6 e7 e8 e9 e10 e11))
          go_ret
          exact ⟨by rw [HX.out]; rfl, HT4.out.bel⟩
        · skip
          cases b4
          · have HX : Hid (ans = 25) := by show _ = _; rw [HR.out]; rfl
            go_wp2_with (first | (go_at_call 103; refine (HC0.out _ HT0.out).mono ?_; rintro e w1 ⟨rfl, hb1⟩; have HT1 := hide (HT0.out.below hb1); clear hb1 hl e0 e1 e2 e3 e4 e5 e6 e7 e8 e9 e10 e11; obtain ⟨_, ⟨hl, e0, e1, e2, e3, e4, e5, e6, e7, e8, e9, e10, e11⟩, _, _⟩ := HT1.out; dsimp only at e0 e1 e2 e3 e4 e5 e6 e7 e8 e9 e10 e11) | (go_at_call 104; refine (HC1.out _ HT1.out).mono ?_; rintro e w1 ⟨rfl, hb1⟩; have HT2 := hide (HT1.out.below hb1); clear hb1 hl e0 e1 e2 e3 e4 e5 e6 e7 e8 e9 e10 e11; obtain ⟨_, ⟨hl, e0, e1, e2, e3, e4, e5, e6, e7, e8, e9, e10, e11⟩, _, _⟩ := HT2.out; dsimp only at e0 e1 e2 e3 e4 e5 e6 e7 e8 e9 e10 e11) | (go_at_call 105; refine (HC2.out _ HT2.out).mono ?_; rintro e w1 ⟨rfl, hb1⟩; have HT3 := hide (HT2.out.below hb1); clear hb1 hl e0 e1 e2 e3 e4 e5 e6 e7 e8 e9 e10 e11; obtain ⟨_, ⟨hl, e0, e1, e2, e3, e4, e5, e6, e7, e8, e9, e10, e11⟩, _, _⟩ := HT3.out; dsimp only at e0 e1 e2 e3 e4 e5 e6 e7 e8 e9 e10 e11) | (go_at_call 106; refine (HC3.out _ HT3.out).mono ?_; rintro e w1 ⟨rfl, hb1⟩; have HT4 := hide (HT3.out.below hb1); clear hb1 hl e0 e1 e2 e3 e4 e5 e6 e7 e8 e9 e10 e11; obtain ⟨_, ⟨hl, e0, e1, e2, e3, e4, e5, e6, e7, e8, e9, e10, e11⟩, _, _⟩ := HT4.out; dsimp only at e0 e1 e2 e3 e4 e5 e6 e7 e8 e9 e10 e11) | (go_at_call 107; refine (HC4.out _ HT4.out).mono ?_; rintro e w1 ⟨rfl, hb1⟩; have HT5 := hide (HT4.out.below hb1); clear hb1 hl e0 e1 e2 e3 e4 e5 e6 e7 e8 e9 e10 e11; obtain ⟨_, ⟨hl, e0, e1, e2, e3, e4, e5, e6, e7, e8, e9, e10, e11⟩, _, _⟩ := HT5.out; dsimp only at e0 e1 e2 e3 e4 e5 e6 e7 e8 e9 e10 e11))
            go_ret
            exact ⟨by rw [HX.out]; rfl, HT5.out.bel⟩
          · skip
            have HC5 := hide (HC5'.out rfl)
            cases b5
            · have HX : Hid (ans = 26) := by show _ = _; rw [HR.out]; rfl
              go_wp2_with (first | (go_at_call 103; refine (HC0.out _ HT0.out).mono ?_; rintro e w1 ⟨rfl, hb1⟩; have HT1 := hide (HT0.out.below hb1); clear hb1 hl e0 e1 e2 e3 e4 e5 e6 e7 e8 e9 e10 e11; obtain ⟨_, ⟨hl, e0, e1, e2, e3, e4, e5, e6, e7, e8, e9, e10, e11⟩, _, _⟩ := HT1.out; dsimp only at e0 e1 e2 e3 e4 e5 e6 e7 e8 e9 e10 e11) | (go_at_call 104; refine (HC1.out _ HT1.out).mono ?_; rintro e w1 ⟨rfl, hb1⟩; have HT2 := hide (HT1.out.below hb1); clear hb1 hl e0 e1 e2 e3 e4 e5 e6 e7 e8 e9 e10 e11; obtain ⟨_, ⟨hl, e0, e1, e2, e3, e4, e5, e6, e7, e8, e9, e10, e11⟩, _, _⟩ := HT2.out; dsimp only at e0 e1 e2 e3 e4 e5 e6 e7 e8 e9 e10 e11) | (go_at_call 105; refine (HC2.out _ HT2.out).mono ?_; rintro e w1 ⟨rfl, hb1⟩; have HT3 := hide (HT2.out.below hb1); clear hb1 hl e0 e1 e2 e3 e4 e5 e6 e7 e8 e9 e10 e11; obtain ⟨_, ⟨hl, e0, e1, e2, e3, e4, e5, e6, e7, e8, e9, e10, e11⟩, _, _⟩ := HT3.out; dsimp only at e0 e1 e2 e3 e4 e5 e6 e7 e8 e9 e10 e11) | (go_at_call 106; refine (HC3.out _ HT3.out).mono ?_; rintro e w1 ⟨rfl, hb1⟩; have HT4 := hide (HT3.out.below hb1); clear hb1 hl e0 e1 e2 e3 e4 e5 e6 e7 e8 e9 e10 e11; obtain ⟨_, ⟨hl, e0, e1, e2, e3, e4, e5, e6, e7, e8, e9, e10, e11⟩, _, _⟩ := HT4.out; dsimp only at e0 e1 e2 e3 e4 e5 e6 e7 e8 e9 e10 e11) | (go_at_call 107; refine (HC4.out _ HT4.out).mono ?_; rintro e w1 ⟨rfl, hb1⟩; have HT5 := hide (HT4.out.below hb1); clear hb1 hl e0 e1 e2 e3 e4 e5 e6 e7 e8 e9 e10 e11; obtain ⟨_, ⟨hl, e0, e1, e2, e3, e4, e5, e6, e7, e8, e9, e10, e11⟩, _, _⟩ := HT5.out; dsimp only at e0 e1 e2 e3 e4 e5 e6 e7 e8 e9 e10 e11) | (go_at_call 108; refine (HC5.out _ HT5.out).mono ?_; rintro e w1 ⟨rfl, hb1⟩; have HT6 := hide (HT5.out.below hb1); clear hb1 hl e0 e1 e2 e3 e4 e5 e6 e7 e8 e9 e10 e11; obtain ⟨_, ⟨hl, e0, e1, e2, e3, e4, e5, e6, e7, e8, e9, e10, e11⟩, _, _⟩ := HT6.out; dsimp only at e0 e1 e2 e3 e4 e5 e6 e7 e8 e9 e10 e11))
              go_ret
              exact ⟨by rw [HX.out]; rfl, HT6.out.bel⟩
            · skip
              have HX : Hid (ans = 0) := by show _ = _; rw [HR.out]; rfl
              go_wp2_with (first | (go_at_call 103; refine (HC0.out _ HT0.out).mono ?_; rintro e w1 ⟨rfl, hb1⟩; have HT1 := hide (HT0.out.below hb1); clear hb1 hl e0 e1 e2 e3 e4 e5 e6 e7 e8 e9 e10 e11; obtain ⟨_, ⟨hl, e0, e1, e2, e3, e4, e5, e6, e7, e8, e9, e10, e11⟩, _, _⟩ := HT1.out; dsimp only at e0 e1 e2 e3 e4 e5 e6 e7 e8 e9 e10 e11) | (go_at_call 104; refine (HC1.out _ HT1.out).mono ?_; rintro e w1 ⟨rfl, hb1⟩; have HT2 := hide (HT1.out.below hb1); clear hb1 hl e0 e1 e2 e3 e4 e5 e6 e7 e8 e9 e10 e11; obtain ⟨_, ⟨hl, e0, e1, e2, e3, e4, e5, e6, e7, e8, e9, e10, e11⟩, _, _⟩ := HT2.out; dsimp only at e0 e1 e2 e3 e4 e5 e6 e7 e8 e9 e10 e11) | (go_at_call 105; refine (HC2.out _ HT2.out).mono ?_; rintro e w1 ⟨rfl, hb1⟩; have HT3 := hide (HT2.out.below hb1); clear hb1 hl e0 e1 e2 e3 e4 e5 e6 e7 e8 e9 e10 e11; obtain ⟨_, ⟨hl, e0, e1, e2, e3, e4, e5, e6, e7, e8, e9, e10, e11⟩, _, _⟩ := HT3.out; dsimp only at e0 e1 e2 e3 e4 e5 e6 e7 e8 e9 e10 e11) | (go_at_call 106; refine (HC3.out _ HT3.out).mono ?_; rintro e w1 ⟨rfl, hb1⟩; have HT4 := hide (HT3.out.below hb1); clear hb1 hl e0 e1 e2 e3 e4 e5 e6 e7 e8 e9 e10 e11; obtain ⟨_, ⟨hl, e0, e1, e2, e3, e4, e5, e6, e7, e8, e9, e10, e11⟩, _, _⟩ := HT4.out; dsimp only at e0 e1 e2 e3 e4 e5 e6 e7 e8 e9 e10 e11) | (go_at_call 107; refine (HC4.out _ HT4.out).mono ?_; rintro e w1 ⟨rfl, hb1⟩; have HT5 := hide (HT4.out.below hb1); clear hb1 hl e0 e1 e2 e3 e4 e5 e6 e7 e8 e9 e10 e11; obtain ⟨_, ⟨hl, e0, e1, e2, e3, e4, e5, e6, e7, e8, e9, e10, e11⟩, _, _⟩ := HT5.out; dsimp only at e0 e1 e2 e3 e4 e5 e6 e7 e8 e9 e10 e11) | (go_at_call 108; refine (HC5.out _ HT5.out).mono ?_; rintro e w1 ⟨rfl, hb1⟩; have HT6 := hide (HT5.out.below hb1); clear hb1 hl e0 e1 e2 e3 e4 e5 e6 e7 e8 e9 e10 e11; obtain ⟨_, ⟨hl, e0, e1, e2, e3, e4, e5, e6, e7, e8, e9, e10, e11⟩, _, _⟩ := HT6.out; dsimp only at e0 e1 e2 e3 e4 e5 e6 e7 e8 e9 e10 e11))
              go_ret
              exact ⟨by rw [HX.out]; rfl, HT6.out.bel⟩
end Go.Proofs.YtbeggdahbhfhpaaDoor
