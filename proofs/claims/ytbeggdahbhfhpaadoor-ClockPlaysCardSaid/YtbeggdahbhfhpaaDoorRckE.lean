/-
  The document's own row on clocks, in the program's words.
-/
import Derived.Test.YtbeggdahbhfhpaaDoorRckA
import Derived.Deep.RegionHeld3
namespace Go.Proofs.YtbeggdahbhfhpaaDoor
open Go.RowKit Go.Deep
set_option linter.unusedVariables false
set_option linter.unusedSimpArgs false

set_option maxRecDepth 100000 in
set_option maxHeartbeats 8000000 in
theorem rclockK (c : Conf) (d : Ad) (w : World) (hg : Glo w) (h : ConfAt w c d) :
    Calls Tryd.prog 104 #[c.val d] w fun e w' => e = .returned (.bool (ClockK c)) ∧ Below w.heap.size w w' := by
  have hS := CfS.first 28 hg h
  have HK0 : Hid (ClockK c = true ↔ ((0 ≤ c.drift ∧ c.drift ≤ 1048576) ∧ (0 ≤ c.reading ∧ c.reading ≤ 1048576)) ∧ (2 * precF c + c.reading ≤ c.margin ∧ c.margin ≤ 16777216) ∧ (2 * precF c + c.reading ≤ c.bound ∧ c.bound ≤ 16777216) ∧ (1 ≤ c.rejoin ∧ c.rejoin ≤ 8) ∧ 1 ≤ c.quota ∧ c.quota ≤ 16) := by
    show _ ↔ _
    simp only [ClockK, inB, Bool.and_eq_true, decide_eq_true_eq, and_assoc]
  have HPR0 := hide (fun (h1 : 0 ≤ c.drift) (h2 : c.drift ≤ 1048576) (h3 : 0 ≤ c.reading) (h4 : c.reading ≤ 1048576) W (_ : CfS w W c d) => rprec c d W h1 h2 h3 h4)
  have HPF : Hid (precF c = 2 * (c.drift + c.reading) + 1) := rfl
  clear hg h
  obtain ⟨oA, oC, pA, pC, wA, wC, qA, qC, lA, lC⟩ := d
  obtain ⟨nodes, owners, drift, reading, margin, bound, rejoin, quota, parts, windows, ports, links⟩ := c
  unfold Conf.val at HPR0 ⊢
  unfold Conf.cells at hS
  dsimp only at hS HK0 HPR0 HPF ⊢
  generalize ClockK ⟨nodes, owners, drift, reading, margin, bound, rejoin, quota, parts, windows, ports, links⟩ = ans at HK0 ⊢
  generalize precF ⟨nodes, owners, drift, reading, margin, bound, rejoin, quota, parts, windows, ports, links⟩ = P at HK0 HPR0 HPF
  obtain ⟨hb, ⟨hl, e0, e1, e2, e3, e4, e5, e6, e7, e8, e9, e10, e11⟩, hg, hc⟩ := id hS
  dsimp only at e0 e1 e2 e3 e4 e5 e6 e7 e8 e9 e10 e11
  have HS := hide hS
  clear hS hg hc
  have HNo : Hid (¬ ((0 ≤ drift ∧ drift ≤ 1048576) ∧ (0 ≤ reading ∧ reading ≤ 1048576)) → ans = false) := fun q => by
    cases ha : ans with
    | false => rfl
    | true => exact absurd (HK0.out.1 ha).1 q
  go_enter Tryd.func104, Tryd.ntmps104
  by_cases q : (0 ≤ drift ∧ drift ≤ 1048576) ∧ (0 ≤ reading ∧ reading ≤ 1048576)
  · obtain ⟨⟨q1, q2⟩, q3, q4⟩ := q
    have HPR := hide (HPR0.out q1 q2 q3 q4)
    have HK : Hid (ans = true ↔ (2 * P + reading ≤ margin ∧ margin ≤ 16777216) ∧ (2 * P + reading ≤ bound ∧ bound ≤ 16777216) ∧ (1 ≤ rejoin ∧ rejoin ≤ 8) ∧ 1 ≤ quota ∧ quota ≤ 16) := ⟨fun a => (HK0.out.1 a).2, fun a => HK0.out.2 ⟨⟨⟨q1, q2⟩, q3, q4⟩, a⟩⟩
    obtain ⟨P0, P1⟩ : 0 ≤ P ∧ P ≤ 4194305 := by have := HPF.out; omega
    clear HPR0 HK0 HPF
    have hw0 : IntKind.i64.wrap (P + P) = P + P := by rw [IntKind.wrap_i64]; omega
    have hw1 : IntKind.i64.wrap (P + P + reading) = P + P + reading := by rw [IntKind.wrap_i64]; omega
    go_upto_region 3 with fail
    have HTD := hide (HS.out.below (Below.refl _ _).drew)
    clear e0 e1 e2 e3 e4 e5 e6 e7 e8 e9 e10 e11 hl
    obtain ⟨_, ⟨hl, e0, e1, e2, e3, e4, e5, e6, e7, e8, e9, e10, e11⟩, _, _⟩ := HTD.out
    dsimp only at e0 e1 e2 e3 e4 e5 e6 e7 e8 e9 e10 e11
    refine wp_region_held_drew (S := fun w' => w'.cell? ⟨w.heap.size, 0, none⟩ = some (.int .i64 nodes) ∧ w'.cell? ⟨w.heap.size, 1, none⟩ = some (.slice oA owners.length oC) ∧ w'.cell? ⟨w.heap.size, 2, none⟩ = some (.int .i64 drift) ∧ w'.cell? ⟨w.heap.size, 3, none⟩ = some (.int .i64 reading) ∧ w'.cell? ⟨w.heap.size, 4, none⟩ = some (.int .i64 margin) ∧ w'.cell? ⟨w.heap.size, 5, none⟩ = some (.int .i64 bound) ∧ w'.cell? ⟨w.heap.size, 6, none⟩ = some (.int .i64 rejoin) ∧ w'.cell? ⟨w.heap.size, 7, none⟩ = some (.int .i64 quota) ∧ w'.cell? ⟨w.heap.size, 8, none⟩ = some (.slice pA parts.length pC) ∧ w'.cell? ⟨w.heap.size, 9, none⟩ = some (.slice wA windows.length wC) ∧ w'.cell? ⟨w.heap.size, 10, none⟩ = some (.slice qA ports.length qC) ∧ w'.cell? ⟨w.heap.size, 11, none⟩ = some (.slice lA links.length lC)) (by kernel_rfl) (⟨e0, e1, e2, e3, e4, e5, e6, e7, e8, e9, e10, e11⟩) (fun hHeld => ?_)
    refine wpAnyH_take (i := 0) (v := ?v0_0) rfl (by kernel_rfl) (by kernel_rfl) (by kernel_rfl) (fun _ _ _ h => h) (Or.inl ⟨by kernel_rfl, ?y0_0⟩) (by assumption) ?r0_0
    case y0_0 => (intro W hSW; (try dsimp only at hSW); go_simp; (try with_reducible rfl))
    change wpAnyH _ _ _ _ _ _ _ (Act.put _ (some 22) _) _
    (try simp only [Act.put, List.setIfInBounds_toArray, List.set_cons_zero, List.set_cons_succ])
    refine wpAnyH_take (i := 2) (v := ?v1_2) rfl (by kernel_rfl) (by kernel_rfl) (by kernel_rfl) (fun _ _ _ h => h) (Or.inl ⟨by kernel_rfl, ?y1_2⟩) (by assumption) ?r1_2
    case y1_2 => (intro W hSW; (try dsimp only at hSW); go_simp; (try with_reducible rfl))
    change wpAnyH _ _ _ _ _ _ _ (Act.put _ (some 24) _) _
    (try simp only [Act.put, List.setIfInBounds_toArray, List.set_cons_zero, List.set_cons_succ])
    refine wpAnyH_take (i := 5) (v := ?v2_5) rfl (by kernel_rfl) (by kernel_rfl) (by kernel_rfl) (fun _ _ _ h => h) (Or.inl ⟨by kernel_rfl, ?y2_5⟩) (by assumption) ?r2_5
    case y2_5 => (intro W hSW; (try dsimp only at hSW); go_simp; (try with_reducible rfl))
    change wpAnyH _ _ _ _ _ _ _ (Act.put _ (some 27) _) _
    (try simp only [Act.put, List.setIfInBounds_toArray, List.set_cons_zero, List.set_cons_succ])
    refine wpAnyH_take (i := 6) (v := ?v3_6) rfl (by kernel_rfl) (by kernel_rfl) (by kernel_rfl) (fun _ _ _ h => h) (Or.inl ⟨by kernel_rfl, ?y3_6⟩) (by assumption) ?r3_6
    case y3_6 => (intro W hSW; (try dsimp only at hSW); go_simp; (try with_reducible rfl))
    change wpAnyH _ _ _ _ _ _ _ (Act.put _ (some 28) _) _
    (try simp only [Act.put, List.setIfInBounds_toArray, List.set_cons_zero, List.set_cons_succ])
    refine wpAnyH_ready (rs := [1]) (by kernel_rfl) (by simp) ?_
    refine AllReadyH.cons rfl (fun K hK => ?_) AllReadyH.nil
    rw [if_pos (by rfl)]
    go_simp
    refine (HPR.out _ HTD.out).mono ?_
    rintro e w1 ⟨rfl, hb1⟩
    have HT1 := hide (HTD.out.below hb1)
    clear hb1 hHeld e0 e1 e2 e3 e4 e5 e6 e7 e8 e9 e10 e11 hl
    obtain ⟨_, ⟨hl, e0, e1, e2, e3, e4, e5, e6, e7, e8, e9, e10, e11⟩, _, _⟩ := HT1.out
    dsimp only at e0 e1 e2 e3 e4 e5 e6 e7 e8 e9 e10 e11
    refine hK.out _ _ (⟨e0, e1, e2, e3, e4, e5, e6, e7, e8, e9, e10, e11⟩) (fun hHeld => ?_)
    clear hK K
    (try simp only [Act.put, List.setIfInBounds_toArray, List.set_cons_zero, List.set_cons_succ])
    refine wpAnyH_ready (rs := [3]) (by kernel_rfl) (by simp) ?_
    refine AllReadyH.cons rfl (fun K hK => ?_) AllReadyH.nil
    rw [if_pos (by rfl)]
    go_simp
    refine (HPR.out _ HT1.out).mono ?_
    rintro e w1 ⟨rfl, hb1⟩
    have HT2 := hide (HT1.out.below hb1)
    clear hb1 hHeld e0 e1 e2 e3 e4 e5 e6 e7 e8 e9 e10 e11 hl
    obtain ⟨_, ⟨hl, e0, e1, e2, e3, e4, e5, e6, e7, e8, e9, e10, e11⟩, _, _⟩ := HT2.out
    dsimp only at e0 e1 e2 e3 e4 e5 e6 e7 e8 e9 e10 e11
    refine hK.out _ _ (⟨e0, e1, e2, e3, e4, e5, e6, e7, e8, e9, e10, e11⟩) (fun hHeld => ?_)
    clear hK K
    (try simp only [Act.put, List.setIfInBounds_toArray, List.set_cons_zero, List.set_cons_succ])
    refine wpAnyH_take (i := 4) (v := ?v4_4) rfl (by kernel_rfl) (by kernel_rfl) (by kernel_rfl) (fun _ _ _ h => h) (Or.inl ⟨by kernel_rfl, ?y4_4⟩) (by assumption) ?r4_4
    case y4_4 => (intro W hSW; (try dsimp only at hSW); go_simp; (try with_reducible rfl))
    change wpAnyH _ _ _ _ _ _ _ (Act.put _ (some 26) _) _
    (try simp only [Act.put, List.setIfInBounds_toArray, List.set_cons_zero, List.set_cons_succ])
    refine wpAnyH_take (i := 7) (v := ?v5_7) rfl (by kernel_rfl) (by kernel_rfl) (by kernel_rfl) (fun _ _ _ h => h) (Or.inl ⟨by kernel_rfl, ?y5_7⟩) (by assumption) ?r5_7
    case y5_7 => (intro W hSW; (try dsimp only at hSW); go_simp; (try with_reducible rfl))
    change wpAnyH _ _ _ _ _ _ _ (Act.put _ (some 29) _) _
    (try simp only [Act.put, List.setIfInBounds_toArray, List.set_cons_zero, List.set_cons_succ])
    refine wpAnyH_take (i := 8) (v := ?v6_8) rfl (by kernel_rfl) (by kernel_rfl) (by kernel_rfl) (fun _ _ _ h => h) (Or.inl ⟨by kernel_rfl, ?y6_8⟩) (by assumption) ?r6_8
    case y6_8 => (intro W hSW; (try dsimp only at hSW); go_simp; (try with_reducible rfl))
    change wpAnyH _ _ _ _ _ _ _ (Act.put _ (some 3) _) _
    (try simp only [Act.put, List.setIfInBounds_toArray, List.set_cons_zero, List.set_cons_succ])
    refine wpAnyH_done (by kernel_rfl) ?_ _
    have HBB := hide HT2.out.bel
    go_wp2_with fail
    all_goals go_ret
    all_goals refine ⟨?_, HBB.out⟩
    all_goals show Ending.returned (.bool _) = Ending.returned (.bool _)
    all_goals refine congrArg (fun b => Ending.returned (.bool b)) (Bool.eq_iff_iff.2 ?_)
    all_goals rw [HK.out]
    all_goals try simp only [beq_iff_eq, decide_eq_true_eq, decide_eq_false_iff_not, Bool.false_eq_true, false_iff, beq_eq_false_iff_ne] at *
    all_goals omega
  · have HX := hide (HNo.out q)
    clear HPR0 HK0 HPF HNo
    go_wp2_with fail
    all_goals first | (exfalso; simp only [decide_eq_true_eq, decide_eq_false_iff_not] at *; omega) | (go_ret; exact ⟨by rw [HX.out]; rfl, hb⟩)
end Go.Proofs.YtbeggdahbhfhpaaDoor
