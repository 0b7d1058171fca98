/-
  What links make next, told; who is come to.
-/
import Derived.Test.YthngjegimecaaaaDoorRchB
import Derived.WalkMore
namespace Go.Proofs.YthngjegimecaaaaDoor
open Go.RowKit Go.Deep
set_option linter.unusedVariables false
set_option linter.unusedSimpArgs false

theorem vdrewNx {B : Nat} {w w' : World} (h : Below B w w') (n : Nat) : Below B w (w'.drewN n) := ⟨h.os, h.tape, h.output, h.size, h.block⟩
set_option maxRecDepth 100000 in
set_option maxHeartbeats 1000000 in
theorem partOf_at (c : Conf) (d : Ad) (z : Int) (w : World) (hg : Glo w) (h : ConfAt w c d) :
    Calls Tryd.prog 16 #[c.val d, .int .i64 z] w fun e w' => e = .returned (.tuple #[.int .i64 (((partP c z).getD 0 : Nat) : Int), .bool (partP c z).isSome]) ∧ Below w.heap.size w w' := by
  have hS := CfS.first 28 hg h
  clear hg h
  generalize hA : w.alloc (.cells (c.cells d) 28) = wa at hS
  obtain ⟨oA, oC, pA, pC, wA, wC, qA, qC, lA, lC⟩ := d
  unfold Conf.val
  unfold Conf.cells at hA
  dsimp only at hA hS ⊢
  have HA := hide hA
  clear hA
  obtain ⟨hb, ⟨hl, e0, e1, e2, e3, e4, e5, e6, e7, e8, e9, e10, e11⟩, hg, hc⟩ := id hS
  dsimp only at e0 e1 e2 e3 e4 e5 e6 e7 e8 e9 e10 e11
  have HBW : Hid (Below w.heap.size w wa.drew) := vdrewNx hb 1
  clear e0 e1 e2 e3 e4 e5 e6 e7 e9 e11
  by_cases h1 : ofB z c.ports.length = true
  · have h1' := h1
    simp only [ofB, Bool.and_eq_true, decide_eq_true_eq] at h1'
    obtain ⟨n, rfl⟩ := Int.eq_ofNat_of_zero_le h1'.1
    have hn : n < c.ports.length := by omega
    obtain ⟨pb, po, hpA, hpb, f0, _⟩ := hc.ports.at hn
    dsimp only at hpA
    subst hpA
    have H1 : Hid (ofB (n : Int) c.ports.length = true) := h1
    by_cases h2 : ofB (c.ports.getD n default).part c.parts.length = true
    · have hp : partP c (n : Int) = some (c.ports.getD n default).part.toNat := by unfold partP; rw [Int.toNat_natCast, if_pos ⟨h1, h2⟩]
      have h2' := h2
      simp only [ofB, Bool.and_eq_true, decide_eq_true_eq] at h2'
      obtain ⟨q, hq⟩ := Int.eq_ofNat_of_zero_le h2'.1
      have hp2 : partP c (n : Int) = some q := by rw [hp, hq]; rfl
      rw [hp2]
      rw [hq] at f0 h2
      have H2 : Hid (ofB (q : Int) c.parts.length = true) := h2
      clear hp hp2 h1 h2 h1' h2' hb hg hc hS
      go_enter Tryd.func16, Tryd.ntmps16
      go_wp2_with fail
      rw [HA.out]
      refine wp_region_held_drew (S := fun w' => w'.cell? ⟨w.heap.size, 8, none⟩ = some (.slice pA c.parts.length pC) ∧ w'.cell? ⟨w.heap.size, 10, none⟩ = some (.slice (some ⟨pb, po, none⟩) c.ports.length qC) ∧ w'.cell? ⟨pb, po + n * 6, none⟩ = some (.int .i64 (q : Int))) (by kernel_rfl) (⟨e8, e10, f0⟩) (fun hHeld => ?_)
      refine wpAnyH_take (i := 0) (v := ?v1_0) rfl (by kernel_rfl) (by kernel_rfl) (by kernel_rfl) (fun _ _ _ h => h) (Or.inl ⟨by kernel_rfl, ?y1_0⟩) (by assumption) ?r1_0
      case y1_0 => (intro W hSW; (try dsimp only at hSW); go_simp; (try with_reducible rfl))
      change wpAnyH _ _ _ _ _ _ _ (Act.put _ (some 6) _) _
      (try simp only [Act.put, List.setIfInBounds_toArray, List.set_cons_zero, List.set_cons_succ])
      refine wpAnyH_take (i := 1) (v := ?v1_1) rfl (by kernel_rfl) (by kernel_rfl) (by kernel_rfl) (fun _ _ _ h => h) (Or.inl ⟨by kernel_rfl, ?y1_1⟩) (by assumption) ?r1_1
      case y1_1 => (intro W hSW; (try dsimp only at hSW); go_simp; (try with_reducible rfl))
      change wpAnyH _ _ _ _ _ _ _ (Act.put _ (some 7) _) _
      (try simp only [Act.put, List.setIfInBounds_toArray, List.set_cons_zero, List.set_cons_succ])
      refine wpAnyH_take (i := 2) (v := ?v1_2) rfl (by kernel_rfl) (by kernel_rfl) (by kernel_rfl) (fun _ _ _ h => h) (Or.inl ⟨by kernel_rfl, ?y1_2⟩) (by assumption) ?r1_2
      case y1_2 => (intro W hSW; (try dsimp only at hSW); go_simp; (try with_reducible rfl))
      change wpAnyH _ _ _ _ _ _ _ (Act.put _ (some 8) _) _
      (try simp only [Act.put, List.setIfInBounds_toArray, List.set_cons_zero, List.set_cons_succ])
      refine wpAnyH_ready (rs := [3]) (by kernel_rfl) (by simp) ?_
      refine AllReadyH.cons rfl (fun K hK => ?_) AllReadyH.nil
      rw [if_pos (by rfl)]
      go_simp
      first | refine (of_ports _ _ _ _ _).mono ?_ | refine (of_parts _ _ _ _ _).mono ?_
      rintro e w1 ⟨rfl, rfl⟩
      first | rw [H1.out] | rw [H2.out]
      go_simp
      refine hK.out _ _ (⟨e8, e10, f0⟩) (fun hHeld => ?_)
      clear hK K
      (try simp only [Act.put, List.setIfInBounds_toArray, List.set_cons_zero, List.set_cons_succ])
      refine wpAnyH_take (i := 4) (v := ?v1_4) rfl (by kernel_rfl) (by kernel_rfl) (by kernel_rfl) (fun _ _ _ h => h) (Or.inl ⟨by kernel_rfl, ?y1_4⟩) (by assumption) ?r1_4
      case y1_4 => (intro W hSW; (try dsimp only at hSW); go_simp; (try with_reducible rfl))
      change wpAnyH _ _ _ _ _ _ _ (Act.put _ (some 10) _) _
      (try simp only [Act.put, List.setIfInBounds_toArray, List.set_cons_zero, List.set_cons_succ])
      refine wpAnyH_take (i := 5) (v := ?v1_5) rfl (by kernel_rfl) (by kernel_rfl) (by kernel_rfl) (fun _ _ _ h => h) (Or.inl ⟨by kernel_rfl, ?y1_5⟩) (by assumption) ?r1_5
      case y1_5 => (intro W hSW; (try dsimp only at hSW); go_simp; (try with_reducible rfl))
      change wpAnyH _ _ _ _ _ _ _ (Act.put _ (some 11) _) _
      (try simp only [Act.put, List.setIfInBounds_toArray, List.set_cons_zero, List.set_cons_succ])
      refine wpAnyH_take (i := 6) (v := ?v1_6) rfl (by kernel_rfl) (by kernel_rfl) (by kernel_rfl) (fun _ _ _ h => h) (Or.inl ⟨by kernel_rfl, ?y1_6⟩) (by assumption) ?r1_6
      case y1_6 => (intro W hSW; (try dsimp only at hSW); go_simp; (try with_reducible rfl))
      change wpAnyH _ _ _ _ _ _ _ (Act.put _ (some 12) _) _
      (try simp only [Act.put, List.setIfInBounds_toArray, List.set_cons_zero, List.set_cons_succ])
      refine wpAnyH_take (i := 7) (v := ?v1_7) rfl (by kernel_rfl) (by kernel_rfl) (by kernel_rfl) (fun _ _ _ h => h) (Or.inl ⟨by kernel_rfl, ?y1_7⟩) (by assumption) ?r1_7
      case y1_7 => (intro W hSW; (try dsimp only at hSW); go_simp; (try with_reducible rfl))
      change wpAnyH _ _ _ _ _ _ _ (Act.put _ (some 13) _) _
      (try simp only [Act.put, List.setIfInBounds_toArray, List.set_cons_zero, List.set_cons_succ])
      refine wpAnyH_take (i := 8) (v := ?v1_8) rfl (by kernel_rfl) (by kernel_rfl) (by kernel_rfl) (fun _ _ _ h => h) (Or.inl ⟨by kernel_rfl, ?y1_8⟩) (by assumption) ?r1_8
      case y1_8 => (intro W hSW; (try dsimp only at hSW); go_simp; (try with_reducible rfl))
      change wpAnyH _ _ _ _ _ _ _ (Act.put _ (some 14) _) _
      (try simp only [Act.put, List.setIfInBounds_toArray, List.set_cons_zero, List.set_cons_succ])
      refine wpAnyH_take (i := 9) (v := ?v1_9) rfl (by kernel_rfl) (by kernel_rfl) (by kernel_rfl) (fun _ _ _ h => h) (Or.inl ⟨by kernel_rfl, ?y1_9⟩) (by assumption) ?r1_9
      case y1_9 => (intro W hSW; (try dsimp only at hSW); go_simp; (try with_reducible rfl))
      change wpAnyH _ _ _ _ _ _ _ (Act.put _ (some 15) _) _
      (try simp only [Act.put, List.setIfInBounds_toArray, List.set_cons_zero, List.set_cons_succ])
      refine wpAnyH_take (i := 10) (v := ?v1_10) rfl (by kernel_rfl) (by kernel_rfl) (by kernel_rfl) (fun _ _ _ h => h) (Or.inl ⟨by kernel_rfl, ?y1_10⟩) (by assumption) ?r1_10
      case y1_10 => (intro W hSW; (try dsimp only at hSW); go_simp; (try with_reducible rfl))
      change wpAnyH _ _ _ _ _ _ _ (Act.put _ (some 16) _) _
      (try simp only [Act.put, List.setIfInBounds_toArray, List.set_cons_zero, List.set_cons_succ])
      refine wpAnyH_take (i := 11) (v := ?v1_11) rfl (by kernel_rfl) (by kernel_rfl) (by kernel_rfl) (fun _ _ _ h => h) (Or.inl ⟨by kernel_rfl, ?y1_11⟩) (by assumption) ?r1_11
      case y1_11 => (intro W hSW; (try dsimp only at hSW); go_simp; (try with_reducible rfl))
      change wpAnyH _ _ _ _ _ _ _ (Act.put _ (some 17) _) _
      (try simp only [Act.put, List.setIfInBounds_toArray, List.set_cons_zero, List.set_cons_succ])
      refine wpAnyH_take (i := 12) (v := ?v1_12) rfl (by kernel_rfl) (by kernel_rfl) (by kernel_rfl) (fun _ _ _ h => h) (Or.inl ⟨by kernel_rfl, ?y1_12⟩) (by assumption) ?r1_12
      case y1_12 => (intro W hSW; (try dsimp only at hSW); go_simp; (try with_reducible rfl))
      change wpAnyH _ _ _ _ _ _ _ (Act.put _ (some 18) _) _
      (try simp only [Act.put, List.setIfInBounds_toArray, List.set_cons_zero, List.set_cons_succ])
      refine wpAnyH_take (i := 13) (v := ?v1_13) rfl (by kernel_rfl) (by kernel_rfl) (by kernel_rfl) (fun _ _ _ h => h) (Or.inl ⟨by kernel_rfl, ?y1_13⟩) (by assumption) ?r1_13
      case y1_13 => (intro W hSW; (try dsimp only at hSW); go_simp; (try with_reducible rfl))
      change wpAnyH _ _ _ _ _ _ _ (Act.put _ (some 19) _) _
      (try simp only [Act.put, List.setIfInBounds_toArray, List.set_cons_zero, List.set_cons_succ])
      refine wpAnyH_ready (rs := [14]) (by kernel_rfl) (by simp) ?_
      refine AllReadyH.cons rfl (fun K hK => ?_) AllReadyH.nil
      rw [if_pos (by rfl)]
      go_simp
      first | refine (of_ports _ _ _ _ _).mono ?_ | refine (of_parts _ _ _ _ _).mono ?_
      rintro e w1 ⟨rfl, rfl⟩
      first | rw [H1.out] | rw [H2.out]
      go_simp
      refine hK.out _ _ (⟨e8, e10, f0⟩) (fun hHeld => ?_)
      clear hK K
      (try simp only [Act.put, List.setIfInBounds_toArray, List.set_cons_zero, List.set_cons_succ])
      refine wpAnyH_take (i := 15) (v := ?v1_15) rfl (by kernel_rfl) (by kernel_rfl) (by kernel_rfl) (fun _ _ _ h => h) (Or.inl ⟨by kernel_rfl, ?y1_15⟩) (by assumption) ?r1_15
      case y1_15 => (intro W hSW; (try dsimp only at hSW); go_simp; (try with_reducible rfl))
      change wpAnyH _ _ _ _ _ _ _ (Act.put _ (some 21) _) _
      (try simp only [Act.put, List.setIfInBounds_toArray, List.set_cons_zero, List.set_cons_succ])
      refine wpAnyH_take (i := 16) (v := ?v1_16) rfl (by kernel_rfl) (by kernel_rfl) (by kernel_rfl) (fun _ _ _ h => h) (Or.inl ⟨by kernel_rfl, ?y1_16⟩) (by assumption) ?r1_16
      case y1_16 => (intro W hSW; (try dsimp only at hSW); go_simp; (try with_reducible rfl))
      change wpAnyH _ _ _ _ _ _ _ (Act.put _ (some 22) _) _
      (try simp only [Act.put, List.setIfInBounds_toArray, List.set_cons_zero, List.set_cons_succ])
      refine wpAnyH_done (by kernel_rfl) ?_ _
      obtain ⟨e8, e10, f0⟩ := hHeld
      generalize wa.drew = wb at e8 e10 f0 HBW ⊢
      go_wp2
      go_ret2
      exact ⟨rfl, HBW.out⟩
    · have hp : partP c (n : Int) = none := by unfold partP; rw [Int.toNat_natCast, if_neg (fun h => h2 h.2)]
      rw [hp]
      have H2 := hide ((Bool.not_eq_true _).mp h2)
      clear hp h1 h2 h1' hb hg hc hS
      generalize (c.ports.getD n default).part = q at f0 H2
      go_enter Tryd.func16, Tryd.ntmps16
      go_wp2_with fail
      rw [HA.out]
      refine wp_region_held_drew (S := fun w' => w'.cell? ⟨w.heap.size, 8, none⟩ = some (.slice pA c.parts.length pC) ∧ w'.cell? ⟨w.heap.size, 10, none⟩ = some (.slice (some ⟨pb, po, none⟩) c.ports.length qC) ∧ w'.cell? ⟨pb, po + n * 6, none⟩ = some (.int .i64 q)) (by kernel_rfl) (⟨e8, e10, f0⟩) (fun hHeld => ?_)
      refine wpAnyH_take (i := 0) (v := ?v2_0) rfl (by kernel_rfl) (by kernel_rfl) (by kernel_rfl) (fun _ _ _ h => h) (Or.inl ⟨by kernel_rfl, ?y2_0⟩) (by assumption) ?r2_0
      case y2_0 => (intro W hSW; (try dsimp only at hSW); go_simp; (try with_reducible rfl))
      change wpAnyH _ _ _ _ _ _ _ (Act.put _ (some 6) _) _
      (try simp only [Act.put, List.setIfInBounds_toArray, List.set_cons_zero, List.set_cons_succ])
      refine wpAnyH_take (i := 1) (v := ?v2_1) rfl (by kernel_rfl) (by kernel_rfl) (by kernel_rfl) (fun _ _ _ h => h) (Or.inl ⟨by kernel_rfl, ?y2_1⟩) (by assumption) ?r2_1
      case y2_1 => (intro W hSW; (try dsimp only at hSW); go_simp; (try with_reducible rfl))
      change wpAnyH _ _ _ _ _ _ _ (Act.put _ (some 7) _) _
      (try simp only [Act.put, List.setIfInBounds_toArray, List.set_cons_zero, List.set_cons_succ])
      refine wpAnyH_take (i := 2) (v := ?v2_2) rfl (by kernel_rfl) (by kernel_rfl) (by kernel_rfl) (fun _ _ _ h => h) (Or.inl ⟨by kernel_rfl, ?y2_2⟩) (by assumption) ?r2_2
      case y2_2 => (intro W hSW; (try dsimp only at hSW); go_simp; (try with_reducible rfl))
      change wpAnyH _ _ _ _ _ _ _ (Act.put _ (some 8) _) _
      (try simp only [Act.put, List.setIfInBounds_toArray, List.set_cons_zero, List.set_cons_succ])
      refine wpAnyH_ready (rs := [3]) (by kernel_rfl) (by simp) ?_
      refine AllReadyH.cons rfl (fun K hK => ?_) AllReadyH.nil
      rw [if_pos (by rfl)]
      go_simp
      first | refine (of_ports _ _ _ _ _).mono ?_ | refine (of_parts _ _ _ _ _).mono ?_
      rintro e w1 ⟨rfl, rfl⟩
      first | rw [H1.out] | rw [H2.out]
      go_simp
      refine hK.out _ _ (⟨e8, e10, f0⟩) (fun hHeld => ?_)
      clear hK K
      (try simp only [Act.put, List.setIfInBounds_toArray, List.set_cons_zero, List.set_cons_succ])
      refine wpAnyH_take (i := 4) (v := ?v2_4) rfl (by kernel_rfl) (by kernel_rfl) (by kernel_rfl) (fun _ _ _ h => h) (Or.inl ⟨by kernel_rfl, ?y2_4⟩) (by assumption) ?r2_4
      case y2_4 => (intro W hSW; (try dsimp only at hSW); go_simp; (try with_reducible rfl))
      change wpAnyH _ _ _ _ _ _ _ (Act.put _ (some 10) _) _
      (try simp only [Act.put, List.setIfInBounds_toArray, List.set_cons_zero, List.set_cons_succ])
      refine wpAnyH_take (i := 5) (v := ?v2_5) rfl (by kernel_rfl) (by kernel_rfl) (by kernel_rfl) (fun _ _ _ h => h) (Or.inl ⟨by kernel_rfl, ?y2_5⟩) (by assumption) ?r2_5
      case y2_5 => (intro W hSW; (try dsimp only at hSW); go_simp; (try with_reducible rfl))
      change wpAnyH _ _ _ _ _ _ _ (Act.put _ (some 11) _) _
      (try simp only [Act.put, List.setIfInBounds_toArray, List.set_cons_zero, List.set_cons_succ])
      refine wpAnyH_take (i := 6) (v := ?v2_6) rfl (by kernel_rfl) (by kernel_rfl) (by kernel_rfl) (fun _ _ _ h => h) (Or.inl ⟨by kernel_rfl, ?y2_6⟩) (by assumption) ?r2_6
      case y2_6 => (intro W hSW; (try dsimp only at hSW); go_simp; (try with_reducible rfl))
      change wpAnyH _ _ _ _ _ _ _ (Act.put _ (some 12) _) _
      (try simp only [Act.put, List.setIfInBounds_toArray, List.set_cons_zero, List.set_cons_succ])
      refine wpAnyH_take (i := 7) (v := ?v2_7) rfl (by kernel_rfl) (by kernel_rfl) (by kernel_rfl) (fun _ _ _ h => h) (Or.inl ⟨by kernel_rfl, ?y2_7⟩) (by assumption) ?r2_7
      case y2_7 => (intro W hSW; (try dsimp only at hSW); go_simp; (try with_reducible rfl))
      change wpAnyH _ _ _ _ _ _ _ (Act.put _ (some 13) _) _
      (try simp only [Act.put, List.setIfInBounds_toArray, List.set_cons_zero, List.set_cons_succ])
      refine wpAnyH_take (i := 8) (v := ?v2_8) rfl (by kernel_rfl) (by kernel_rfl) (by kernel_rfl) (fun _ _ _ h => h) (Or.inl ⟨by kernel_rfl, ?y2_8⟩) (by assumption) ?r2_8
      case y2_8 => (intro W hSW; (try dsimp only at hSW); go_simp; (try with_reducible rfl))
      change wpAnyH _ _ _ _ _ _ _ (Act.put _ (some 14) _) _
      (try simp only [Act.put, List.setIfInBounds_toArray, List.set_cons_zero, List.set_cons_succ])
      refine wpAnyH_take (i := 9) (v := ?v2_9) rfl (by kernel_rfl) (by kernel_rfl) (by kernel_rfl) (fun _ _ _ h => h) (Or.inl ⟨by kernel_rfl, ?y2_9⟩) (by assumption) ?r2_9
      case y2_9 => (intro W hSW; (try dsimp only at hSW); go_simp; (try with_reducible rfl))
      change wpAnyH _ _ _ _ _ _ _ (Act.put _ (some 15) _) _
      (try simp only [Act.put, List.setIfInBounds_toArray, List.set_cons_zero, List.set_cons_succ])
      refine wpAnyH_take (i := 10) (v := ?v2_10) rfl (by kernel_rfl) (by kernel_rfl) (by kernel_rfl) (fun _ _ _ h => h) (Or.inl ⟨by kernel_rfl, ?y2_10⟩) (by assumption) ?r2_10
      case y2_10 => (intro W hSW; (try dsimp only at hSW); go_simp; (try with_reducible rfl))
      change wpAnyH _ _ _ _ _ _ _ (Act.put _ (some 16) _) _
      (try simp only [Act.put, List.setIfInBounds_toArray, List.set_cons_zero, List.set_cons_succ])
      refine wpAnyH_take (i := 11) (v := ?v2_11) rfl (by kernel_rfl) (by kernel_rfl) (by kernel_rfl) (fun _ _ _ h => h) (Or.inl ⟨by kernel_rfl, ?y2_11⟩) (by assumption) ?r2_11
      case y2_11 => (intro W hSW; (try dsimp only at hSW); go_simp; (try with_reducible rfl))
      change wpAnyH _ _ _ _ _ _ _ (Act.put _ (some 17) _) _
      (try simp only [Act.put, List.setIfInBounds_toArray, List.set_cons_zero, List.set_cons_succ])
      refine wpAnyH_take (i := 12) (v := ?v2_12) rfl (by kernel_rfl) (by kernel_rfl) (by kernel_rfl) (fun _ _ _ h => h) (Or.inl ⟨by kernel_rfl, ?y2_12⟩) (by assumption) ?r2_12
      case y2_12 => (intro W hSW; (try dsimp only at hSW); go_simp; (try with_reducible rfl))
      change wpAnyH _ _ _ _ _ _ _ (Act.put _ (some 18) _) _
      (try simp only [Act.put, List.setIfInBounds_toArray, List.set_cons_zero, List.set_cons_succ])
      refine wpAnyH_take (i := 13) (v := ?v2_13) rfl (by kernel_rfl) (by kernel_rfl) (by kernel_rfl) (fun _ _ _ h => h) (Or.inl ⟨by kernel_rfl, ?y2_13⟩) (by assumption) ?r2_13
      case y2_13 => (intro W hSW; (try dsimp only at hSW); go_simp; (try with_reducible rfl))
      change wpAnyH _ _ _ _ _ _ _ (Act.put _ (some 19) _) _
      (try simp only [Act.put, List.setIfInBounds_toArray, List.set_cons_zero, List.set_cons_succ])
      refine wpAnyH_ready (rs := [14]) (by kernel_rfl) (by simp) ?_
      refine AllReadyH.cons rfl (fun K hK => ?_) AllReadyH.nil
      rw [if_pos (by rfl)]
      go_simp
      first | refine (of_ports _ _ _ _ _).mono ?_ | refine (of_parts _ _ _ _ _).mono ?_
      rintro e w1 ⟨rfl, rfl⟩
      first | rw [H1.out] | rw [H2.out]
      go_simp
      refine hK.out _ _ (⟨e8, e10, f0⟩) (fun hHeld => ?_)
      clear hK K
      (try simp only [Act.put, List.setIfInBounds_toArray, List.set_cons_zero, List.set_cons_succ])
      refine wpAnyH_take (i := 15) (v := ?v2_15) rfl (by kernel_rfl) (by kernel_rfl) (by kernel_rfl) (fun _ _ _ h => h) (Or.inl ⟨by kernel_rfl, ?y2_15⟩) (by assumption) ?r2_15
      case y2_15 => (intro W hSW; (try dsimp only at hSW); go_simp; (try with_reducible rfl))
      change wpAnyH _ _ _ _ _ _ _ (Act.put _ (some 21) _) _
      (try simp only [Act.put, List.setIfInBounds_toArray, List.set_cons_zero, List.set_cons_succ])
      refine wpAnyH_take (i := 16) (v := ?v2_16) rfl (by kernel_rfl) (by kernel_rfl) (by kernel_rfl) (fun _ _ _ h => h) (Or.inl ⟨by kernel_rfl, ?y2_16⟩) (by assumption) ?r2_16
      case y2_16 => (intro W hSW; (try dsimp only at hSW); go_simp; (try with_reducible rfl))
      change wpAnyH _ _ _ _ _ _ _ (Act.put _ (some 22) _) _
      (try simp only [Act.put, List.setIfInBounds_toArray, List.set_cons_zero, List.set_cons_succ])
      refine wpAnyH_done (by kernel_rfl) ?_ _
      go_wp2
      go_ret2
      exact ⟨rfl, HBW.out⟩
  · have hp : partP c z = none := by unfold partP; rw [if_neg (fun h => h1 h.1)]
    rw [hp]
    have H1 := hide ((Bool.not_eq_true _).mp h1)
    clear hp h1 hb hg hc hS
    go_enter Tryd.func16, Tryd.ntmps16
    go_wp2_with fail
    rw [HA.out]
    refine wp_region_held_drew (S := fun w' => w'.cell? ⟨w.heap.size, 8, none⟩ = some (.slice pA c.parts.length pC) ∧ w'.cell? ⟨w.heap.size, 10, none⟩ = some (.slice qA c.ports.length qC)) (by kernel_rfl) (⟨e8, e10⟩) (fun hHeld => ?_)
    refine wpAnyH_take (i := 0) (v := ?v3_0) rfl (by kernel_rfl) (by kernel_rfl) (by kernel_rfl) (fun _ _ _ h => h) (Or.inl ⟨by kernel_rfl, ?y3_0⟩) (by assumption) ?r3_0
    case y3_0 => (intro W hSW; (try dsimp only at hSW); go_simp; (try with_reducible rfl))
    change wpAnyH _ _ _ _ _ _ _ (Act.put _ (some 6) _) _
    (try simp only [Act.put, List.setIfInBounds_toArray, List.set_cons_zero, List.set_cons_succ])
    refine wpAnyH_take (i := 1) (v := ?v3_1) rfl (by kernel_rfl) (by kernel_rfl) (by kernel_rfl) (fun _ _ _ h => h) (Or.inl ⟨by kernel_rfl, ?y3_1⟩) (by assumption) ?r3_1
    case y3_1 => (intro W hSW; (try dsimp only at hSW); go_simp; (try with_reducible rfl))
    change wpAnyH _ _ _ _ _ _ _ (Act.put _ (some 7) _) _
    (try simp only [Act.put, List.setIfInBounds_toArray, List.set_cons_zero, List.set_cons_succ])
    refine wpAnyH_take (i := 2) (v := ?v3_2) rfl (by kernel_rfl) (by kernel_rfl) (by kernel_rfl) (fun _ _ _ h => h) (Or.inl ⟨by kernel_rfl, ?y3_2⟩) (by assumption) ?r3_2
    case y3_2 => (intro W hSW; (try dsimp only at hSW); go_simp; (try with_reducible rfl))
    change wpAnyH _ _ _ _ _ _ _ (Act.put _ (some 8) _) _
    (try simp only [Act.put, List.setIfInBounds_toArray, List.set_cons_zero, List.set_cons_succ])
    refine wpAnyH_ready (rs := [3]) (by kernel_rfl) (by simp) ?_
    refine AllReadyH.cons rfl (fun K hK => ?_) AllReadyH.nil
    rw [if_pos (by rfl)]
    go_simp
    refine (of_ports _ _ _ _ _).mono ?_
    rintro e w1 ⟨rfl, rfl⟩
    rw [H1.out]
    go_simp
    refine hK.out _ _ (⟨e8, e10⟩) (fun hHeld => ?_)
    clear hK K
    (try simp only [Act.put, List.setIfInBounds_toArray, List.set_cons_zero, List.set_cons_succ])
    refine wpAnyH_take (i := 4) (v := ?v3_4) rfl (by kernel_rfl) (by kernel_rfl) (by kernel_rfl) (fun _ _ _ h => h) (Or.inl ⟨by kernel_rfl, ?y3_4⟩) (by assumption) ?r3_4
    case y3_4 => (intro W hSW; (try dsimp only at hSW); go_simp; (try with_reducible rfl))
    change wpAnyH _ _ _ _ _ _ _ (Act.put _ (some 10) _) _
    (try simp only [Act.put, List.setIfInBounds_toArray, List.set_cons_zero, List.set_cons_succ])
    refine wpAnyH_take (i := 5) (v := ?v3_5) rfl (by kernel_rfl) (by kernel_rfl) (by kernel_rfl) (fun _ _ _ h => h) (Or.inl ⟨by kernel_rfl, ?y3_5⟩) (by assumption) ?r3_5
    case y3_5 => (intro W hSW; (try dsimp only at hSW); go_simp; (try with_reducible rfl))
    change wpAnyH _ _ _ _ _ _ _ (Act.put _ (some 11) _) _
    (try simp only [Act.put, List.setIfInBounds_toArray, List.set_cons_zero, List.set_cons_succ])
    refine wpAnyH_take (i := 6) (v := undef) rfl (by kernel_rfl) (by kernel_rfl) (by kernel_rfl) (fun _ _ _ h => h) (Or.inr ⟨by kernel_rfl, rfl⟩) (by assumption) ?_
    change wpAnyH _ _ _ _ _ _ _ (Act.put _ (some 12) _) _
    (try simp only [Act.put, List.setIfInBounds_toArray, List.set_cons_zero, List.set_cons_succ])
    refine wpAnyH_take (i := 7) (v := undef) rfl (by kernel_rfl) (by kernel_rfl) (by kernel_rfl) (fun _ _ _ h => h) (Or.inr ⟨by kernel_rfl, rfl⟩) (by assumption) ?_
    change wpAnyH _ _ _ _ _ _ _ (Act.put _ (some 13) _) _
    (try simp only [Act.put, List.setIfInBounds_toArray, List.set_cons_zero, List.set_cons_succ])
    refine wpAnyH_take (i := 8) (v := undef) rfl (by kernel_rfl) (by kernel_rfl) (by kernel_rfl) (fun _ _ _ h => h) (Or.inr ⟨by kernel_rfl, rfl⟩) (by assumption) ?_
    change wpAnyH _ _ _ _ _ _ _ (Act.put _ (some 14) _) _
    (try simp only [Act.put, List.setIfInBounds_toArray, List.set_cons_zero, List.set_cons_succ])
    refine wpAnyH_take (i := 9) (v := undef) rfl (by kernel_rfl) (by kernel_rfl) (by kernel_rfl) (fun _ _ _ h => h) (Or.inr ⟨by kernel_rfl, rfl⟩) (by assumption) ?_
    change wpAnyH _ _ _ _ _ _ _ (Act.put _ (some 15) _) _
    (try simp only [Act.put, List.setIfInBounds_toArray, List.set_cons_zero, List.set_cons_succ])
    refine wpAnyH_take (i := 10) (v := undef) rfl (by kernel_rfl) (by kernel_rfl) (by kernel_rfl) (fun _ _ _ h => h) (Or.inr ⟨by kernel_rfl, rfl⟩) (by assumption) ?_
    change wpAnyH _ _ _ _ _ _ _ (Act.put _ (some 16) _) _
    (try simp only [Act.put, List.setIfInBounds_toArray, List.set_cons_zero, List.set_cons_succ])
    refine wpAnyH_take (i := 11) (v := undef) rfl (by kernel_rfl) (by kernel_rfl) (by kernel_rfl) (fun _ _ _ h => h) (Or.inr ⟨by kernel_rfl, rfl⟩) (by assumption) ?_
    change wpAnyH _ _ _ _ _ _ _ (Act.put _ (some 17) _) _
    (try simp only [Act.put, List.setIfInBounds_toArray, List.set_cons_zero, List.set_cons_succ])
    refine wpAnyH_take (i := 12) (v := undef) rfl (by kernel_rfl) (by kernel_rfl) (by kernel_rfl) (fun _ _ _ h => h) (Or.inr ⟨by kernel_rfl, rfl⟩) (by assumption) ?_
    change wpAnyH _ _ _ _ _ _ _ (Act.put _ (some 18) _) _
    (try simp only [Act.put, List.setIfInBounds_toArray, List.set_cons_zero, List.set_cons_succ])
    refine wpAnyH_take (i := 13) (v := undef) rfl (by kernel_rfl) (by kernel_rfl) (by kernel_rfl) (fun _ _ _ h => h) (Or.inr ⟨by kernel_rfl, rfl⟩) (by assumption) ?_
    change wpAnyH _ _ _ _ _ _ _ (Act.put _ (some 19) _) _
    (try simp only [Act.put, List.setIfInBounds_toArray, List.set_cons_zero, List.set_cons_succ])
    refine wpAnyH_take (i := 14) (v := undef) rfl (by kernel_rfl) (by kernel_rfl) (by kernel_rfl) (fun _ _ _ h => h) (Or.inr ⟨by kernel_rfl, rfl⟩) (by assumption) ?_
    change wpAnyH _ _ _ _ _ _ _ (Act.put _ (some 20) _) _
    (try simp only [Act.put, List.setIfInBounds_toArray, List.set_cons_zero, List.set_cons_succ])
    refine wpAnyH_take (i := 15) (v := undef) rfl (by kernel_rfl) (by kernel_rfl) (by kernel_rfl) (fun _ _ _ h => h) (Or.inr ⟨by kernel_rfl, rfl⟩) (by assumption) ?_
    change wpAnyH _ _ _ _ _ _ _ (Act.put _ (some 21) _) _
    (try simp only [Act.put, List.setIfInBounds_toArray, List.set_cons_zero, List.set_cons_succ])
    refine wpAnyH_take (i := 16) (v := ?v3_16) rfl (by kernel_rfl) (by kernel_rfl) (by kernel_rfl) (fun _ _ _ h => h) (Or.inl ⟨by kernel_rfl, ?y3_16⟩) (by assumption) ?r3_16
    case y3_16 => (intro W hSW; (try dsimp only at hSW); go_simp; (try with_reducible rfl))
    change wpAnyH _ _ _ _ _ _ _ (Act.put _ (some 22) _) _
    (try simp only [Act.put, List.setIfInBounds_toArray, List.set_cons_zero, List.set_cons_succ])
    refine wpAnyH_done (by kernel_rfl) ?_ _
    go_wp2
    go_ret2
    exact ⟨rfl, HBW.out⟩

theorem row_len (c : Conf) (hd : ∀ k, k < c.links.length → (c.links.getD k default).dests.length ≤ 1000) (k : Nat) : k ≤ c.links.length → ∀ f, ((nextF c (c.links.take k)).getD f []).length ≤ 1000 * k := by
  induction k with
  | zero =>
    intro _ f
    rw [List.take_zero, nextF_nil]
    exact Nat.zero_le _
  | succ k ih =>
    intro hk f
    have ih := ih (by omega)
    have hx : c.links[k]? = some (c.links.getD k default) := by rw [List.getD_eq_getElem?_getD, List.getElem?_eq_getElem (by omega)]; rfl
    have e : c.links.take (k + 1) = c.links.take k ++ [c.links.getD k default] := by rw [List.take_add_one, hx]; rfl
    rw [e, nextF_snoc]
    unfold nextS
    split
    · have := ih f; omega
    · rename_i g t hl
      obtain ⟨_, _, rfl⟩ := linkP_some hl
      have h1 := hd k (by omega)
      have h2 := ih g
      have h3 := ih f
      rw [List.getD_eq_getElem?_getD] at h3
      rw [List.getD_eq_getElem?_getD, List.getElem?_set]
      split
      · split
        · rw [Option.getD_some, List.length_append, List.length_map]; omega
        · exact Nat.zero_le _
      · omega
theorem linkP_none {c : Conf} {x : Lk} (h : partP c x.source = none) : linkP c x = none := by
  unfold linkP; rw [if_neg (fun a => by rw [h] at a; simp at a)]
theorem linkP_no {c : Conf} {x : Lk} {d : Int} (hd : d ∈ x.dests) (h : partP c d = none) : linkP c x = none := by
  unfold linkP; rw [if_neg (fun a => by have := a.2 d hd; rw [h] at this; simp at this)]
theorem linkP_yes {c : Conf} {x : Lk} {f : Nat} (h : partP c x.source = some f) (h2 : ∀ d ∈ x.dests, (partP c d).isSome = true) : linkP c x = some (f, x.dests.map fun d => (partP c d).getD 0) := by
  unfold linkP; rw [if_pos ⟨by rw [h]; rfl, h2⟩, h]; rfl
theorem next_step {c : Conf} {k : Nat} (hk : k < c.links.length) : nextF c (c.links.take (k + 1)) = nextS c (nextF c (c.links.take k)) (c.links.getD k default) := by
  have hx : c.links[k]? = some (c.links.getD k default) := by rw [List.getD_eq_getElem?_getD, List.getElem?_eq_getElem hk]; rfl
  have e : c.links.take (k + 1) = c.links.take k ++ [c.links.getD k default] := by rw [List.take_add_one, hx]; rfl
  rw [e]
  exact nextF_snoc _ _ _

set_option maxRecDepth 100000 in
set_option maxHeartbeats 4000000 in
theorem linked_at (c : Conf) (d : Ad) (w : World) (hg : Glo w) (h : ConfAt w c d) (hn : c.parts.length ≤ 1000) (hk100 : c.links.length ≤ 100) (hd : ∀ k, k < c.links.length → (c.links.getD k default).dests.length ≤ 1000) :
    Calls Tryd.prog 11 #[c.val d] w fun e w' => ∃ vs, e = .returned (.slice (some ⟨w.heap.size + 1, 0, none⟩) c.parts.length c.parts.length) ∧ NxS w' (w.heap.size + 2) (w.heap.size + 1) vs (nextF c c.links) ∧ Below w.heap.size w w' := by
  have hS := CfS.first 28 hg h
  have HP := hide (fun W (H : CfS w W c d) z => partOf_at c d z W H.g H.cf)
  have HLK := hide (fun W (hb : Below w.heap.size w W) k (hk : k < c.links.length) => (h.links.of_below hb (Nat.le_refl _)).at hk)
  have HG := hide hg; have HCf := hide h; have HDd := hide hd
  clear hg h
  generalize hA : w.alloc (.cells (c.cells d) 28) = wa at hS
  have hza : wa.heap.size = w.heap.size + 1 := by rw [← hA]; simp
  obtain ⟨oA, oC, pA, pC, wA, wC, qA, qC, lA, lC⟩ := d
  unfold Conf.val at HP ⊢
  unfold Conf.cells at hA
  dsimp only at hA hS HP HLK ⊢
  have HA := hide hA
  clear hA
  have hmk := make_nx c.parts.length (by omega) wa
  have hnx := nx_new c wa
  have hSn := hS.below (bal wa (.cells (nilsA c.parts.length) 22))
  rw [hza] at hmk hnx
  obtain ⟨_, ⟨_, _, _, _, _, _, _, _, _, e8, _, _, _⟩, _, _⟩ := hS
  dsimp only at e8
  go_enter Tryd.func11, Tryd.ntmps11
  go_wp2_with fail
  go_step3
  go_upto_region 1 with fail
  rw [HA.out]
  go_upto_region 2 with fail
  have HS := hide hSn; have HX := hide hnx; have HZA := hide hza
  clear hSn hnx hmk e8 HA hza
  generalize wa.alloc (.cells (nilsA c.parts.length) 22) = w2 at HS HX ⊢
  obtain ⟨_, ⟨_, _, _, _, _, _, _, _, _, _, _, _, e11⟩, _, _⟩ := HS.out
  dsimp only at e11
  go_wp2_with fail
  go_step3
  go_wp2_with fail
  go_loopw [20, 5, 6, 7, 8, 10, 11, 12] (fun i s5 s6 s7 s8 s10 s11 s12 W => ∃ (k : Nat) (vs : List Value), k ≤ c.links.length ∧ i = .int .i64 k ∧ CfS w W c ⟨oA, oC, pA, pC, wA, wC, qA, qC, lA, lC⟩ ∧ NxS W (w.heap.size + 2) (w.heap.size + 1) vs (nextF c (c.links.take k))) (fun i _ _ _ _ _ _ _ _ => c.links.length - (intOf i).toNat)
  case atStart => exact ⟨0, _, by omega, rfl, HS.out, HX.out⟩
  case round =>
    obtain ⟨k, vs, hk, rfl, hS, hX⟩ := hrel
    have HSr := hide hS; have HXr := hide hX
    clear hS hX HS HX e11
    by_cases hlt : k < c.links.length
    · have HKL := hide (show k + 1 ≤ c.links.length by omega)
      have HST := hide (next_step hlt)
      have HRW := hide (row_len c HDd.out k (by omega))
      have hdl := HDd.out k hlt
      obtain ⟨lb, lo, Ai, ci, hlA, hlb, g0, g1, g2, _, _, hI, _, _⟩ := HLK.out wr HSr.out.bel k hlt
      subst hlA
      obtain ⟨lk, hlk⟩ : ∃ lk, c.links.getD k default = lk := ⟨_, rfl⟩
      rw [hlk] at g0 g1 g2 hI HST hdl
      have HI := hide hI
      obtain ⟨_, ⟨_, e0, e1, e2, e3, e4, e5, e6, e7, e8, e9, e10, e11⟩, _, _⟩ := HSr.out
      dsimp only at e0 e1 e2 e3 e4 e5 e6 e7 e8 e9 e10 e11
      have hb3 := bal wr (.cells #[.int .i64 lk.source, .slice Ai lk.dests.length ci, .int .i64 lk.offset] 38)
      have hn3 := heap_alloc_new wr (.cells #[.int .i64 lk.source, .slice Ai lk.dests.length ci, .int .i64 lk.offset] 38)
      have HS3 := hide (HSr.out.below hb3); have HX3 := hide (HXr.out.below hb3); have HL3 := hide hn3; have HI3 := hide (HI.out.of_below hb3 (Nat.le_refl _))
      clear hb3 hn3 hI hlb HI
      go_upto_region 5 with fail
      clear e0 e1 e2 e3 e4 e5 e6 e7 e8 e9 e10 e11 g0 g1 g2 HSr HXr
      generalize wr.alloc (.cells #[.int .i64 lk.source, .slice Ai lk.dests.length ci, .int .i64 lk.offset] 38) = w3 at HS3 HX3 HL3 HI3 ⊢
      obtain ⟨_, ⟨_, e0, e1, e2, e3, e4, e5, e6, e7, e8, e9, e10, e11⟩, _, _⟩ := HS3.out
      dsimp only at e0 e1 e2 e3 e4 e5 e6 e7 e8 e9 e10 e11
      have l0 : w3.cell? ⟨wr.heap.size, 0, none⟩ = some (.int .i64 lk.source) := by rw [cell_of_row _ _ _ _ _ _ HL3.out]; rfl
      go_wp2_with fail
      refine (HP.out w3 HS3.out lk.source).mono ?_
      rintro e w4 ⟨rfl, hb4⟩
      have HS4 := hide (HS3.out.below hb4); have HX4 := hide (HX3.out.below hb4); have HI4 := hide (HI3.out.of_below hb4 (Nat.le_refl _))
      have hl4 := (hb4.block _ (Array.getElem?_eq_some_iff.1 HL3.out).1).trans HL3.out
      have l1 : w4.cell? ⟨wr.heap.size, 1, none⟩ = some (.slice Ai lk.dests.length ci) := by rw [cell_of_row _ _ _ _ _ _ hl4]; rfl
      clear hb4 HS3 HX3 HI3 HL3 hl4 l0 e0 e1 e2 e3 e4 e5 e6 e7 e8 e9 e10 e11
      rcases hp : partP c lk.source with _ | f
      · simp only [Option.getD_none, Option.isSome_none]
        have HXn : Hid (NxS w4 (w.heap.size + 2) (w.heap.size + 1) vs (nextF c (c.links.take (k + 1)))) := by
          show NxS _ _ _ _ _
          rw [HST.out]
          unfold nextS
          rw [linkP_none hp]
          exact HX4.out
        clear l1
        go_wp2_with fail
        go_roundw
        case rel => exact ⟨k + 1, vs, HKL.out, by go_num, HS4.out, HXn.out⟩
        case measure => have := HKL.out; simp [intOf]; omega
      · simp only [Option.getD_some, Option.isSome_some]
        have HP0 := hide hp
        clear hp
        go_wp2_with fail
        go_loopw [36, 8, 10, 11, 12] (fun i s8 s10 s11 s12 W => ∃ j : Nat, j ≤ lk.dests.length ∧ i = .int .i64 j ∧ Below w4.heap.size w4 W ∧ NxV W w4.heap.size s8 ((lk.dests.take j).map fun d => (partP c d).getD 0) ∧ ((lk.dests.take j).map (fun d => (partP c d).getD 0) = [] → s8 = .slice none 0 0) ∧ ∀ d ∈ lk.dests.take j, (partP c d).isSome = true) (fun i _ _ _ _ _ => lk.dests.length - (intOf i).toNat)
        case atStart => exact ⟨0, by omega, rfl, Below.refl _ _, ⟨rfl, .inl ⟨rfl, rfl⟩⟩, fun _ => rfl, fun d hd => by simp at hd⟩
        case round =>
          obtain ⟨j, hj, rfl, hbw, hv, hnil, hall⟩ := hrel
          obtain ⟨tA, tc, ev, _⟩ := hv.cells
          rw [show ((lk.dests.take j).map fun d => (partP c d).getD 0).length = j by rw [List.length_map, List.length_take]; omega] at ev
          subst ev
          have HV := hide hv; have HNil := hide hnil; have HAll := hide hall; have HBW := hide hbw
          have HSi := hide (HS4.out.below hbw)
          clear hv hnil hall hbw l1
          by_cases hj2 : j < lk.dests.length
          · obtain ⟨ib, io, hIA, hib, i0⟩ := (HI4.out.of_below HBW.out (Nat.le_refl _)).at hj2
            subst hIA
            have HJL := hide (show j + 1 ≤ lk.dests.length by omega)
            have hmem : lk.dests.getD j 0 ∈ lk.dests := by rw [List.getD_eq_getElem?_getD, List.getElem?_eq_getElem hj2]; exact List.getElem_mem hj2
            have HTK : Hid (lk.dests.take (j + 1) = lk.dests.take j ++ [lk.dests.getD j 0]) := by
              show _ = _
              rw [List.take_add_one, List.getD_eq_getElem?_getD, List.getElem?_eq_getElem hj2]; rfl
            have HMem := hide hmem
            clear hmem
            generalize lk.dests.getD j 0 = z at i0 HTK HMem
            obtain ⟨_, ⟨_, e0, e1, e2, e3, e4, e5, e6, e7, e8, e9, e10, e11⟩, _, _⟩ := HSi.out
            dsimp only at e0 e1 e2 e3 e4 e5 e6 e7 e8 e9 e10 e11
            go_wp2_with fail
            refine (HP.out _ HSi.out z).mono ?_
            rintro e w5 ⟨rfl, hb5⟩
            have HB5 := hide (HBW.out.trans (hb5.mono HBW.out.size))
            have HV5 := hide (NxV.kept HV.out fun g hg => hb5.block g (by obtain ⟨_, cur, e⟩ := NxV.blk HV.out hg; exact (Array.getElem?_eq_some_iff.1 e).1))
            clear hb5 HBW HV i0 e0 e1 e2 e3 e4 e5 e6 e7 e8 e9 e10 e11 HSi
            rcases hpz : partP c z with _ | q
            · simp only [Option.getD_none, Option.isSome_none]
              have HXn : Hid (NxS w5 (w.heap.size + 2) (w.heap.size + 1) vs (nextF c (c.links.take (k + 1)))) := by
                show NxS _ _ _ _ _
                rw [HST.out]
                unfold nextS
                rw [linkP_no HMem.out hpz]
                exact HX4.out.below HB5.out
              have HSn := hide (HS4.out.below HB5.out)
              go_wp2_with fail
              go_roundw
              case rel => exact ⟨k + 1, vs, HKL.out, by go_num, HSn.out, HXn.out⟩
              case measure => have := HKL.out; simp [intOf]; omega
            · simp only [Option.getD_some, Option.isSome_some]
              have HPZ := hide hpz
              clear hpz
              have hb6 := bal w5 (.cells #[.int .i64 (q : Int)] 3)
              have hn6 := heap_alloc_new w5 (.cells #[.int .i64 (q : Int)] 3)
              have hlen : ((lk.dests.take j).map fun d => (partP c d).getD 0).length = j := by rw [List.length_map, List.length_take]; omega
              have HLEN := hide hlen
              have hv6 := NxV.kept HV5.out fun g hg => hb6.block g (by obtain ⟨_, cur, e⟩ := NxV.blk HV5.out hg; exact (Array.getElem?_eq_some_iff.1 e).1)
              have HOB := hide (fun g (hg : (Value.slice tA j tc).ownBlock = some g) => (NxV.blk HV5.out hg).1)
              have h45 := HB5.out.size
              have HB6 := hide (HB5.out.trans (hb6.mono h45))
              have hbase : w4.heap.size ≤ (w5.alloc (.cells #[.int .i64 (q : Int)] 3)).heap.size := by rw [World.size_alloc]; omega
              unfold NxV at hv6
              rw [hlen] at hv6
              have HV6 := hide hv6; have HN6 := hide hn6
              clear hb6 hn6 hv6 hlen HB5 HV5
              go_wp2_with (refine wpList_one _ rfl (.tmp 48) (.tmp 50) 22 rfl 3 (.int .i64 0) 1 8 Tryd.underlying22 info_nnum rfl (by omega) (by omega) w4.heap.size _ _ _ rfl HV6.out w5.heap.size 1 [.int .i64 (q : Int)] rfl HN6.out rfl (by simp [Value.oneCell']) (by omega) hbase ?_; intro v' W' how hgr hor; have HHO := hide how; have HGR := hide hgr; clear how hgr hor)
              go_roundw
              case rel =>
                refine ⟨j + 1, HJL.out, by go_num, HB6.out.grown HGR.out hbase HOB.out, ?_, fun h => ?_, fun d hd => ?_⟩
                · rw [HTK.out, List.map_append]
                  unfold NxV
                  rw [List.length_append, HLEN.out]
                  have h9 := HHO.out
                  have e9 : nxC ((lk.dests.take j).map (fun d => (partP c d).getD 0) ++ [z].map fun d => (partP c d).getD 0) = nxC ((lk.dests.take j).map fun d => (partP c d).getD 0) ++ [.int .i64 (q : Int)] := by
                    simp [nxC, HPZ.out]
                  rw [e9]
                  exact h9
                · rw [HTK.out, List.map_append] at h
                  simp at h
                · rw [HTK.out] at hd
                  rcases List.mem_append.1 hd with h1 | h1
                  · exact HAll.out d h1
                  · rw [List.mem_singleton.1 h1, HPZ.out]; rfl
              case measure => have := HJL.out; simp [intOf]; omega
          · obtain rfl : j = lk.dests.length := by omega
            have hv := HV.out; have hnil := HNil.out; have hall := HAll.out
            rw [List.take_length] at hv hnil hall
            have hly := linkP_yes HP0.out hall
            have hfl := (partP_lt HP0.out).1
            have hfl2 : f < (nextF c (c.links.take k)).length := by rw [nextF_len]; exact hfl
            have hXi := HX4.out.below HBW.out
            obtain ⟨xc, xf⟩ := hXi.cell hfl2
            have hxo := hXi.own f hfl2
            obtain ⟨rA, rc, er, _⟩ := hxo.cells
            obtain ⟨rn, hrn⟩ : ∃ n, ((nextF c (c.links.take k)).getD f []).length = n := ⟨_, rfl⟩
            have hrw := HRW.out f
            rw [hrn] at er hrw
            have hbig : ((nextF c (c.links.take k)).getD f []).length + (lk.dests.map fun d => (partP c d).getD 0).length ≤ 1000000 := by rw [hrn, List.length_map]; omega
            have hwz := HSi.out.bel.size
            have hwz2 : w.heap.size + 2 ≤ wr.heap.size := by
              have := (Array.getElem?_eq_some_iff.1 hXi.blk).1
              omega
            have HXI := hide hXi; have HXO := hide hxo; have HTV := hide hv; have HTN := hide hnil; have HLY := hide hly; have HER := hide er
            have HFin : Hid (∀ v' W', NxV W' (w.heap.size + 2) v' ((nextF c (c.links.take k)).getD f [] ++ lk.dests.map fun d => (partP c d).getD 0) → wr.grownBy W' (vs.getD f undef).ownBlock → (v'.ownBlock = (vs.getD f undef).ownBlock ∨ ∀ k, v'.ownBlock = some k → wr.heap.size ≤ k) →
                W'.cell? ⟨w.heap.size + 1, f, none⟩ = some (vs.getD f undef) ∧ W'.frozen? ⟨w.heap.size + 1, f, none⟩ = false ∧ NxS (W'.setCell ⟨w.heap.size + 1, f, none⟩ v') (w.heap.size + 2) (w.heap.size + 1) (vs.set f v') (nextF c (c.links.take (k + 1))) ∧ CfS w (W'.setCell ⟨w.heap.size + 1, f, none⟩ v') c ⟨oA, oC, pA, pC, wA, wC, qA, qC, some ⟨lb, lo, none⟩, lC⟩) := fun v' W' h1 h2 h3 => by
              have hrow : ∀ k, (vs.getD f undef).ownBlock = some k → w.heap.size + 1 < k := fun k e => (NxV.blk HXO.out e).1
              have hnb : W'.heap[w.heap.size + 1]? = wr.heap[w.heap.size + 1]? := h2.block _ (by omega) fun e => by have := hrow _ e.symm; omega
              refine ⟨(World.cell?_of_block (a := ⟨w.heap.size + 1, f, none⟩) hnb).trans xc, (World.frozen?_of_block (a := ⟨w.heap.size + 1, f, none⟩) hnb).trans xf, ?_, HSi.out.wrote HG.out HCf.out h2 hrow (by omega) f v'⟩
              rw [HST.out]
              unfold nextS
              rw [HLY.out]
              exact HXI.out.add hfl2 _ h1 h2 fun g hg => by
                rcases h3 with e | e
                · exact .inl (e ▸ hg)
                · exact .inr (e g hg)
            rw [er] at xc
            have hxo2 := HXO.out
            rw [er] at hxo2 HFin
            have HXO2 := hide hxo2
            clear hv hnil hall hly hXi hxo er xf hxo2 HXI HXO HV HNil HAll
            go_wp2_with (refine wpList_rows _ rfl (.tmp 58) (.tmp 59) rfl (w.heap.size + 2) _ _ _ rfl HXO2.out w4.heap.size _ rfl HTV.out HTN.out hbig hwz2 ?_; intro v' W' h1 h2 h3; obtain ⟨vB, vd, e9, _⟩ := h1.cells; obtain ⟨xn, hxn⟩ : ∃ xn, ((nextF c (c.links.take k)).getD f [] ++ lk.dests.map fun d => (partP c d).getD 0).length = xn := ⟨_, rfl⟩; rw [hxn] at e9; subst e9; clear hxn; obtain ⟨n1, n2, n3, n4⟩ := HFin.out _ W' h1 h2 h3; have HN3 := hide n3; have HN4 := hide n4; clear h1 h2 h3 n3 n4)
            go_roundw
            case rel => exact ⟨k + 1, _, HKL.out, by go_num, HN4.out, HN3.out⟩
            case measure => have := HKL.out; simp [intOf]; omega
    · obtain rfl : k = c.links.length := by omega
      have HXl := HXr.out
      rw [List.take_length] at HXl
      have HXX := hide HXl
      clear HXl
      go_wp2_with fail
      rw [Exit.noGoto_ret]
      go_ret
      exact ⟨vs, rfl, HXX.out, HSr.out.bel⟩
end Go.Proofs.YthngjegimecaaaaDoor
