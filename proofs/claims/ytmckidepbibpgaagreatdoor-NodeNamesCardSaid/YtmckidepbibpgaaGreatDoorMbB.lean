/-
  A member's conducts: told.
-/
import Derived.Test.YtmckidepbibpgaaGreatDoorMbA
import Derived.Test.YtmckidepbibpgaaGreatDoorRng
import Derived.Deep.DeepCutAuto
import Derived.Deep.CutBlock
import Derived.WalkMore
namespace Go.Proofs.YtmckidepbibpgaaGreatDoor
open Go.RowKit Go.Deep
set_option linter.unusedVariables false
set_option linter.unusedSimpArgs false

theorem vdrewM {B : Nat} {w w' : World} (h : Below B w.drew w') : Below B w w' := ⟨h.os, h.tape, h.output, h.size, h.block⟩

set_option maxRecDepth 100000 in
set_option maxHeartbeats 1000000 in
theorem conducts_at (w : World) :
    Calls Tryz.prog 209 #[] w fun e w' => ∃ m, e = .returned (.map (some m)) ∧ CdM w' m ∧ w.heap.size ≤ m ∧ Below w.heap.size w w' := by
  go_enter Tryz.func209, Tryz.ntmps209
  go_upto_region 1 with fail
  refine wp_region_held_drew (S := fun _ => True) (by kernel_rfl) trivial (fun hHeld => ?_)
  refine wpAnyH_take (i := 1) (v := ?v1) rfl (by kernel_rfl) (by kernel_rfl) (by kernel_rfl) (fun _ _ _ h => h) (Or.inl ⟨by kernel_rfl, ?y1⟩) (by assumption) ?r1
  case y1 => (intro W hSW; (try dsimp only at hSW); go_simp; (try with_reducible rfl))
  change wpAnyH _ _ _ _ _ _ _ (Act.put _ (some 2) _) _
  (try simp only [Act.put, List.setIfInBounds_toArray, List.set_cons_zero, List.set_cons_succ])
  refine wpAnyH_take (i := 2) (v := ?v2) rfl (by kernel_rfl) (by kernel_rfl) (by kernel_rfl) (fun _ _ _ h => h) (Or.inl ⟨by kernel_rfl, ?y2⟩) (by assumption) ?r2
  case y2 => (intro W hSW; (try dsimp only at hSW); go_simp; (try with_reducible rfl))
  change wpAnyH _ _ _ _ _ _ _ (Act.put _ (some 3) _) _
  (try simp only [Act.put, List.setIfInBounds_toArray, List.set_cons_zero, List.set_cons_succ])
  refine wpAnyH_take (i := 4) (v := ?v3) rfl (by kernel_rfl) (by kernel_rfl) (by kernel_rfl) (fun _ _ _ h => h) (Or.inl ⟨by kernel_rfl, ?y3⟩) (by assumption) ?r3
  case y3 => (intro W hSW; (try dsimp only at hSW); go_simp; (try with_reducible rfl))
  change wpAnyH _ _ _ _ _ _ _ (Act.put _ (some 4) _) _
  (try simp only [Act.put, List.setIfInBounds_toArray, List.set_cons_zero, List.set_cons_succ])
  refine wpAnyH_take (i := 5) (v := ?v4) rfl (by kernel_rfl) (by kernel_rfl) (by kernel_rfl) (fun _ _ _ h => h) (Or.inl ⟨by kernel_rfl, ?y4⟩) (by assumption) ?r4
  case y4 => (intro W hSW; (try dsimp only at hSW); go_simp; (try with_reducible rfl))
  change wpAnyH _ _ _ _ _ _ _ (Act.put _ (some 5) _) _
  (try simp only [Act.put, List.setIfInBounds_toArray, List.set_cons_zero, List.set_cons_succ])
  refine wpAnyH_take (i := 7) (v := ?v5) rfl (by kernel_rfl) (by kernel_rfl) (by kernel_rfl) (fun _ _ _ h => h) (Or.inl ⟨by kernel_rfl, ?y5⟩) (by assumption) ?r5
  case y5 => (intro W hSW; (try dsimp only at hSW); go_simp; (try with_reducible rfl))
  change wpAnyH _ _ _ _ _ _ _ (Act.put _ (some 6) _) _
  (try simp only [Act.put, List.setIfInBounds_toArray, List.set_cons_zero, List.set_cons_succ])
  refine wpAnyH_take (i := 8) (v := ?v6) rfl (by kernel_rfl) (by kernel_rfl) (by kernel_rfl) (fun _ _ _ h => h) (Or.inl ⟨by kernel_rfl, ?y6⟩) (by assumption) ?r6
  case y6 => (intro W hSW; (try dsimp only at hSW); go_simp; (try with_reducible rfl))
  change wpAnyH _ _ _ _ _ _ _ (Act.put _ (some 7) _) _
  (try simp only [Act.put, List.setIfInBounds_toArray, List.set_cons_zero, List.set_cons_succ])
  refine wpAnyH_ready (rs := [0]) (by kernel_rfl) (by simp) ?_
  refine AllReadyH.cons rfl (fun K hK => ?_) AllReadyH.nil
  rw [if_pos (by rfl)]
  go_simp
  have M0 : MapE ((w.drew).alloc (.map #[] 0)) w.heap.size [] 0 := heap_alloc_new w.drew _
  have B0 : Below w.heap.size w ((w.drew).alloc (.map #[] 0)) := vdrewM (bal w.drew _)
  refine hK.out _ _ (trivial) (fun hHeld => ?_)
  clear hK K
  (try simp only [Act.put, List.setIfInBounds_toArray, List.set_cons_zero, List.set_cons_succ])
  refine wpAnyH_ready (rs := [3, 6, 9]) (by kernel_rfl) (by simp) ?_
  refine AllReadyH.cons rfl (fun K hK => ?_) (AllReadyH.cons rfl (fun K hK => ?_) (AllReadyH.cons rfl (fun K hK => ?_) AllReadyH.nil))
  · rw [if_pos (by rfl)]
    refine wp_ins (.tmp 1) (.tmp 2) (.tmp 3) rfl w.heap.size ([] : List MEnt) 0 (2, true) cvA rfl rfl rfl (by decide) M0 ?_
    have M1 : MapE (putE ((w.drew).alloc (.map #[] 0)) w.heap.size (([] : List MEnt) ++ [((2, true), cvA, 0)]) (0 + 1)) w.heap.size (([] : List MEnt) ++ [((2, true), cvA, 0)]) (0 + 1) := M0.put
    have B1 : Below w.heap.size w (putE ((w.drew).alloc (.map #[] 0)) w.heap.size (([] : List MEnt) ++ [((2, true), cvA, 0)]) (0 + 1)) := below_putE B0 (Nat.le_refl _)
    refine hK.out _ _ (trivial) (fun hHeld => ?_)
    clear hK K
    (try simp only [Act.put, List.setIfInBounds_toArray, List.set_cons_zero, List.set_cons_succ])
    refine wpAnyH_ready (rs := [6, 9]) (by kernel_rfl) (by simp) ?_
    refine AllReadyH.cons rfl (fun K hK => ?_) (AllReadyH.cons rfl (fun K hK => ?_) AllReadyH.nil)
    · rw [if_pos (by rfl)]
      refine wp_ins (.tmp 1) (.tmp 4) (.tmp 5) rfl w.heap.size (([] : List MEnt) ++ [((2, true), cvA, 0)]) (0 + 1) (1, true) cvF rfl rfl rfl (by decide) M1 ?_
      have M2 : MapE (putE (putE ((w.drew).alloc (.map #[] 0)) w.heap.size (([] : List MEnt) ++ [((2, true), cvA, 0)]) (0 + 1)) w.heap.size ((([] : List MEnt) ++ [((2, true), cvA, 0)]) ++ [((1, true), cvF, (0 + 1))]) ((0 + 1) + 1)) w.heap.size ((([] : List MEnt) ++ [((2, true), cvA, 0)]) ++ [((1, true), cvF, (0 + 1))]) ((0 + 1) + 1) := M1.put
      have B2 : Below w.heap.size w (putE (putE ((w.drew).alloc (.map #[] 0)) w.heap.size (([] : List MEnt) ++ [((2, true), cvA, 0)]) (0 + 1)) w.heap.size ((([] : List MEnt) ++ [((2, true), cvA, 0)]) ++ [((1, true), cvF, (0 + 1))]) ((0 + 1) + 1)) := below_putE B1 (Nat.le_refl _)
      refine hK.out _ _ (trivial) (fun hHeld => ?_)
      clear hK K
      (try simp only [Act.put, List.setIfInBounds_toArray, List.set_cons_zero, List.set_cons_succ])
      refine wpAnyH_ready (rs := [9]) (by kernel_rfl) (by simp) ?_
      refine AllReadyH.cons rfl (fun K hK => ?_) AllReadyH.nil
      rw [if_pos (by rfl)]
      refine wp_ins (.tmp 1) (.tmp 6) (.tmp 7) rfl w.heap.size ((([] : List MEnt) ++ [((2, true), cvA, 0)]) ++ [((1, true), cvF, (0 + 1))]) ((0 + 1) + 1) (1, false) cvL rfl rfl rfl (by decide) M2 ?_
      have M3 : MapE (putE (putE (putE ((w.drew).alloc (.map #[] 0)) w.heap.size (([] : List MEnt) ++ [((2, true), cvA, 0)]) (0 + 1)) w.heap.size ((([] : List MEnt) ++ [((2, true), cvA, 0)]) ++ [((1, true), cvF, (0 + 1))]) ((0 + 1) + 1)) w.heap.size (((([] : List MEnt) ++ [((2, true), cvA, 0)]) ++ [((1, true), cvF, (0 + 1))]) ++ [((1, false), cvL, ((0 + 1) + 1))]) (((0 + 1) + 1) + 1)) w.heap.size (((([] : List MEnt) ++ [((2, true), cvA, 0)]) ++ [((1, true), cvF, (0 + 1))]) ++ [((1, false), cvL, ((0 + 1) + 1))]) (((0 + 1) + 1) + 1) := M2.put
      have B3 : Below w.heap.size w (putE (putE (putE ((w.drew).alloc (.map #[] 0)) w.heap.size (([] : List MEnt) ++ [((2, true), cvA, 0)]) (0 + 1)) w.heap.size ((([] : List MEnt) ++ [((2, true), cvA, 0)]) ++ [((1, true), cvF, (0 + 1))]) ((0 + 1) + 1)) w.heap.size (((([] : List MEnt) ++ [((2, true), cvA, 0)]) ++ [((1, true), cvF, (0 + 1))]) ++ [((1, false), cvL, ((0 + 1) + 1))]) (((0 + 1) + 1) + 1)) := below_putE B2 (Nat.le_refl _)
      refine hK.out _ _ (trivial) (fun hHeld => ?_)
      clear hK K
      (try simp only [Act.put, List.setIfInBounds_toArray, List.set_cons_zero, List.set_cons_succ])
      refine wpAnyH_take (i := 10) (v := ?v7) rfl (by kernel_rfl) (by kernel_rfl) (by kernel_rfl) (fun _ _ _ h => h) (Or.inl ⟨by kernel_rfl, ?y7⟩) (by assumption) ?r7
      case y7 => (intro W hSW; (try dsimp only at hSW); go_simp; (try with_reducible rfl))
      change wpAnyH _ _ _ _ _ _ _ (Act.put _ (some 8) _) _
      (try simp only [Act.put, List.setIfInBounds_toArray, List.set_cons_zero, List.set_cons_succ])
      refine wpAnyH_take (i := 11) (v := ?v8) rfl (by kernel_rfl) (by kernel_rfl) (by kernel_rfl) (fun _ _ _ h => h) (Or.inl ⟨by kernel_rfl, ?y8⟩) (by assumption) ?r8
      case y8 => (intro W hSW; (try dsimp only at hSW); go_simp; (try with_reducible rfl))
      change wpAnyH _ _ _ _ _ _ _ (Act.put _ (some 0) _) _
      (try simp only [Act.put, List.setIfInBounds_toArray, List.set_cons_zero, List.set_cons_succ])
      refine wpAnyH_done (by kernel_rfl) ?_ _
      go_wp2
      go_ret
      exact ⟨w.heap.size, rfl, ⟨_, _, M3, fun k => by (simp only [List.nil_append, List.cons_append, findE, condF]; by_cases h1 : k = (2, true) <;> by_cases h2 : k = (1, true) <;> by_cases h3 : k = (1, false) <;> simp_all)⟩, Nat.le_refl _, B3⟩
    · rw [if_pos (by rfl)]
      refine wp_ins (.tmp 1) (.tmp 6) (.tmp 7) rfl w.heap.size (([] : List MEnt) ++ [((2, true), cvA, 0)]) (0 + 1) (1, false) cvL rfl rfl rfl (by decide) M1 ?_
      have M2 : MapE (putE (putE ((w.drew).alloc (.map #[] 0)) w.heap.size (([] : List MEnt) ++ [((2, true), cvA, 0)]) (0 + 1)) w.heap.size ((([] : List MEnt) ++ [((2, true), cvA, 0)]) ++ [((1, false), cvL, (0 + 1))]) ((0 + 1) + 1)) w.heap.size ((([] : List MEnt) ++ [((2, true), cvA, 0)]) ++ [((1, false), cvL, (0 + 1))]) ((0 + 1) + 1) := M1.put
      have B2 : Below w.heap.size w (putE (putE ((w.drew).alloc (.map #[] 0)) w.heap.size (([] : List MEnt) ++ [((2, true), cvA, 0)]) (0 + 1)) w.heap.size ((([] : List MEnt) ++ [((2, true), cvA, 0)]) ++ [((1, false), cvL, (0 + 1))]) ((0 + 1) + 1)) := below_putE B1 (Nat.le_refl _)
      refine hK.out _ _ (trivial) (fun hHeld => ?_)
      clear hK K
      (try simp only [Act.put, List.setIfInBounds_toArray, List.set_cons_zero, List.set_cons_succ])
      refine wpAnyH_ready (rs := [6]) (by kernel_rfl) (by simp) ?_
      refine AllReadyH.cons rfl (fun K hK => ?_) AllReadyH.nil
      rw [if_pos (by rfl)]
      refine wp_ins (.tmp 1) (.tmp 4) (.tmp 5) rfl w.heap.size ((([] : List MEnt) ++ [((2, true), cvA, 0)]) ++ [((1, false), cvL, (0 + 1))]) ((0 + 1) + 1) (1, true) cvF rfl rfl rfl (by decide) M2 ?_
      have M3 : MapE (putE (putE (putE ((w.drew).alloc (.map #[] 0)) w.heap.size (([] : List MEnt) ++ [((2, true), cvA, 0)]) (0 + 1)) w.heap.size ((([] : List MEnt) ++ [((2, true), cvA, 0)]) ++ [((1, false), cvL, (0 + 1))]) ((0 + 1) + 1)) w.heap.size (((([] : List MEnt) ++ [((2, true), cvA, 0)]) ++ [((1, false), cvL, (0 + 1))]) ++ [((1, true), cvF, ((0 + 1) + 1))]) (((0 + 1) + 1) + 1)) w.heap.size (((([] : List MEnt) ++ [((2, true), cvA, 0)]) ++ [((1, false), cvL, (0 + 1))]) ++ [((1, true), cvF, ((0 + 1) + 1))]) (((0 + 1) + 1) + 1) := M2.put
      have B3 : Below w.heap.size w (putE (putE (putE ((w.drew).alloc (.map #[] 0)) w.heap.size (([] : List MEnt) ++ [((2, true), cvA, 0)]) (0 + 1)) w.heap.size ((([] : List MEnt) ++ [((2, true), cvA, 0)]) ++ [((1, false), cvL, (0 + 1))]) ((0 + 1) + 1)) w.heap.size (((([] : List MEnt) ++ [((2, true), cvA, 0)]) ++ [((1, false), cvL, (0 + 1))]) ++ [((1, true), cvF, ((0 + 1) + 1))]) (((0 + 1) + 1) + 1)) := below_putE B2 (Nat.le_refl _)
      refine hK.out _ _ (trivial) (fun hHeld => ?_)
      clear hK K
      (try simp only [Act.put, List.setIfInBounds_toArray, List.set_cons_zero, List.set_cons_succ])
      refine wpAnyH_take (i := 10) (v := ?v9) rfl (by kernel_rfl) (by kernel_rfl) (by kernel_rfl) (fun _ _ _ h => h) (Or.inl ⟨by kernel_rfl, ?y9⟩) (by assumption) ?r9
      case y9 => (intro W hSW; (try dsimp only at hSW); go_simp; (try with_reducible rfl))
      change wpAnyH _ _ _ _ _ _ _ (Act.put _ (some 8) _) _
      (try simp only [Act.put, List.setIfInBounds_toArray, List.set_cons_zero, List.set_cons_succ])
      refine wpAnyH_take (i := 11) (v := ?v10) rfl (by kernel_rfl) (by kernel_rfl) (by kernel_rfl) (fun _ _ _ h => h) (Or.inl ⟨by kernel_rfl, ?y10⟩) (by assumption) ?r10
      case y10 => (intro W hSW; (try dsimp only at hSW); go_simp; (try with_reducible rfl))
      change wpAnyH _ _ _ _ _ _ _ (Act.put _ (some 0) _) _
      (try simp only [Act.put, List.setIfInBounds_toArray, List.set_cons_zero, List.set_cons_succ])
      refine wpAnyH_done (by kernel_rfl) ?_ _
      go_wp2
      go_ret
      exact ⟨w.heap.size, rfl, ⟨_, _, M3, fun k => by (simp only [List.nil_append, List.cons_append, findE, condF]; by_cases h1 : k = (2, true) <;> by_cases h2 : k = (1, true) <;> by_cases h3 : k = (1, false) <;> simp_all)⟩, Nat.le_refl _, B3⟩
  · rw [if_pos (by rfl)]
    refine wp_ins (.tmp 1) (.tmp 4) (.tmp 5) rfl w.heap.size ([] : List MEnt) 0 (1, true) cvF rfl rfl rfl (by decide) M0 ?_
    have M1 : MapE (putE ((w.drew).alloc (.map #[] 0)) w.heap.size (([] : List MEnt) ++ [((1, true), cvF, 0)]) (0 + 1)) w.heap.size (([] : List MEnt) ++ [((1, true), cvF, 0)]) (0 + 1) := M0.put
    have B1 : Below w.heap.size w (putE ((w.drew).alloc (.map #[] 0)) w.heap.size (([] : List MEnt) ++ [((1, true), cvF, 0)]) (0 + 1)) := below_putE B0 (Nat.le_refl _)
    refine hK.out _ _ (trivial) (fun hHeld => ?_)
    clear hK K
    (try simp only [Act.put, List.setIfInBounds_toArray, List.set_cons_zero, List.set_cons_succ])
    refine wpAnyH_ready (rs := [3, 9]) (by kernel_rfl) (by simp) ?_
    refine AllReadyH.cons rfl (fun K hK => ?_) (AllReadyH.cons rfl (fun K hK => ?_) AllReadyH.nil)
    · rw [if_pos (by rfl)]
      refine wp_ins (.tmp 1) (.tmp 2) (.tmp 3) rfl w.heap.size (([] : List MEnt) ++ [((1, true), cvF, 0)]) (0 + 1) (2, true) cvA rfl rfl rfl (by decide) M1 ?_
      have M2 : MapE (putE (putE ((w.drew).alloc (.map #[] 0)) w.heap.size (([] : List MEnt) ++ [((1, true), cvF, 0)]) (0 + 1)) w.heap.size ((([] : List MEnt) ++ [((1, true), cvF, 0)]) ++ [((2, true), cvA, (0 + 1))]) ((0 + 1) + 1)) w.heap.size ((([] : List MEnt) ++ [((1, true), cvF, 0)]) ++ [((2, true), cvA, (0 + 1))]) ((0 + 1) + 1) := M1.put
      have B2 : Below w.heap.size w (putE (putE ((w.drew).alloc (.map #[] 0)) w.heap.size (([] : List MEnt) ++ [((1, true), cvF, 0)]) (0 + 1)) w.heap.size ((([] : List MEnt) ++ [((1, true), cvF, 0)]) ++ [((2, true), cvA, (0 + 1))]) ((0 + 1) + 1)) := below_putE B1 (Nat.le_refl _)
      refine hK.out _ _ (trivial) (fun hHeld => ?_)
      clear hK K
      (try simp only [Act.put, List.setIfInBounds_toArray, List.set_cons_zero, List.set_cons_succ])
      refine wpAnyH_ready (rs := [9]) (by kernel_rfl) (by simp) ?_
      refine AllReadyH.cons rfl (fun K hK => ?_) AllReadyH.nil
      rw [if_pos (by rfl)]
      refine wp_ins (.tmp 1) (.tmp 6) (.tmp 7) rfl w.heap.size ((([] : List MEnt) ++ [((1, true), cvF, 0)]) ++ [((2, true), cvA, (0 + 1))]) ((0 + 1) + 1) (1, false) cvL rfl rfl rfl (by decide) M2 ?_
      have M3 : MapE (putE (putE (putE ((w.drew).alloc (.map #[] 0)) w.heap.size (([] : List MEnt) ++ [((1, true), cvF, 0)]) (0 + 1)) w.heap.size ((([] : List MEnt) ++ [((1, true), cvF, 0)]) ++ [((2, true), cvA, (0 + 1))]) ((0 + 1) + 1)) w.heap.size (((([] : List MEnt) ++ [((1, true), cvF, 0)]) ++ [((2, true), cvA, (0 + 1))]) ++ [((1, false), cvL, ((0 + 1) + 1))]) (((0 + 1) + 1) + 1)) w.heap.size (((([] : List MEnt) ++ [((1, true), cvF, 0)]) ++ [((2, true), cvA, (0 + 1))]) ++ [((1, false), cvL, ((0 + 1) + 1))]) (((0 + 1) + 1) + 1) := M2.put
      have B3 : Below w.heap.size w (putE (putE (putE ((w.drew).alloc (.map #[] 0)) w.heap.size (([] : List MEnt) ++ [((1, true), cvF, 0)]) (0 + 1)) w.heap.size ((([] : List MEnt) ++ [((1, true), cvF, 0)]) ++ [((2, true), cvA, (0 + 1))]) ((0 + 1) + 1)) w.heap.size (((([] : List MEnt) ++ [((1, true), cvF, 0)]) ++ [((2, true), cvA, (0 + 1))]) ++ [((1, false), cvL, ((0 + 1) + 1))]) (((0 + 1) + 1) + 1)) := below_putE B2 (Nat.le_refl _)
      refine hK.out _ _ (trivial) (fun hHeld => ?_)
      clear hK K
      (try simp only [Act.put, List.setIfInBounds_toArray, List.set_cons_zero, List.set_cons_succ])
      refine wpAnyH_take (i := 10) (v := ?v11) rfl (by kernel_rfl) (by kernel_rfl) (by kernel_rfl) (fun _ _ _ h => h) (Or.inl ⟨by kernel_rfl, ?y11⟩) (by assumption) ?r11
      case y11 => (intro W hSW; (try dsimp only at hSW); go_simp; (try with_reducible rfl))
      change wpAnyH _ _ _ _ _ _ _ (Act.put _ (some 8) _) _
      (try simp only [Act.put, List.setIfInBounds_toArray, List.set_cons_zero, List.set_cons_succ])
      refine wpAnyH_take (i := 11) (v := ?v12) rfl (by kernel_rfl) (by kernel_rfl) (by kernel_rfl) (fun _ _ _ h => h) (Or.inl ⟨by kernel_rfl, ?y12⟩) (by assumption) ?r12
      case y12 => (intro W hSW; (try dsimp only at hSW); go_simp; (try with_reducible rfl))
      change wpAnyH _ _ _ _ _ _ _ (Act.put _ (some 0) _) _
      (try simp only [Act.put, List.setIfInBounds_toArray, List.set_cons_zero, List.set_cons_succ])
      refine wpAnyH_done (by kernel_rfl) ?_ _
      go_wp2
      go_ret
      exact ⟨w.heap.size, rfl, ⟨_, _, M3, fun k => by (simp only [List.nil_append, List.cons_append, findE, condF]; by_cases h1 : k = (2, true) <;> by_cases h2 : k = (1, true) <;> by_cases h3 : k = (1, false) <;> simp_all)⟩, Nat.le_refl _, B3⟩
    · rw [if_pos (by rfl)]
      refine wp_ins (.tmp 1) (.tmp 6) (.tmp 7) rfl w.heap.size (([] : List MEnt) ++ [((1, true), cvF, 0)]) (0 + 1) (1, false) cvL rfl rfl rfl (by decide) M1 ?_
      have M2 : MapE (putE (putE ((w.drew).alloc (.map #[] 0)) w.heap.size (([] : List MEnt) ++ [((1, true), cvF, 0)]) (0 + 1)) w.heap.size ((([] : List MEnt) ++ [((1, true), cvF, 0)]) ++ [((1, false), cvL, (0 + 1))]) ((0 + 1) + 1)) w.heap.size ((([] : List MEnt) ++ [((1, true), cvF, 0)]) ++ [((1, false), cvL, (0 + 1))]) ((0 + 1) + 1) := M1.put
      have B2 : Below w.heap.size w (putE (putE ((w.drew).alloc (.map #[] 0)) w.heap.size (([] : List MEnt) ++ [((1, true), cvF, 0)]) (0 + 1)) w.heap.size ((([] : List MEnt) ++ [((1, true), cvF, 0)]) ++ [((1, false), cvL, (0 + 1))]) ((0 + 1) + 1)) := below_putE B1 (Nat.le_refl _)
      refine hK.out _ _ (trivial) (fun hHeld => ?_)
      clear hK K
      (try simp only [Act.put, List.setIfInBounds_toArray, List.set_cons_zero, List.set_cons_succ])
      refine wpAnyH_ready (rs := [3]) (by kernel_rfl) (by simp) ?_
      refine AllReadyH.cons rfl (fun K hK => ?_) AllReadyH.nil
      rw [if_pos (by rfl)]
      refine wp_ins (.tmp 1) (.tmp 2) (.tmp 3) rfl w.heap.size ((([] : List MEnt) ++ [((1, true), cvF, 0)]) ++ [((1, false), cvL, (0 + 1))]) ((0 + 1) + 1) (2, true) cvA rfl rfl rfl (by decide) M2 ?_
      have M3 : MapE (putE (putE (putE ((w.drew).alloc (.map #[] 0)) w.heap.size (([] : List MEnt) ++ [((1, true), cvF, 0)]) (0 + 1)) w.heap.size ((([] : List MEnt) ++ [((1, true), cvF, 0)]) ++ [((1, false), cvL, (0 + 1))]) ((0 + 1) + 1)) w.heap.size (((([] : List MEnt) ++ [((1, true), cvF, 0)]) ++ [((1, false), cvL, (0 + 1))]) ++ [((2, true), cvA, ((0 + 1) + 1))]) (((0 + 1) + 1) + 1)) w.heap.size (((([] : List MEnt) ++ [((1, true), cvF, 0)]) ++ [((1, false), cvL, (0 + 1))]) ++ [((2, true), cvA, ((0 + 1) + 1))]) (((0 + 1) + 1) + 1) := M2.put
      have B3 : Below w.heap.size w (putE (putE (putE ((w.drew).alloc (.map #[] 0)) w.heap.size (([] : List MEnt) ++ [((1, true), cvF, 0)]) (0 + 1)) w.heap.size ((([] : List MEnt) ++ [((1, true), cvF, 0)]) ++ [((1, false), cvL, (0 + 1))]) ((0 + 1) + 1)) w.heap.size (((([] : List MEnt) ++ [((1, true), cvF, 0)]) ++ [((1, false), cvL, (0 + 1))]) ++ [((2, true), cvA, ((0 + 1) + 1))]) (((0 + 1) + 1) + 1)) := below_putE B2 (Nat.le_refl _)
      refine hK.out _ _ (trivial) (fun hHeld => ?_)
      clear hK K
      (try simp only [Act.put, List.setIfInBounds_toArray, List.set_cons_zero, List.set_cons_succ])
      refine wpAnyH_take (i := 10) (v := ?v13) rfl (by kernel_rfl) (by kernel_rfl) (by kernel_rfl) (fun _ _ _ h => h) (Or.inl ⟨by kernel_rfl, ?y13⟩) (by assumption) ?r13
      case y13 => (intro W hSW; (try dsimp only at hSW); go_simp; (try with_reducible rfl))
      change wpAnyH _ _ _ _ _ _ _ (Act.put _ (some 8) _) _
      (try simp only [Act.put, List.setIfInBounds_toArray, List.set_cons_zero, List.set_cons_succ])
      refine wpAnyH_take (i := 11) (v := ?v14) rfl (by kernel_rfl) (by kernel_rfl) (by kernel_rfl) (fun _ _ _ h => h) (Or.inl ⟨by kernel_rfl, ?y14⟩) (by assumption) ?r14
      case y14 => (intro W hSW; (try dsimp only at hSW); go_simp; (try with_reducible rfl))
      change wpAnyH _ _ _ _ _ _ _ (Act.put _ (some 0) _) _
      (try simp only [Act.put, List.setIfInBounds_toArray, List.set_cons_zero, List.set_cons_succ])
      refine wpAnyH_done (by kernel_rfl) ?_ _
      go_wp2
      go_ret
      exact ⟨w.heap.size, rfl, ⟨_, _, M3, fun k => by (simp only [List.nil_append, List.cons_append, findE, condF]; by_cases h1 : k = (2, true) <;> by_cases h2 : k = (1, true) <;> by_cases h3 : k = (1, false) <;> simp_all)⟩, Nat.le_refl _, B3⟩
  · rw [if_pos (by rfl)]
    refine wp_ins (.tmp 1) (.tmp 6) (.tmp 7) rfl w.heap.size ([] : List MEnt) 0 (1, false) cvL rfl rfl rfl (by decide) M0 ?_
    have M1 : MapE (putE ((w.drew).alloc (.map #[] 0)) w.heap.size (([] : List MEnt) ++ [((1, false), cvL, 0)]) (0 + 1)) w.heap.size (([] : List MEnt) ++ [((1, false), cvL, 0)]) (0 + 1) := M0.put
    have B1 : Below w.heap.size w (putE ((w.drew).alloc (.map #[] 0)) w.heap.size (([] : List MEnt) ++ [((1, false), cvL, 0)]) (0 + 1)) := below_putE B0 (Nat.le_refl _)
    refine hK.out _ _ (trivial) (fun hHeld => ?_)
    clear hK K
    (try simp only [Act.put, List.setIfInBounds_toArray, List.set_cons_zero, List.set_cons_succ])
    refine wpAnyH_ready (rs := [3, 6]) (by kernel_rfl) (by simp) ?_
    refine AllReadyH.cons rfl (fun K hK => ?_) (AllReadyH.cons rfl (fun K hK => ?_) AllReadyH.nil)
    · rw [if_pos (by rfl)]
      refine wp_ins (.tmp 1) (.tmp 2) (.tmp 3) rfl w.heap.size (([] : List MEnt) ++ [((1, false), cvL, 0)]) (0 + 1) (2, true) cvA rfl rfl rfl (by decide) M1 ?_
      have M2 : MapE (putE (putE ((w.drew).alloc (.map #[] 0)) w.heap.size (([] : List MEnt) ++ [((1, false), cvL, 0)]) (0 + 1)) w.heap.size ((([] : List MEnt) ++ [((1, false), cvL, 0)]) ++ [((2, true), cvA, (0 + 1))]) ((0 + 1) + 1)) w.heap.size ((([] : List MEnt) ++ [((1, false), cvL, 0)]) ++ [((2, true), cvA, (0 + 1))]) ((0 + 1) + 1) := M1.put
      have B2 : Below w.heap.size w (putE (putE ((w.drew).alloc (.map #[] 0)) w.heap.size (([] : List MEnt) ++ [((1, false), cvL, 0)]) (0 + 1)) w.heap.size ((([] : List MEnt) ++ [((1, false), cvL, 0)]) ++ [((2, true), cvA, (0 + 1))]) ((0 + 1) + 1)) := below_putE B1 (Nat.le_refl _)
      refine hK.out _ _ (trivial) (fun hHeld => ?_)
      clear hK K
      (try simp only [Act.put, List.setIfInBounds_toArray, List.set_cons_zero, List.set_cons_succ])
      refine wpAnyH_ready (rs := [6]) (by kernel_rfl) (by simp) ?_
      refine AllReadyH.cons rfl (fun K hK => ?_) AllReadyH.nil
      rw [if_pos (by rfl)]
      refine wp_ins (.tmp 1) (.tmp 4) (.tmp 5) rfl w.heap.size ((([] : List MEnt) ++ [((1, false), cvL, 0)]) ++ [((2, true), cvA, (0 + 1))]) ((0 + 1) + 1) (1, true) cvF rfl rfl rfl (by decide) M2 ?_
      have M3 : MapE (putE (putE (putE ((w.drew).alloc (.map #[] 0)) w.heap.size (([] : List MEnt) ++ [((1, false), cvL, 0)]) (0 + 1)) w.heap.size ((([] : List MEnt) ++ [((1, false), cvL, 0)]) ++ [((2, true), cvA, (0 + 1))]) ((0 + 1) + 1)) w.heap.size (((([] : List MEnt) ++ [((1, false), cvL, 0)]) ++ [((2, true), cvA, (0 + 1))]) ++ [((1, true), cvF, ((0 + 1) + 1))]) (((0 + 1) + 1) + 1)) w.heap.size (((([] : List MEnt) ++ [((1, false), cvL, 0)]) ++ [((2, true), cvA, (0 + 1))]) ++ [((1, true), cvF, ((0 + 1) + 1))]) (((0 + 1) + 1) + 1) := M2.put
      have B3 : Below w.heap.size w (putE (putE (putE ((w.drew).alloc (.map #[] 0)) w.heap.size (([] : List MEnt) ++ [((1, false), cvL, 0)]) (0 + 1)) w.heap.size ((([] : List MEnt) ++ [((1, false), cvL, 0)]) ++ [((2, true), cvA, (0 + 1))]) ((0 + 1) + 1)) w.heap.size (((([] : List MEnt) ++ [((1, false), cvL, 0)]) ++ [((2, true), cvA, (0 + 1))]) ++ [((1, true), cvF, ((0 + 1) + 1))]) (((0 + 1) + 1) + 1)) := below_putE B2 (Nat.le_refl _)
      refine hK.out _ _ (trivial) (fun hHeld => ?_)
      clear hK K
      (try simp only [Act.put, List.setIfInBounds_toArray, List.set_cons_zero, List.set_cons_succ])
      refine wpAnyH_take (i := 10) (v := ?v15) rfl (by kernel_rfl) (by kernel_rfl) (by kernel_rfl) (fun _ _ _ h => h) (Or.inl ⟨by kernel_rfl, ?y15⟩) (by assumption) ?r15
      case y15 => (intro W hSW; (try dsimp only at hSW); go_simp; (try with_reducible rfl))
      change wpAnyH _ _ _ _ _ _ _ (Act.put _ (some 8) _) _
      (try simp only [Act.put, List.setIfInBounds_toArray, List.set_cons_zero, List.set_cons_succ])
      refine wpAnyH_take (i := 11) (v := ?v16) rfl (by kernel_rfl) (by kernel_rfl) (by kernel_rfl) (fun _ _ _ h => h) (Or.inl ⟨by kernel_rfl, ?y16⟩) (by assumption) ?r16
      case y16 => (intro W hSW; (try dsimp only at hSW); go_simp; (try with_reducible rfl))
      change wpAnyH _ _ _ _ _ _ _ (Act.put _ (some 0) _) _
      (try simp only [Act.put, List.setIfInBounds_toArray, List.set_cons_zero, List.set_cons_succ])
      refine wpAnyH_done (by kernel_rfl) ?_ _
      go_wp2
      go_ret
      exact ⟨w.heap.size, rfl, ⟨_, _, M3, fun k => by (simp only [List.nil_append, List.cons_append, findE, condF]; by_cases h1 : k = (2, true) <;> by_cases h2 : k = (1, true) <;> by_cases h3 : k = (1, false) <;> simp_all)⟩, Nat.le_refl _, B3⟩
    · rw [if_pos (by rfl)]
      refine wp_ins (.tmp 1) (.tmp 4) (.tmp 5) rfl w.heap.size (([] : List MEnt) ++ [((1, false), cvL, 0)]) (0 + 1) (1, true) cvF rfl rfl rfl (by decide) M1 ?_
      have M2 : MapE (putE (putE ((w.drew).alloc (.map #[] 0)) w.heap.size (([] : List MEnt) ++ [((1, false), cvL, 0)]) (0 + 1)) w.heap.size ((([] : List MEnt) ++ [((1, false), cvL, 0)]) ++ [((1, true), cvF, (0 + 1))]) ((0 + 1) + 1)) w.heap.size ((([] : List MEnt) ++ [((1, false), cvL, 0)]) ++ [((1, true), cvF, (0 + 1))]) ((0 + 1) + 1) := M1.put
      have B2 : Below w.heap.size w (putE (putE ((w.drew).alloc (.map #[] 0)) w.heap.size (([] : List MEnt) ++ [((1, false), cvL, 0)]) (0 + 1)) w.heap.size ((([] : List MEnt) ++ [((1, false), cvL, 0)]) ++ [((1, true), cvF, (0 + 1))]) ((0 + 1) + 1)) := below_putE B1 (Nat.le_refl _)
      refine hK.out _ _ (trivial) (fun hHeld => ?_)
      clear hK K
      (try simp only [Act.put, List.setIfInBounds_toArray, List.set_cons_zero, List.set_cons_succ])
      refine wpAnyH_ready (rs := [3]) (by kernel_rfl) (by simp) ?_
      refine AllReadyH.cons rfl (fun K hK => ?_) AllReadyH.nil
      rw [if_pos (by rfl)]
      refine wp_ins (.tmp 1) (.tmp 2) (.tmp 3) rfl w.heap.size ((([] : List MEnt) ++ [((1, false), cvL, 0)]) ++ [((1, true), cvF, (0 + 1))]) ((0 + 1) + 1) (2, true) cvA rfl rfl rfl (by decide) M2 ?_
      have M3 : MapE (putE (putE (putE ((w.drew).alloc (.map #[] 0)) w.heap.size (([] : List MEnt) ++ [((1, false), cvL, 0)]) (0 + 1)) w.heap.size ((([] : List MEnt) ++ [((1, false), cvL, 0)]) ++ [((1, true), cvF, (0 + 1))]) ((0 + 1) + 1)) w.heap.size (((([] : List MEnt) ++ [((1, false), cvL, 0)]) ++ [((1, true), cvF, (0 + 1))]) ++ [((2, true), cvA, ((0 + 1) + 1))]) (((0 + 1) + 1) + 1)) w.heap.size (((([] : List MEnt) ++ [((1, false), cvL, 0)]) ++ [((1, true), cvF, (0 + 1))]) ++ [((2, true), cvA, ((0 + 1) + 1))]) (((0 + 1) + 1) + 1) := M2.put
      have B3 : Below w.heap.size w (putE (putE (putE ((w.drew).alloc (.map #[] 0)) w.heap.size (([] : List MEnt) ++ [((1, false), cvL, 0)]) (0 + 1)) w.heap.size ((([] : List MEnt) ++ [((1, false), cvL, 0)]) ++ [((1, true), cvF, (0 + 1))]) ((0 + 1) + 1)) w.heap.size (((([] : List MEnt) ++ [((1, false), cvL, 0)]) ++ [((1, true), cvF, (0 + 1))]) ++ [((2, true), cvA, ((0 + 1) + 1))]) (((0 + 1) + 1) + 1)) := below_putE B2 (Nat.le_refl _)
      refine hK.out _ _ (trivial) (fun hHeld => ?_)
      clear hK K
      (try simp only [Act.put, List.setIfInBounds_toArray, List.set_cons_zero, List.set_cons_succ])
      refine wpAnyH_take (i := 10) (v := ?v17) rfl (by kernel_rfl) (by kernel_rfl) (by kernel_rfl) (fun _ _ _ h => h) (Or.inl ⟨by kernel_rfl, ?y17⟩) (by assumption) ?r17
      case y17 => (intro W hSW; (try dsimp only at hSW); go_simp; (try with_reducible rfl))
      change wpAnyH _ _ _ _ _ _ _ (Act.put _ (some 8) _) _
      (try simp only [Act.put, List.setIfInBounds_toArray, List.set_cons_zero, List.set_cons_succ])
      refine wpAnyH_take (i := 11) (v := ?v18) rfl (by kernel_rfl) (by kernel_rfl) (by kernel_rfl) (fun _ _ _ h => h) (Or.inl ⟨by kernel_rfl, ?y18⟩) (by assumption) ?r18
      case y18 => (intro W hSW; (try dsimp only at hSW); go_simp; (try with_reducible rfl))
      change wpAnyH _ _ _ _ _ _ _ (Act.put _ (some 0) _) _
      (try simp only [Act.put, List.setIfInBounds_toArray, List.set_cons_zero, List.set_cons_succ])
      refine wpAnyH_done (by kernel_rfl) ?_ _
      go_wp2
      go_ret
      exact ⟨w.heap.size, rfl, ⟨_, _, M3, fun k => by (simp only [List.nil_append, List.cons_append, findE, condF]; by_cases h1 : k = (2, true) <;> by_cases h2 : k = (1, true) <;> by_cases h3 : k = (1, false) <;> simp_all)⟩, Nat.le_refl _, B3⟩
end Go.Proofs.YtmckidepbibpgaaGreatDoor
