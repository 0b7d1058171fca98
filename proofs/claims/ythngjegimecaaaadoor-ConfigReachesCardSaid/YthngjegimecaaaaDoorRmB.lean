/-
  The document's own partition of a port, told.
-/
import Derived.Test.YthngjegimecaaaaDoorRchC
import Derived.Test.YthngjegimecaaaaDoorCfgSmall
import Derived.Test.YthngjegimecaaaaDoorRmA
namespace Go.Proofs.YthngjegimecaaaaDoor
open Go.RowKit Go.Deep
set_option linter.unusedVariables false
set_option linter.unusedSimpArgs false

/-- the partition, or -1 -/
def partN (c : Conf) (z : Int) : Int := match partP c z with
  | none => -1
  | some k => (k : Int)
theorem isB_of {c : Conf} {z : Int} : isB c z = ofB z c.ports.length := by unfold isB ofB; simp
set_option hygiene false in
macro "rm_keep" : tactic => `(tactic| first | exact HKp.out _ _ hHeld hb1 | exact HS0.out)

set_option maxRecDepth 100000 in
set_option maxHeartbeats 4000000 in
theorem rpart_at (c : Conf) (d : Ad) (z : Int) (w : World) (hg : Glo w) (h : ConfAt w c d) :
    Calls Tryd.prog 10 #[c.val d, .int .i64 z] w fun e w' => e = .returned (.int .i64 (partN c z)) ∧ Below w.heap.size w w' := by
  have hS := CfS.first 28 hg h
  have HLTw := hide (fun (k : Nat) (hk : k < c.ports.length) => h.ports.at hk)
  clear hg h
  generalize hA : w.alloc (.cells (c.cells d) 28) = wa at hS
  obtain ⟨oA, oC, pA, pC, wA, wC, qA, qC, lA, lC⟩ := d
  unfold Conf.val
  unfold Conf.cells at hA
  dsimp only at hA hS HLTw ⊢
  have HA := hide hA
  clear hA
  obtain ⟨hb, ⟨hl, e0, e1, e2, e3, e4, e5, e6, e7, e8, e9, e10, e11⟩, hg, hc⟩ := id hS
  dsimp only at e0 e1 e2 e3 e4 e5 e6 e7 e8 e9 e10 e11
  by_cases h1 : ofB z c.ports.length = true
  · have h1' := h1
    simp only [ofB, Bool.and_eq_true, decide_eq_true_eq] at h1'
    obtain ⟨n, rfl⟩ := Int.eq_ofNat_of_zero_le h1'.1
    have hn : n < c.ports.length := by omega
    obtain ⟨pb, po, hpA, hpb', f0', _⟩ := HLTw.out n hn
    subst hpA
    have f0 : wa.cell? ⟨pb, po + n * 6, none⟩ = some (.int .i64 (c.ports.getD n default).part) := cell_below hb (Nat.le_refl _) hpb' f0'
    have H1 : Hid (isB c (n : Int) = true) := isB_of.trans h1
    clear f0' HLTw
    by_cases h3 : (c.ports.getD n default).part < 0
    · have hp : partN c (n : Int) = -1 := by
        unfold partN partP
        rw [Int.toNat_natCast, if_neg]
        simp only [ofB, Bool.and_eq_true, decide_eq_true_eq]
        omega
      rw [hp]
      generalize (c.ports.getD n default).part = q at f0 h3
      have HS0 : Hid (CfS w wa.drew c ⟨oA, oC, pA, pC, wA, wC, some ⟨pb, po, none⟩, qC, lA, lC⟩ ∧ wa.drew.cell? ⟨w.heap.size, 0, none⟩ = some (.int .i64 c.nodes) ∧ wa.drew.cell? ⟨w.heap.size, 1, none⟩ = some (.slice oA c.owners.length oC) ∧ wa.drew.cell? ⟨w.heap.size, 2, none⟩ = some (.int .i64 c.drift) ∧ wa.drew.cell? ⟨w.heap.size, 3, none⟩ = some (.int .i64 c.reading) ∧ wa.drew.cell? ⟨w.heap.size, 4, none⟩ = some (.int .i64 c.margin) ∧ wa.drew.cell? ⟨w.heap.size, 5, none⟩ = some (.int .i64 c.bound) ∧ wa.drew.cell? ⟨w.heap.size, 6, none⟩ = some (.int .i64 c.rejoin) ∧ wa.drew.cell? ⟨w.heap.size, 7, none⟩ = some (.int .i64 c.quota) ∧ wa.drew.cell? ⟨w.heap.size, 8, none⟩ = some (.slice pA c.parts.length pC) ∧ wa.drew.cell? ⟨w.heap.size, 9, none⟩ = some (.slice wA c.windows.length wC) ∧ wa.drew.cell? ⟨w.heap.size, 10, none⟩ = some (.slice (some ⟨pb, po, none⟩) c.ports.length qC) ∧ wa.drew.cell? ⟨w.heap.size, 11, none⟩ = some (.slice lA c.links.length lC) ∧ wa.drew.cell? ⟨pb, po + n * 6, none⟩ = some (.int .i64 q)) := ⟨hS.below (vdrewNx (Below.refl _ wa) 1), e0, e1, e2, e3, e4, e5, e6, e7, e8, e9, e10, e11, f0⟩
      have HLT : Hid (∀ W, CfS w W c ⟨oA, oC, pA, pC, wA, wC, some ⟨pb, po, none⟩, qC, lA, lC⟩ → pb < W.heap.size) := fun W h => Nat.lt_of_lt_of_le hpb' h.bel.size
      have HKp : Hid (∀ W W', (CfS w W c ⟨oA, oC, pA, pC, wA, wC, some ⟨pb, po, none⟩, qC, lA, lC⟩ ∧ W.cell? ⟨w.heap.size, 0, none⟩ = some (.int .i64 c.nodes) ∧ W.cell? ⟨w.heap.size, 1, none⟩ = some (.slice oA c.owners.length oC) ∧ W.cell? ⟨w.heap.size, 2, none⟩ = some (.int .i64 c.drift) ∧ W.cell? ⟨w.heap.size, 3, none⟩ = some (.int .i64 c.reading) ∧ W.cell? ⟨w.heap.size, 4, none⟩ = some (.int .i64 c.margin) ∧ W.cell? ⟨w.heap.size, 5, none⟩ = some (.int .i64 c.bound) ∧ W.cell? ⟨w.heap.size, 6, none⟩ = some (.int .i64 c.rejoin) ∧ W.cell? ⟨w.heap.size, 7, none⟩ = some (.int .i64 c.quota) ∧ W.cell? ⟨w.heap.size, 8, none⟩ = some (.slice pA c.parts.length pC) ∧ W.cell? ⟨w.heap.size, 9, none⟩ = some (.slice wA c.windows.length wC) ∧ W.cell? ⟨w.heap.size, 10, none⟩ = some (.slice (some ⟨pb, po, none⟩) c.ports.length qC) ∧ W.cell? ⟨w.heap.size, 11, none⟩ = some (.slice lA c.links.length lC) ∧ W.cell? ⟨pb, po + n * 6, none⟩ = some (.int .i64 q)) → Below W.heap.size W W' → (CfS w W' c ⟨oA, oC, pA, pC, wA, wC, some ⟨pb, po, none⟩, qC, lA, lC⟩ ∧ W'.cell? ⟨w.heap.size, 0, none⟩ = some (.int .i64 c.nodes) ∧ W'.cell? ⟨w.heap.size, 1, none⟩ = some (.slice oA c.owners.length oC) ∧ W'.cell? ⟨w.heap.size, 2, none⟩ = some (.int .i64 c.drift) ∧ W'.cell? ⟨w.heap.size, 3, none⟩ = some (.int .i64 c.reading) ∧ W'.cell? ⟨w.heap.size, 4, none⟩ = some (.int .i64 c.margin) ∧ W'.cell? ⟨w.heap.size, 5, none⟩ = some (.int .i64 c.bound) ∧ W'.cell? ⟨w.heap.size, 6, none⟩ = some (.int .i64 c.rejoin) ∧ W'.cell? ⟨w.heap.size, 7, none⟩ = some (.int .i64 c.quota) ∧ W'.cell? ⟨w.heap.size, 8, none⟩ = some (.slice pA c.parts.length pC) ∧ W'.cell? ⟨w.heap.size, 9, none⟩ = some (.slice wA c.windows.length wC) ∧ W'.cell? ⟨w.heap.size, 10, none⟩ = some (.slice (some ⟨pb, po, none⟩) c.ports.length qC) ∧ W'.cell? ⟨w.heap.size, 11, none⟩ = some (.slice lA c.links.length lC) ∧ W'.cell? ⟨pb, po + n * 6, none⟩ = some (.int .i64 q))) := fun W W' h hb => by
        obtain ⟨_, ⟨_, x0, x1, x2, x3, x4, x5, x6, x7, x8, x9, x10, x11⟩, _, _⟩ := h.1.below hb
        obtain ⟨_, _, _, _, _, _, _, _, _, _, _, _, _, hf⟩ := id h
        exact ⟨h.1.below hb, x0, x1, x2, x3, x4, x5, x6, x7, x8, x9, x10, x11, cell_below hb (Nat.le_refl _) (HLT.out _ h.1) hf⟩
      clear hp h1 h1'
      clear hS e0 e1 e2 e3 e4 e5 e6 e7 e8 e9 e10 e11 f0 hb hg hc
      go_enter Tryd.func10, Tryd.ntmps10
      go_wp2_with fail
      rw [HA.out]
      clear HA
      refine wp_region_held_drew (S := fun w' => CfS w w' c ⟨oA, oC, pA, pC, wA, wC, some ⟨pb, po, none⟩, qC, lA, lC⟩ ∧ w'.cell? ⟨w.heap.size, 0, none⟩ = some (.int .i64 c.nodes) ∧ w'.cell? ⟨w.heap.size, 1, none⟩ = some (.slice oA c.owners.length oC) ∧ w'.cell? ⟨w.heap.size, 2, none⟩ = some (.int .i64 c.drift) ∧ w'.cell? ⟨w.heap.size, 3, none⟩ = some (.int .i64 c.reading) ∧ w'.cell? ⟨w.heap.size, 4, none⟩ = some (.int .i64 c.margin) ∧ w'.cell? ⟨w.heap.size, 5, none⟩ = some (.int .i64 c.bound) ∧ w'.cell? ⟨w.heap.size, 6, none⟩ = some (.int .i64 c.rejoin) ∧ w'.cell? ⟨w.heap.size, 7, none⟩ = some (.int .i64 c.quota) ∧ w'.cell? ⟨w.heap.size, 8, none⟩ = some (.slice pA c.parts.length pC) ∧ w'.cell? ⟨w.heap.size, 9, none⟩ = some (.slice wA c.windows.length wC) ∧ w'.cell? ⟨w.heap.size, 10, none⟩ = some (.slice (some ⟨pb, po, none⟩) c.ports.length qC) ∧ w'.cell? ⟨w.heap.size, 11, none⟩ = some (.slice lA c.links.length lC) ∧ w'.cell? ⟨pb, po + n * 6, none⟩ = some (.int .i64 q)) (by kernel_rfl) (by rm_keep) (fun hHeld => ?_)
      refine wpAnyH_take (i := 0) (v := ?v1_0) rfl (by kernel_rfl) (by kernel_rfl) (by kernel_rfl) (fun _ _ _ h => h) (Or.inl ⟨by kernel_rfl, ?y1_0⟩) (by assumption) ?r1_0
      case y1_0 => (intro W hSW; (try dsimp only at hSW); go_simp; (try with_reducible rfl))
      change wpAnyH _ _ _ _ _ _ _ (Act.put _ (some 5) _) _
      (try simp only [Act.put, List.setIfInBounds_toArray, List.set_cons_zero, List.set_cons_succ])
      refine wpAnyH_take (i := 1) (v := ?v1_1) rfl (by kernel_rfl) (by kernel_rfl) (by kernel_rfl) (fun _ _ _ h => h) (Or.inl ⟨by kernel_rfl, ?y1_1⟩) (by assumption) ?r1_1
      case y1_1 => (intro W hSW; (try dsimp only at hSW); go_simp; (try with_reducible rfl))
      change wpAnyH _ _ _ _ _ _ _ (Act.put _ (some 6) _) _
      (try simp only [Act.put, List.setIfInBounds_toArray, List.set_cons_zero, List.set_cons_succ])
      refine wpAnyH_ready (rs := [2]) (by kernel_rfl) (by simp) ?_
      refine AllReadyH.cons rfl (fun K hK => ?_) AllReadyH.nil
      rw [if_pos (by rfl)]
      go_simp
      refine (ris_any c ⟨oA, oC, pA, pC, wA, wC, some ⟨pb, po, none⟩, qC, lA, lC⟩ _ _ hHeld.1.cf).mono ?_
      rintro e w1 ⟨rfl, hb1⟩
      rw [H1.out]
      go_simp
      refine hK.out _ _ (by rm_keep) (fun hHeld => ?_)
      clear hK K
      (try simp only [Act.put, List.setIfInBounds_toArray, List.set_cons_zero, List.set_cons_succ])
      refine wpAnyH_take (i := 3) (v := ?v1_3) rfl (by kernel_rfl) (by kernel_rfl) (by kernel_rfl) (fun _ _ _ h => h) (Or.inl ⟨by kernel_rfl, ?y1_3⟩) (by assumption) ?r1_3
      case y1_3 => (intro W hSW; (try dsimp only at hSW); go_simp; (try with_reducible rfl))
      change wpAnyH _ _ _ _ _ _ _ (Act.put _ (some 8) _) _
      (try simp only [Act.put, List.setIfInBounds_toArray, List.set_cons_zero, List.set_cons_succ])
      refine wpAnyH_take (i := 4) (v := ?v1_4) rfl (by kernel_rfl) (by kernel_rfl) (by kernel_rfl) (fun _ _ _ h => h) (Or.inl ⟨by kernel_rfl, ?y1_4⟩) (by assumption) ?r1_4
      case y1_4 => (intro W hSW; (try dsimp only at hSW); go_simp; (try with_reducible rfl))
      change wpAnyH _ _ _ _ _ _ _ (Act.put _ (some 9) _) _
      (try simp only [Act.put, List.setIfInBounds_toArray, List.set_cons_zero, List.set_cons_succ])
      refine wpAnyH_take (i := 5) (v := ?v1_5) rfl (by kernel_rfl) (by kernel_rfl) (by kernel_rfl) (fun _ _ _ h => h) (Or.inl ⟨by kernel_rfl, ?y1_5⟩) (by assumption) ?r1_5
      case y1_5 => (intro W hSW; (try dsimp only at hSW); go_simp; (try with_reducible rfl))
      change wpAnyH _ _ _ _ _ _ _ (Act.put _ (some 10) _) _
      (try simp only [Act.put, List.setIfInBounds_toArray, List.set_cons_zero, List.set_cons_succ])
      refine wpAnyH_take (i := 6) (v := ?v1_6) rfl (by kernel_rfl) (by kernel_rfl) (by kernel_rfl) (fun _ _ _ h => h) (Or.inl ⟨by kernel_rfl, ?y1_6⟩) (by assumption) ?r1_6
      case y1_6 => (intro W hSW; (try dsimp only at hSW); go_simp; (try with_reducible rfl))
      change wpAnyH _ _ _ _ _ _ _ (Act.put _ (some 11) _) _
      (try simp only [Act.put, List.setIfInBounds_toArray, List.set_cons_zero, List.set_cons_succ])
      refine wpAnyH_take (i := 7) (v := ?v1_7) rfl (by kernel_rfl) (by kernel_rfl) (by kernel_rfl) (fun _ _ _ h => h) (Or.inl ⟨by kernel_rfl, ?y1_7⟩) (by assumption) ?r1_7
      case y1_7 => (intro W hSW; (try dsimp only at hSW); go_simp; (try with_reducible rfl))
      change wpAnyH _ _ _ _ _ _ _ (Act.put _ (some 12) _) _
      (try simp only [Act.put, List.setIfInBounds_toArray, List.set_cons_zero, List.set_cons_succ])
      refine wpAnyH_take (i := 8) (v := ?v1_8) rfl (by kernel_rfl) (by kernel_rfl) (by kernel_rfl) (fun _ _ _ h => h) (Or.inl ⟨by kernel_rfl, ?y1_8⟩) (by assumption) ?r1_8
      case y1_8 => (intro W hSW; (try dsimp only at hSW); go_simp; (try with_reducible rfl))
      change wpAnyH _ _ _ _ _ _ _ (Act.put _ (some 13) _) _
      (try simp only [Act.put, List.setIfInBounds_toArray, List.set_cons_zero, List.set_cons_succ])
      refine wpAnyH_take (i := 9) (v := ?v1_9) rfl (by kernel_rfl) (by kernel_rfl) (by kernel_rfl) (fun _ _ _ h => h) (Or.inl ⟨by kernel_rfl, ?y1_9⟩) (by assumption) ?r1_9
      case y1_9 => (intro W hSW; (try dsimp only at hSW); go_simp; (try with_reducible rfl))
      change wpAnyH _ _ _ _ _ _ _ (Act.put _ (some 14) _) _
      (try simp only [Act.put, List.setIfInBounds_toArray, List.set_cons_zero, List.set_cons_succ])
      refine wpAnyH_take (i := 10) (v := ?v1_10) rfl (by kernel_rfl) (by kernel_rfl) (by kernel_rfl) (fun _ _ _ h => h) (Or.inl ⟨by kernel_rfl, ?y1_10⟩) (by assumption) ?r1_10
      case y1_10 => (intro W hSW; (try dsimp only at hSW); go_simp; (try with_reducible rfl))
      change wpAnyH _ _ _ _ _ _ _ (Act.put _ (some 15) _) _
      (try simp only [Act.put, List.setIfInBounds_toArray, List.set_cons_zero, List.set_cons_succ])
      refine wpAnyH_take (i := 11) (v := ?v1_11) rfl (by kernel_rfl) (by kernel_rfl) (by kernel_rfl) (fun _ _ _ h => h) (Or.inl ⟨by kernel_rfl, ?y1_11⟩) (by assumption) ?r1_11
      case y1_11 => (intro W hSW; (try dsimp only at hSW); go_simp; (try with_reducible rfl))
      change wpAnyH _ _ _ _ _ _ _ (Act.put _ (some 16) _) _
      (try simp only [Act.put, List.setIfInBounds_toArray, List.set_cons_zero, List.set_cons_succ])
      refine wpAnyH_take (i := 12) (v := ?v1_12) rfl (by kernel_rfl) (by kernel_rfl) (by kernel_rfl) (fun _ _ _ h => h) (Or.inl ⟨by kernel_rfl, ?y1_12⟩) (by assumption) ?r1_12
      case y1_12 => (intro W hSW; (try dsimp only at hSW); go_simp; (try with_reducible rfl))
      change wpAnyH _ _ _ _ _ _ _ (Act.put _ (some 17) _) _
      (try simp only [Act.put, List.setIfInBounds_toArray, List.set_cons_zero, List.set_cons_succ])
      refine wpAnyH_take (i := 13) (v := ?v1_13) rfl (by kernel_rfl) (by kernel_rfl) (by kernel_rfl) (fun _ _ _ h => h) (Or.inl ⟨by kernel_rfl, ?y1_13⟩) (by assumption) ?r1_13
      case y1_13 => (intro W hSW; (try dsimp only at hSW); go_simp; (try with_reducible rfl))
      change wpAnyH _ _ _ _ _ _ _ (Act.put _ (some 18) _) _
      (try simp only [Act.put, List.setIfInBounds_toArray, List.set_cons_zero, List.set_cons_succ])
      refine wpAnyH_take (i := 14) (v := undef) rfl (by kernel_rfl) (by kernel_rfl) (by kernel_rfl) (fun _ _ _ h => h) (Or.inr ⟨by kernel_rfl, rfl⟩) (by assumption) ?_
      change wpAnyH _ _ _ _ _ _ _ (Act.put _ (some 19) _) _
      (try simp only [Act.put, List.setIfInBounds_toArray, List.set_cons_zero, List.set_cons_succ])
      refine wpAnyH_take (i := 15) (v := undef) rfl (by kernel_rfl) (by kernel_rfl) (by kernel_rfl) (fun _ _ _ h => h) (Or.inr ⟨by kernel_rfl, rfl⟩) (by assumption) ?_
      change wpAnyH _ _ _ _ _ _ _ (Act.put _ (some 20) _) _
      (try simp only [Act.put, List.setIfInBounds_toArray, List.set_cons_zero, List.set_cons_succ])
      refine wpAnyH_take (i := 16) (v := undef) rfl (by kernel_rfl) (by kernel_rfl) (by kernel_rfl) (fun _ _ _ h => h) (Or.inr ⟨by kernel_rfl, rfl⟩) (by assumption) ?_
      change wpAnyH _ _ _ _ _ _ _ (Act.put _ (some 21) _) _
      (try simp only [Act.put, List.setIfInBounds_toArray, List.set_cons_zero, List.set_cons_succ])
      refine wpAnyH_take (i := 17) (v := undef) rfl (by kernel_rfl) (by kernel_rfl) (by kernel_rfl) (fun _ _ _ h => h) (Or.inr ⟨by kernel_rfl, rfl⟩) (by assumption) ?_
      change wpAnyH _ _ _ _ _ _ _ (Act.put _ (some 22) _) _
      (try simp only [Act.put, List.setIfInBounds_toArray, List.set_cons_zero, List.set_cons_succ])
      refine wpAnyH_take (i := 18) (v := undef) rfl (by kernel_rfl) (by kernel_rfl) (by kernel_rfl) (fun _ _ _ h => h) (Or.inr ⟨by kernel_rfl, rfl⟩) (by assumption) ?_
      change wpAnyH _ _ _ _ _ _ _ (Act.put _ (some 23) _) _
      (try simp only [Act.put, List.setIfInBounds_toArray, List.set_cons_zero, List.set_cons_succ])
      refine wpAnyH_take (i := 19) (v := undef) rfl (by kernel_rfl) (by kernel_rfl) (by kernel_rfl) (fun _ _ _ h => h) (Or.inr ⟨by kernel_rfl, rfl⟩) (by assumption) ?_
      change wpAnyH _ _ _ _ _ _ _ (Act.put _ (some 24) _) _
      (try simp only [Act.put, List.setIfInBounds_toArray, List.set_cons_zero, List.set_cons_succ])
      refine wpAnyH_take (i := 20) (v := undef) rfl (by kernel_rfl) (by kernel_rfl) (by kernel_rfl) (fun _ _ _ h => h) (Or.inr ⟨by kernel_rfl, rfl⟩) (by assumption) ?_
      change wpAnyH _ _ _ _ _ _ _ (Act.put _ (some 25) _) _
      (try simp only [Act.put, List.setIfInBounds_toArray, List.set_cons_zero, List.set_cons_succ])
      refine wpAnyH_take (i := 21) (v := undef) rfl (by kernel_rfl) (by kernel_rfl) (by kernel_rfl) (fun _ _ _ h => h) (Or.inr ⟨by kernel_rfl, rfl⟩) (by assumption) ?_
      change wpAnyH _ _ _ _ _ _ _ (Act.put _ (some 26) _) _
      (try simp only [Act.put, List.setIfInBounds_toArray, List.set_cons_zero, List.set_cons_succ])
      refine wpAnyH_take (i := 22) (v := undef) rfl (by kernel_rfl) (by kernel_rfl) (by kernel_rfl) (fun _ _ _ h => h) (Or.inr ⟨by kernel_rfl, rfl⟩) (by assumption) ?_
      change wpAnyH _ _ _ _ _ _ _ (Act.put _ (some 27) _) _
      (try simp only [Act.put, List.setIfInBounds_toArray, List.set_cons_zero, List.set_cons_succ])
      refine wpAnyH_take (i := 23) (v := undef) rfl (by kernel_rfl) (by kernel_rfl) (by kernel_rfl) (fun _ _ _ h => h) (Or.inr ⟨by kernel_rfl, rfl⟩) (by assumption) ?_
      change wpAnyH _ _ _ _ _ _ _ (Act.put _ (some 28) _) _
      (try simp only [Act.put, List.setIfInBounds_toArray, List.set_cons_zero, List.set_cons_succ])
      refine wpAnyH_take (i := 24) (v := ?v1_24) rfl (by kernel_rfl) (by kernel_rfl) (by kernel_rfl) (fun _ _ _ h => h) (Or.inl ⟨by kernel_rfl, ?y1_24⟩) (by assumption) ?r1_24
      case y1_24 => (intro W hSW; (try dsimp only at hSW); go_simp; (try with_reducible rfl))
      change wpAnyH _ _ _ _ _ _ _ (Act.put _ (some 29) _) _
      (try simp only [Act.put, List.setIfInBounds_toArray, List.set_cons_zero, List.set_cons_succ])
      refine wpAnyH_done (by kernel_rfl) ?_ _
      clear HS0 HKp
      obtain ⟨hS, _⟩ := hHeld
      have HBF := hide hS.bel
      clear hS
      go_wp2
      go_ret
      exact ⟨rfl, HBF.out⟩
    · obtain ⟨q, hq⟩ := Int.eq_ofNat_of_zero_le (show 0 ≤ (c.ports.getD n default).part by omega)
      by_cases h2 : q < c.parts.length
      · have hp : partN c (n : Int) = (q : Int) := by
          have h9 : partP c (n : Int) = some q := by
            unfold partP
            rw [Int.toNat_natCast, if_pos, hq]
            · rfl
            · refine ⟨h1, ?_⟩
              rw [hq]
              simp only [ofB, Bool.and_eq_true, decide_eq_true_eq]
              omega
          unfold partN
          rw [h9]
        rw [hp]
        rw [hq] at f0
        clear hp hq h3
        have HS0 : Hid (CfS w wa.drew c ⟨oA, oC, pA, pC, wA, wC, some ⟨pb, po, none⟩, qC, lA, lC⟩ ∧ wa.drew.cell? ⟨w.heap.size, 0, none⟩ = some (.int .i64 c.nodes) ∧ wa.drew.cell? ⟨w.heap.size, 1, none⟩ = some (.slice oA c.owners.length oC) ∧ wa.drew.cell? ⟨w.heap.size, 2, none⟩ = some (.int .i64 c.drift) ∧ wa.drew.cell? ⟨w.heap.size, 3, none⟩ = some (.int .i64 c.reading) ∧ wa.drew.cell? ⟨w.heap.size, 4, none⟩ = some (.int .i64 c.margin) ∧ wa.drew.cell? ⟨w.heap.size, 5, none⟩ = some (.int .i64 c.bound) ∧ wa.drew.cell? ⟨w.heap.size, 6, none⟩ = some (.int .i64 c.rejoin) ∧ wa.drew.cell? ⟨w.heap.size, 7, none⟩ = some (.int .i64 c.quota) ∧ wa.drew.cell? ⟨w.heap.size, 8, none⟩ = some (.slice pA c.parts.length pC) ∧ wa.drew.cell? ⟨w.heap.size, 9, none⟩ = some (.slice wA c.windows.length wC) ∧ wa.drew.cell? ⟨w.heap.size, 10, none⟩ = some (.slice (some ⟨pb, po, none⟩) c.ports.length qC) ∧ wa.drew.cell? ⟨w.heap.size, 11, none⟩ = some (.slice lA c.links.length lC) ∧ wa.drew.cell? ⟨pb, po + n * 6, none⟩ = some (.int .i64 (q : Int))) := ⟨hS.below (vdrewNx (Below.refl _ wa) 1), e0, e1, e2, e3, e4, e5, e6, e7, e8, e9, e10, e11, f0⟩
        have HLT : Hid (∀ W, CfS w W c ⟨oA, oC, pA, pC, wA, wC, some ⟨pb, po, none⟩, qC, lA, lC⟩ → pb < W.heap.size) := fun W h => Nat.lt_of_lt_of_le hpb' h.bel.size
        have HKp : Hid (∀ W W', (CfS w W c ⟨oA, oC, pA, pC, wA, wC, some ⟨pb, po, none⟩, qC, lA, lC⟩ ∧ W.cell? ⟨w.heap.size, 0, none⟩ = some (.int .i64 c.nodes) ∧ W.cell? ⟨w.heap.size, 1, none⟩ = some (.slice oA c.owners.length oC) ∧ W.cell? ⟨w.heap.size, 2, none⟩ = some (.int .i64 c.drift) ∧ W.cell? ⟨w.heap.size, 3, none⟩ = some (.int .i64 c.reading) ∧ W.cell? ⟨w.heap.size, 4, none⟩ = some (.int .i64 c.margin) ∧ W.cell? ⟨w.heap.size, 5, none⟩ = some (.int .i64 c.bound) ∧ W.cell? ⟨w.heap.size, 6, none⟩ = some (.int .i64 c.rejoin) ∧ W.cell? ⟨w.heap.size, 7, none⟩ = some (.int .i64 c.quota) ∧ W.cell? ⟨w.heap.size, 8, none⟩ = some (.slice pA c.parts.length pC) ∧ W.cell? ⟨w.heap.size, 9, none⟩ = some (.slice wA c.windows.length wC) ∧ W.cell? ⟨w.heap.size, 10, none⟩ = some (.slice (some ⟨pb, po, none⟩) c.ports.length qC) ∧ W.cell? ⟨w.heap.size, 11, none⟩ = some (.slice lA c.links.length lC) ∧ W.cell? ⟨pb, po + n * 6, none⟩ = some (.int .i64 (q : Int))) → Below W.heap.size W W' → (CfS w W' c ⟨oA, oC, pA, pC, wA, wC, some ⟨pb, po, none⟩, qC, lA, lC⟩ ∧ W'.cell? ⟨w.heap.size, 0, none⟩ = some (.int .i64 c.nodes) ∧ W'.cell? ⟨w.heap.size, 1, none⟩ = some (.slice oA c.owners.length oC) ∧ W'.cell? ⟨w.heap.size, 2, none⟩ = some (.int .i64 c.drift) ∧ W'.cell? ⟨w.heap.size, 3, none⟩ = some (.int .i64 c.reading) ∧ W'.cell? ⟨w.heap.size, 4, none⟩ = some (.int .i64 c.margin) ∧ W'.cell? ⟨w.heap.size, 5, none⟩ = some (.int .i64 c.bound) ∧ W'.cell? ⟨w.heap.size, 6, none⟩ = some (.int .i64 c.rejoin) ∧ W'.cell? ⟨w.heap.size, 7, none⟩ = some (.int .i64 c.quota) ∧ W'.cell? ⟨w.heap.size, 8, none⟩ = some (.slice pA c.parts.length pC) ∧ W'.cell? ⟨w.heap.size, 9, none⟩ = some (.slice wA c.windows.length wC) ∧ W'.cell? ⟨w.heap.size, 10, none⟩ = some (.slice (some ⟨pb, po, none⟩) c.ports.length qC) ∧ W'.cell? ⟨w.heap.size, 11, none⟩ = some (.slice lA c.links.length lC) ∧ W'.cell? ⟨pb, po + n * 6, none⟩ = some (.int .i64 (q : Int)))) := fun W W' h hb => by
          obtain ⟨_, ⟨_, x0, x1, x2, x3, x4, x5, x6, x7, x8, x9, x10, x11⟩, _, _⟩ := h.1.below hb
          obtain ⟨_, _, _, _, _, _, _, _, _, _, _, _, _, hf⟩ := id h
          exact ⟨h.1.below hb, x0, x1, x2, x3, x4, x5, x6, x7, x8, x9, x10, x11, cell_below hb (Nat.le_refl _) (HLT.out _ h.1) hf⟩
        clear h1 h1'
        clear hS e0 e1 e2 e3 e4 e5 e6 e7 e8 e9 e10 e11 f0 hb hg hc
        go_enter Tryd.func10, Tryd.ntmps10
        go_wp2_with fail
        rw [HA.out]
        clear HA
        refine wp_region_held_drew (S := fun w' => CfS w w' c ⟨oA, oC, pA, pC, wA, wC, some ⟨pb, po, none⟩, qC, lA, lC⟩ ∧ w'.cell? ⟨w.heap.size, 0, none⟩ = some (.int .i64 c.nodes) ∧ w'.cell? ⟨w.heap.size, 1, none⟩ = some (.slice oA c.owners.length oC) ∧ w'.cell? ⟨w.heap.size, 2, none⟩ = some (.int .i64 c.drift) ∧ w'.cell? ⟨w.heap.size, 3, none⟩ = some (.int .i64 c.reading) ∧ w'.cell? ⟨w.heap.size, 4, none⟩ = some (.int .i64 c.margin) ∧ w'.cell? ⟨w.heap.size, 5, none⟩ = some (.int .i64 c.bound) ∧ w'.cell? ⟨w.heap.size, 6, none⟩ = some (.int .i64 c.rejoin) ∧ w'.cell? ⟨w.heap.size, 7, none⟩ = some (.int .i64 c.quota) ∧ w'.cell? ⟨w.heap.size, 8, none⟩ = some (.slice pA c.parts.length pC) ∧ w'.cell? ⟨w.heap.size, 9, none⟩ = some (.slice wA c.windows.length wC) ∧ w'.cell? ⟨w.heap.size, 10, none⟩ = some (.slice (some ⟨pb, po, none⟩) c.ports.length qC) ∧ w'.cell? ⟨w.heap.size, 11, none⟩ = some (.slice lA c.links.length lC) ∧ w'.cell? ⟨pb, po + n * 6, none⟩ = some (.int .i64 (q : Int))) (by kernel_rfl) (by rm_keep) (fun hHeld => ?_)
        refine wpAnyH_take (i := 0) (v := ?v2_0) rfl (by kernel_rfl) (by kernel_rfl) (by kernel_rfl) (fun _ _ _ h => h) (Or.inl ⟨by kernel_rfl, ?y2_0⟩) (by assumption) ?r2_0
        case y2_0 => (intro W hSW; (try dsimp only at hSW); go_simp; (try with_reducible rfl))
        change wpAnyH _ _ _ _ _ _ _ (Act.put _ (some 5) _) _
        (try simp only [Act.put, List.setIfInBounds_toArray, List.set_cons_zero, List.set_cons_succ])
        refine wpAnyH_take (i := 1) (v := ?v2_1) rfl (by kernel_rfl) (by kernel_rfl) (by kernel_rfl) (fun _ _ _ h => h) (Or.inl ⟨by kernel_rfl, ?y2_1⟩) (by assumption) ?r2_1
        case y2_1 => (intro W hSW; (try dsimp only at hSW); go_simp; (try with_reducible rfl))
        change wpAnyH _ _ _ _ _ _ _ (Act.put _ (some 6) _) _
        (try simp only [Act.put, List.setIfInBounds_toArray, List.set_cons_zero, List.set_cons_succ])
        refine wpAnyH_ready (rs := [2]) (by kernel_rfl) (by simp) ?_
        refine AllReadyH.cons rfl (fun K hK => ?_) AllReadyH.nil
        rw [if_pos (by rfl)]
        go_simp
        refine (ris_any c ⟨oA, oC, pA, pC, wA, wC, some ⟨pb, po, none⟩, qC, lA, lC⟩ _ _ hHeld.1.cf).mono ?_
        rintro e w1 ⟨rfl, hb1⟩
        rw [H1.out]
        go_simp
        refine hK.out _ _ (by rm_keep) (fun hHeld => ?_)
        clear hK K
        (try simp only [Act.put, List.setIfInBounds_toArray, List.set_cons_zero, List.set_cons_succ])
        refine wpAnyH_take (i := 3) (v := ?v2_3) rfl (by kernel_rfl) (by kernel_rfl) (by kernel_rfl) (fun _ _ _ h => h) (Or.inl ⟨by kernel_rfl, ?y2_3⟩) (by assumption) ?r2_3
        case y2_3 => (intro W hSW; (try dsimp only at hSW); go_simp; (try with_reducible rfl))
        change wpAnyH _ _ _ _ _ _ _ (Act.put _ (some 8) _) _
        (try simp only [Act.put, List.setIfInBounds_toArray, List.set_cons_zero, List.set_cons_succ])
        refine wpAnyH_take (i := 4) (v := ?v2_4) rfl (by kernel_rfl) (by kernel_rfl) (by kernel_rfl) (fun _ _ _ h => h) (Or.inl ⟨by kernel_rfl, ?y2_4⟩) (by assumption) ?r2_4
        case y2_4 => (intro W hSW; (try dsimp only at hSW); go_simp; (try with_reducible rfl))
        change wpAnyH _ _ _ _ _ _ _ (Act.put _ (some 9) _) _
        (try simp only [Act.put, List.setIfInBounds_toArray, List.set_cons_zero, List.set_cons_succ])
        refine wpAnyH_take (i := 5) (v := ?v2_5) rfl (by kernel_rfl) (by kernel_rfl) (by kernel_rfl) (fun _ _ _ h => h) (Or.inl ⟨by kernel_rfl, ?y2_5⟩) (by assumption) ?r2_5
        case y2_5 => (intro W hSW; (try dsimp only at hSW); go_simp; (try with_reducible rfl))
        change wpAnyH _ _ _ _ _ _ _ (Act.put _ (some 10) _) _
        (try simp only [Act.put, List.setIfInBounds_toArray, List.set_cons_zero, List.set_cons_succ])
        refine wpAnyH_take (i := 6) (v := ?v2_6) rfl (by kernel_rfl) (by kernel_rfl) (by kernel_rfl) (fun _ _ _ h => h) (Or.inl ⟨by kernel_rfl, ?y2_6⟩) (by assumption) ?r2_6
        case y2_6 => (intro W hSW; (try dsimp only at hSW); go_simp; (try with_reducible rfl))
        change wpAnyH _ _ _ _ _ _ _ (Act.put _ (some 11) _) _
        (try simp only [Act.put, List.setIfInBounds_toArray, List.set_cons_zero, List.set_cons_succ])
        refine wpAnyH_take (i := 7) (v := ?v2_7) rfl (by kernel_rfl) (by kernel_rfl) (by kernel_rfl) (fun _ _ _ h => h) (Or.inl ⟨by kernel_rfl, ?y2_7⟩) (by assumption) ?r2_7
        case y2_7 => (intro W hSW; (try dsimp only at hSW); go_simp; (try with_reducible rfl))
        change wpAnyH _ _ _ _ _ _ _ (Act.put _ (some 12) _) _
        (try simp only [Act.put, List.setIfInBounds_toArray, List.set_cons_zero, List.set_cons_succ])
        refine wpAnyH_take (i := 8) (v := ?v2_8) rfl (by kernel_rfl) (by kernel_rfl) (by kernel_rfl) (fun _ _ _ h => h) (Or.inl ⟨by kernel_rfl, ?y2_8⟩) (by assumption) ?r2_8
        case y2_8 => (intro W hSW; (try dsimp only at hSW); go_simp; (try with_reducible rfl))
        change wpAnyH _ _ _ _ _ _ _ (Act.put _ (some 13) _) _
        (try simp only [Act.put, List.setIfInBounds_toArray, List.set_cons_zero, List.set_cons_succ])
        refine wpAnyH_take (i := 9) (v := ?v2_9) rfl (by kernel_rfl) (by kernel_rfl) (by kernel_rfl) (fun _ _ _ h => h) (Or.inl ⟨by kernel_rfl, ?y2_9⟩) (by assumption) ?r2_9
        case y2_9 => (intro W hSW; (try dsimp only at hSW); go_simp; (try with_reducible rfl))
        change wpAnyH _ _ _ _ _ _ _ (Act.put _ (some 14) _) _
        (try simp only [Act.put, List.setIfInBounds_toArray, List.set_cons_zero, List.set_cons_succ])
        refine wpAnyH_take (i := 10) (v := ?v2_10) rfl (by kernel_rfl) (by kernel_rfl) (by kernel_rfl) (fun _ _ _ h => h) (Or.inl ⟨by kernel_rfl, ?y2_10⟩) (by assumption) ?r2_10
        case y2_10 => (intro W hSW; (try dsimp only at hSW); go_simp; (try with_reducible rfl))
        change wpAnyH _ _ _ _ _ _ _ (Act.put _ (some 15) _) _
        (try simp only [Act.put, List.setIfInBounds_toArray, List.set_cons_zero, List.set_cons_succ])
        refine wpAnyH_take (i := 11) (v := ?v2_11) rfl (by kernel_rfl) (by kernel_rfl) (by kernel_rfl) (fun _ _ _ h => h) (Or.inl ⟨by kernel_rfl, ?y2_11⟩) (by assumption) ?r2_11
        case y2_11 => (intro W hSW; (try dsimp only at hSW); go_simp; (try with_reducible rfl))
        change wpAnyH _ _ _ _ _ _ _ (Act.put _ (some 16) _) _
        (try simp only [Act.put, List.setIfInBounds_toArray, List.set_cons_zero, List.set_cons_succ])
        refine wpAnyH_take (i := 12) (v := ?v2_12) rfl (by kernel_rfl) (by kernel_rfl) (by kernel_rfl) (fun _ _ _ h => h) (Or.inl ⟨by kernel_rfl, ?y2_12⟩) (by assumption) ?r2_12
        case y2_12 => (intro W hSW; (try dsimp only at hSW); go_simp; (try with_reducible rfl))
        change wpAnyH _ _ _ _ _ _ _ (Act.put _ (some 17) _) _
        (try simp only [Act.put, List.setIfInBounds_toArray, List.set_cons_zero, List.set_cons_succ])
        refine wpAnyH_take (i := 13) (v := ?v2_13) rfl (by kernel_rfl) (by kernel_rfl) (by kernel_rfl) (fun _ _ _ h => h) (Or.inl ⟨by kernel_rfl, ?y2_13⟩) (by assumption) ?r2_13
        case y2_13 => (intro W hSW; (try dsimp only at hSW); go_simp; (try with_reducible rfl))
        change wpAnyH _ _ _ _ _ _ _ (Act.put _ (some 18) _) _
        (try simp only [Act.put, List.setIfInBounds_toArray, List.set_cons_zero, List.set_cons_succ])
        refine wpAnyH_take (i := 14) (v := ?v2_14) rfl (by kernel_rfl) (by kernel_rfl) (by kernel_rfl) (fun _ _ _ h => h) (Or.inl ⟨by kernel_rfl, ?y2_14⟩) (by assumption) ?r2_14
        case y2_14 => (intro W hSW; (try dsimp only at hSW); go_simp; (try with_reducible rfl))
        change wpAnyH _ _ _ _ _ _ _ (Act.put _ (some 19) _) _
        (try simp only [Act.put, List.setIfInBounds_toArray, List.set_cons_zero, List.set_cons_succ])
        refine wpAnyH_take (i := 15) (v := ?v2_15) rfl (by kernel_rfl) (by kernel_rfl) (by kernel_rfl) (fun _ _ _ h => h) (Or.inl ⟨by kernel_rfl, ?y2_15⟩) (by assumption) ?r2_15
        case y2_15 => (intro W hSW; (try dsimp only at hSW); go_simp; (try with_reducible rfl))
        change wpAnyH _ _ _ _ _ _ _ (Act.put _ (some 20) _) _
        (try simp only [Act.put, List.setIfInBounds_toArray, List.set_cons_zero, List.set_cons_succ])
        refine wpAnyH_take (i := 16) (v := ?v2_16) rfl (by kernel_rfl) (by kernel_rfl) (by kernel_rfl) (fun _ _ _ h => h) (Or.inl ⟨by kernel_rfl, ?y2_16⟩) (by assumption) ?r2_16
        case y2_16 => (intro W hSW; (try dsimp only at hSW); go_simp; (try with_reducible rfl))
        change wpAnyH _ _ _ _ _ _ _ (Act.put _ (some 21) _) _
        (try simp only [Act.put, List.setIfInBounds_toArray, List.set_cons_zero, List.set_cons_succ])
        refine wpAnyH_take (i := 17) (v := ?v2_17) rfl (by kernel_rfl) (by kernel_rfl) (by kernel_rfl) (fun _ _ _ h => h) (Or.inl ⟨by kernel_rfl, ?y2_17⟩) (by assumption) ?r2_17
        case y2_17 => (intro W hSW; (try dsimp only at hSW); go_simp; (try with_reducible rfl))
        change wpAnyH _ _ _ _ _ _ _ (Act.put _ (some 22) _) _
        (try simp only [Act.put, List.setIfInBounds_toArray, List.set_cons_zero, List.set_cons_succ])
        refine wpAnyH_take (i := 18) (v := ?v2_18) rfl (by kernel_rfl) (by kernel_rfl) (by kernel_rfl) (fun _ _ _ h => h) (Or.inl ⟨by kernel_rfl, ?y2_18⟩) (by assumption) ?r2_18
        case y2_18 => (intro W hSW; (try dsimp only at hSW); go_simp; (try with_reducible rfl))
        change wpAnyH _ _ _ _ _ _ _ (Act.put _ (some 23) _) _
        (try simp only [Act.put, List.setIfInBounds_toArray, List.set_cons_zero, List.set_cons_succ])
        refine wpAnyH_take (i := 19) (v := ?v2_19) rfl (by kernel_rfl) (by kernel_rfl) (by kernel_rfl) (fun _ _ _ h => h) (Or.inl ⟨by kernel_rfl, ?y2_19⟩) (by assumption) ?r2_19
        case y2_19 => (intro W hSW; (try dsimp only at hSW); go_simp; (try with_reducible rfl))
        change wpAnyH _ _ _ _ _ _ _ (Act.put _ (some 24) _) _
        (try simp only [Act.put, List.setIfInBounds_toArray, List.set_cons_zero, List.set_cons_succ])
        refine wpAnyH_take (i := 20) (v := ?v2_20) rfl (by kernel_rfl) (by kernel_rfl) (by kernel_rfl) (fun _ _ _ h => h) (Or.inl ⟨by kernel_rfl, ?y2_20⟩) (by assumption) ?r2_20
        case y2_20 => (intro W hSW; (try dsimp only at hSW); go_simp; (try with_reducible rfl))
        change wpAnyH _ _ _ _ _ _ _ (Act.put _ (some 25) _) _
        (try simp only [Act.put, List.setIfInBounds_toArray, List.set_cons_zero, List.set_cons_succ])
        refine wpAnyH_take (i := 21) (v := ?v2_21) rfl (by kernel_rfl) (by kernel_rfl) (by kernel_rfl) (fun _ _ _ h => h) (Or.inl ⟨by kernel_rfl, ?y2_21⟩) (by assumption) ?r2_21
        case y2_21 => (intro W hSW; (try dsimp only at hSW); go_simp; (try with_reducible rfl))
        change wpAnyH _ _ _ _ _ _ _ (Act.put _ (some 26) _) _
        (try simp only [Act.put, List.setIfInBounds_toArray, List.set_cons_zero, List.set_cons_succ])
        refine wpAnyH_take (i := 22) (v := ?v2_22) rfl (by kernel_rfl) (by kernel_rfl) (by kernel_rfl) (fun _ _ _ h => h) (Or.inl ⟨by kernel_rfl, ?y2_22⟩) (by assumption) ?r2_22
        case y2_22 => (intro W hSW; (try dsimp only at hSW); go_simp; (try with_reducible rfl))
        change wpAnyH _ _ _ _ _ _ _ (Act.put _ (some 27) _) _
        (try simp only [Act.put, List.setIfInBounds_toArray, List.set_cons_zero, List.set_cons_succ])
        refine wpAnyH_take (i := 23) (v := ?v2_23) rfl (by kernel_rfl) (by kernel_rfl) (by kernel_rfl) (fun _ _ _ h => h) (Or.inl ⟨by kernel_rfl, ?y2_23⟩) (by assumption) ?r2_23
        case y2_23 => (intro W hSW; (try dsimp only at hSW); go_simp; (try with_reducible rfl))
        change wpAnyH _ _ _ _ _ _ _ (Act.put _ (some 28) _) _
        (try simp only [Act.put, List.setIfInBounds_toArray, List.set_cons_zero, List.set_cons_succ])
        refine wpAnyH_take (i := 24) (v := ?v2_24) rfl (by kernel_rfl) (by kernel_rfl) (by kernel_rfl) (fun _ _ _ h => h) (Or.inl ⟨by kernel_rfl, ?y2_24⟩) (by assumption) ?r2_24
        case y2_24 => (intro W hSW; (try dsimp only at hSW); go_simp; (try with_reducible rfl))
        change wpAnyH _ _ _ _ _ _ _ (Act.put _ (some 29) _) _
        (try simp only [Act.put, List.setIfInBounds_toArray, List.set_cons_zero, List.set_cons_succ])
        refine wpAnyH_done (by kernel_rfl) ?_ _
        clear HS0 HKp
        obtain ⟨hS, e0, e1, e2, e3, e4, e5, e6, e7, e8, e9, e10, e11, f0⟩ := hHeld
        have HBF := hide hS.bel
        clear hS
        go_wp2
        go_ret
        exact ⟨rfl, HBF.out⟩
      · have hp : partN c (n : Int) = -1 := by
          unfold partN partP
          rw [Int.toNat_natCast, if_neg]
          rw [hq]
          simp only [ofB, Bool.and_eq_true, decide_eq_true_eq]
          omega
        rw [hp]
        rw [hq] at f0
        clear hp hq h3
        have HS0 : Hid (CfS w wa.drew c ⟨oA, oC, pA, pC, wA, wC, some ⟨pb, po, none⟩, qC, lA, lC⟩ ∧ wa.drew.cell? ⟨w.heap.size, 0, none⟩ = some (.int .i64 c.nodes) ∧ wa.drew.cell? ⟨w.heap.size, 1, none⟩ = some (.slice oA c.owners.length oC) ∧ wa.drew.cell? ⟨w.heap.size, 2, none⟩ = some (.int .i64 c.drift) ∧ wa.drew.cell? ⟨w.heap.size, 3, none⟩ = some (.int .i64 c.reading) ∧ wa.drew.cell? ⟨w.heap.size, 4, none⟩ = some (.int .i64 c.margin) ∧ wa.drew.cell? ⟨w.heap.size, 5, none⟩ = some (.int .i64 c.bound) ∧ wa.drew.cell? ⟨w.heap.size, 6, none⟩ = some (.int .i64 c.rejoin) ∧ wa.drew.cell? ⟨w.heap.size, 7, none⟩ = some (.int .i64 c.quota) ∧ wa.drew.cell? ⟨w.heap.size, 8, none⟩ = some (.slice pA c.parts.length pC) ∧ wa.drew.cell? ⟨w.heap.size, 9, none⟩ = some (.slice wA c.windows.length wC) ∧ wa.drew.cell? ⟨w.heap.size, 10, none⟩ = some (.slice (some ⟨pb, po, none⟩) c.ports.length qC) ∧ wa.drew.cell? ⟨w.heap.size, 11, none⟩ = some (.slice lA c.links.length lC) ∧ wa.drew.cell? ⟨pb, po + n * 6, none⟩ = some (.int .i64 (q : Int))) := ⟨hS.below (vdrewNx (Below.refl _ wa) 1), e0, e1, e2, e3, e4, e5, e6, e7, e8, e9, e10, e11, f0⟩
        have HLT : Hid (∀ W, CfS w W c ⟨oA, oC, pA, pC, wA, wC, some ⟨pb, po, none⟩, qC, lA, lC⟩ → pb < W.heap.size) := fun W h => Nat.lt_of_lt_of_le hpb' h.bel.size
        have HKp : Hid (∀ W W', (CfS w W c ⟨oA, oC, pA, pC, wA, wC, some ⟨pb, po, none⟩, qC, lA, lC⟩ ∧ W.cell? ⟨w.heap.size, 0, none⟩ = some (.int .i64 c.nodes) ∧ W.cell? ⟨w.heap.size, 1, none⟩ = some (.slice oA c.owners.length oC) ∧ W.cell? ⟨w.heap.size, 2, none⟩ = some (.int .i64 c.drift) ∧ W.cell? ⟨w.heap.size, 3, none⟩ = some (.int .i64 c.reading) ∧ W.cell? ⟨w.heap.size, 4, none⟩ = some (.int .i64 c.margin) ∧ W.cell? ⟨w.heap.size, 5, none⟩ = some (.int .i64 c.bound) ∧ W.cell? ⟨w.heap.size, 6, none⟩ = some (.int .i64 c.rejoin) ∧ W.cell? ⟨w.heap.size, 7, none⟩ = some (.int .i64 c.quota) ∧ W.cell? ⟨w.heap.size, 8, none⟩ = some (.slice pA c.parts.length pC) ∧ W.cell? ⟨w.heap.size, 9, none⟩ = some (.slice wA c.windows.length wC) ∧ W.cell? ⟨w.heap.size, 10, none⟩ = some (.slice (some ⟨pb, po, none⟩) c.ports.length qC) ∧ W.cell? ⟨w.heap.size, 11, none⟩ = some (.slice lA c.links.length lC) ∧ W.cell? ⟨pb, po + n * 6, none⟩ = some (.int .i64 (q : Int))) → Below W.heap.size W W' → (CfS w W' c ⟨oA, oC, pA, pC, wA, wC, some ⟨pb, po, none⟩, qC, lA, lC⟩ ∧ W'.cell? ⟨w.heap.size, 0, none⟩ = some (.int .i64 c.nodes) ∧ W'.cell? ⟨w.heap.size, 1, none⟩ = some (.slice oA c.owners.length oC) ∧ W'.cell? ⟨w.heap.size, 2, none⟩ = some (.int .i64 c.drift) ∧ W'.cell? ⟨w.heap.size, 3, none⟩ = some (.int .i64 c.reading) ∧ W'.cell? ⟨w.heap.size, 4, none⟩ = some (.int .i64 c.margin) ∧ W'.cell? ⟨w.heap.size, 5, none⟩ = some (.int .i64 c.bound) ∧ W'.cell? ⟨w.heap.size, 6, none⟩ = some (.int .i64 c.rejoin) ∧ W'.cell? ⟨w.heap.size, 7, none⟩ = some (.int .i64 c.quota) ∧ W'.cell? ⟨w.heap.size, 8, none⟩ = some (.slice pA c.parts.length pC) ∧ W'.cell? ⟨w.heap.size, 9, none⟩ = some (.slice wA c.windows.length wC) ∧ W'.cell? ⟨w.heap.size, 10, none⟩ = some (.slice (some ⟨pb, po, none⟩) c.ports.length qC) ∧ W'.cell? ⟨w.heap.size, 11, none⟩ = some (.slice lA c.links.length lC) ∧ W'.cell? ⟨pb, po + n * 6, none⟩ = some (.int .i64 (q : Int)))) := fun W W' h hb => by
          obtain ⟨_, ⟨_, x0, x1, x2, x3, x4, x5, x6, x7, x8, x9, x10, x11⟩, _, _⟩ := h.1.below hb
          obtain ⟨_, _, _, _, _, _, _, _, _, _, _, _, _, hf⟩ := id h
          exact ⟨h.1.below hb, x0, x1, x2, x3, x4, x5, x6, x7, x8, x9, x10, x11, cell_below hb (Nat.le_refl _) (HLT.out _ h.1) hf⟩
        clear h1 h1'
        clear hS e0 e1 e2 e3 e4 e5 e6 e7 e8 e9 e10 e11 f0 hb hg hc
        go_enter Tryd.func10, Tryd.ntmps10
        go_wp2_with fail
        rw [HA.out]
        clear HA
        refine wp_region_held_drew (S := fun w' => CfS w w' c ⟨oA, oC, pA, pC, wA, wC, some ⟨pb, po, none⟩, qC, lA, lC⟩ ∧ w'.cell? ⟨w.heap.size, 0, none⟩ = some (.int .i64 c.nodes) ∧ w'.cell? ⟨w.heap.size, 1, none⟩ = some (.slice oA c.owners.length oC) ∧ w'.cell? ⟨w.heap.size, 2, none⟩ = some (.int .i64 c.drift) ∧ w'.cell? ⟨w.heap.size, 3, none⟩ = some (.int .i64 c.reading) ∧ w'.cell? ⟨w.heap.size, 4, none⟩ = some (.int .i64 c.margin) ∧ w'.cell? ⟨w.heap.size, 5, none⟩ = some (.int .i64 c.bound) ∧ w'.cell? ⟨w.heap.size, 6, none⟩ = some (.int .i64 c.rejoin) ∧ w'.cell? ⟨w.heap.size, 7, none⟩ = some (.int .i64 c.quota) ∧ w'.cell? ⟨w.heap.size, 8, none⟩ = some (.slice pA c.parts.length pC) ∧ w'.cell? ⟨w.heap.size, 9, none⟩ = some (.slice wA c.windows.length wC) ∧ w'.cell? ⟨w.heap.size, 10, none⟩ = some (.slice (some ⟨pb, po, none⟩) c.ports.length qC) ∧ w'.cell? ⟨w.heap.size, 11, none⟩ = some (.slice lA c.links.length lC) ∧ w'.cell? ⟨pb, po + n * 6, none⟩ = some (.int .i64 (q : Int))) (by kernel_rfl) (by rm_keep) (fun hHeld => ?_)
        refine wpAnyH_take (i := 0) (v := ?v3_0) rfl (by kernel_rfl) (by kernel_rfl) (by kernel_rfl) (fun _ _ _ h => h) (Or.inl ⟨by kernel_rfl, ?y3_0⟩) (by assumption) ?r3_0
        case y3_0 => (intro W hSW; (try dsimp only at hSW); go_simp; (try with_reducible rfl))
        change wpAnyH _ _ _ _ _ _ _ (Act.put _ (some 5) _) _
        (try simp only [Act.put, List.setIfInBounds_toArray, List.set_cons_zero, List.set_cons_succ])
        refine wpAnyH_take (i := 1) (v := ?v3_1) rfl (by kernel_rfl) (by kernel_rfl) (by kernel_rfl) (fun _ _ _ h => h) (Or.inl ⟨by kernel_rfl, ?y3_1⟩) (by assumption) ?r3_1
        case y3_1 => (intro W hSW; (try dsimp only at hSW); go_simp; (try with_reducible rfl))
        change wpAnyH _ _ _ _ _ _ _ (Act.put _ (some 6) _) _
        (try simp only [Act.put, List.setIfInBounds_toArray, List.set_cons_zero, List.set_cons_succ])
        refine wpAnyH_ready (rs := [2]) (by kernel_rfl) (by simp) ?_
        refine AllReadyH.cons rfl (fun K hK => ?_) AllReadyH.nil
        rw [if_pos (by rfl)]
        go_simp
        refine (ris_any c ⟨oA, oC, pA, pC, wA, wC, some ⟨pb, po, none⟩, qC, lA, lC⟩ _ _ hHeld.1.cf).mono ?_
        rintro e w1 ⟨rfl, hb1⟩
        rw [H1.out]
        go_simp
        refine hK.out _ _ (by rm_keep) (fun hHeld => ?_)
        clear hK K
        (try simp only [Act.put, List.setIfInBounds_toArray, List.set_cons_zero, List.set_cons_succ])
        refine wpAnyH_take (i := 3) (v := ?v3_3) rfl (by kernel_rfl) (by kernel_rfl) (by kernel_rfl) (fun _ _ _ h => h) (Or.inl ⟨by kernel_rfl, ?y3_3⟩) (by assumption) ?r3_3
        case y3_3 => (intro W hSW; (try dsimp only at hSW); go_simp; (try with_reducible rfl))
        change wpAnyH _ _ _ _ _ _ _ (Act.put _ (some 8) _) _
        (try simp only [Act.put, List.setIfInBounds_toArray, List.set_cons_zero, List.set_cons_succ])
        refine wpAnyH_take (i := 4) (v := ?v3_4) rfl (by kernel_rfl) (by kernel_rfl) (by kernel_rfl) (fun _ _ _ h => h) (Or.inl ⟨by kernel_rfl, ?y3_4⟩) (by assumption) ?r3_4
        case y3_4 => (intro W hSW; (try dsimp only at hSW); go_simp; (try with_reducible rfl))
        change wpAnyH _ _ _ _ _ _ _ (Act.put _ (some 9) _) _
        (try simp only [Act.put, List.setIfInBounds_toArray, List.set_cons_zero, List.set_cons_succ])
        refine wpAnyH_take (i := 5) (v := ?v3_5) rfl (by kernel_rfl) (by kernel_rfl) (by kernel_rfl) (fun _ _ _ h => h) (Or.inl ⟨by kernel_rfl, ?y3_5⟩) (by assumption) ?r3_5
        case y3_5 => (intro W hSW; (try dsimp only at hSW); go_simp; (try with_reducible rfl))
        change wpAnyH _ _ _ _ _ _ _ (Act.put _ (some 10) _) _
        (try simp only [Act.put, List.setIfInBounds_toArray, List.set_cons_zero, List.set_cons_succ])
        refine wpAnyH_take (i := 6) (v := ?v3_6) rfl (by kernel_rfl) (by kernel_rfl) (by kernel_rfl) (fun _ _ _ h => h) (Or.inl ⟨by kernel_rfl, ?y3_6⟩) (by assumption) ?r3_6
        case y3_6 => (intro W hSW; (try dsimp only at hSW); go_simp; (try with_reducible rfl))
        change wpAnyH _ _ _ _ _ _ _ (Act.put _ (some 11) _) _
        (try simp only [Act.put, List.setIfInBounds_toArray, List.set_cons_zero, List.set_cons_succ])
        refine wpAnyH_take (i := 7) (v := ?v3_7) rfl (by kernel_rfl) (by kernel_rfl) (by kernel_rfl) (fun _ _ _ h => h) (Or.inl ⟨by kernel_rfl, ?y3_7⟩) (by assumption) ?r3_7
        case y3_7 => (intro W hSW; (try dsimp only at hSW); go_simp; (try with_reducible rfl))
        change wpAnyH _ _ _ _ _ _ _ (Act.put _ (some 12) _) _
        (try simp only [Act.put, List.setIfInBounds_toArray, List.set_cons_zero, List.set_cons_succ])
        refine wpAnyH_take (i := 8) (v := ?v3_8) rfl (by kernel_rfl) (by kernel_rfl) (by kernel_rfl) (fun _ _ _ h => h) (Or.inl ⟨by kernel_rfl, ?y3_8⟩) (by assumption) ?r3_8
        case y3_8 => (intro W hSW; (try dsimp only at hSW); go_simp; (try with_reducible rfl))
        change wpAnyH _ _ _ _ _ _ _ (Act.put _ (some 13) _) _
        (try simp only [Act.put, List.setIfInBounds_toArray, List.set_cons_zero, List.set_cons_succ])
        refine wpAnyH_take (i := 9) (v := ?v3_9) rfl (by kernel_rfl) (by kernel_rfl) (by kernel_rfl) (fun _ _ _ h => h) (Or.inl ⟨by kernel_rfl, ?y3_9⟩) (by assumption) ?r3_9
        case y3_9 => (intro W hSW; (try dsimp only at hSW); go_simp; (try with_reducible rfl))
        change wpAnyH _ _ _ _ _ _ _ (Act.put _ (some 14) _) _
        (try simp only [Act.put, List.setIfInBounds_toArray, List.set_cons_zero, List.set_cons_succ])
        refine wpAnyH_take (i := 10) (v := ?v3_10) rfl (by kernel_rfl) (by kernel_rfl) (by kernel_rfl) (fun _ _ _ h => h) (Or.inl ⟨by kernel_rfl, ?y3_10⟩) (by assumption) ?r3_10
        case y3_10 => (intro W hSW; (try dsimp only at hSW); go_simp; (try with_reducible rfl))
        change wpAnyH _ _ _ _ _ _ _ (Act.put _ (some 15) _) _
        (try simp only [Act.put, List.setIfInBounds_toArray, List.set_cons_zero, List.set_cons_succ])
        refine wpAnyH_take (i := 11) (v := ?v3_11) rfl (by kernel_rfl) (by kernel_rfl) (by kernel_rfl) (fun _ _ _ h => h) (Or.inl ⟨by kernel_rfl, ?y3_11⟩) (by assumption) ?r3_11
        case y3_11 => (intro W hSW; (try dsimp only at hSW); go_simp; (try with_reducible rfl))
        change wpAnyH _ _ _ _ _ _ _ (Act.put _ (some 16) _) _
        (try simp only [Act.put, List.setIfInBounds_toArray, List.set_cons_zero, List.set_cons_succ])
        refine wpAnyH_take (i := 12) (v := ?v3_12) rfl (by kernel_rfl) (by kernel_rfl) (by kernel_rfl) (fun _ _ _ h => h) (Or.inl ⟨by kernel_rfl, ?y3_12⟩) (by assumption) ?r3_12
        case y3_12 => (intro W hSW; (try dsimp only at hSW); go_simp; (try with_reducible rfl))
        change wpAnyH _ _ _ _ _ _ _ (Act.put _ (some 17) _) _
        (try simp only [Act.put, List.setIfInBounds_toArray, List.set_cons_zero, List.set_cons_succ])
        refine wpAnyH_take (i := 13) (v := ?v3_13) rfl (by kernel_rfl) (by kernel_rfl) (by kernel_rfl) (fun _ _ _ h => h) (Or.inl ⟨by kernel_rfl, ?y3_13⟩) (by assumption) ?r3_13
        case y3_13 => (intro W hSW; (try dsimp only at hSW); go_simp; (try with_reducible rfl))
        change wpAnyH _ _ _ _ _ _ _ (Act.put _ (some 18) _) _
        (try simp only [Act.put, List.setIfInBounds_toArray, List.set_cons_zero, List.set_cons_succ])
        refine wpAnyH_take (i := 14) (v := ?v3_14) rfl (by kernel_rfl) (by kernel_rfl) (by kernel_rfl) (fun _ _ _ h => h) (Or.inl ⟨by kernel_rfl, ?y3_14⟩) (by assumption) ?r3_14
        case y3_14 => (intro W hSW; (try dsimp only at hSW); go_simp; (try with_reducible rfl))
        change wpAnyH _ _ _ _ _ _ _ (Act.put _ (some 19) _) _
        (try simp only [Act.put, List.setIfInBounds_toArray, List.set_cons_zero, List.set_cons_succ])
        refine wpAnyH_take (i := 15) (v := ?v3_15) rfl (by kernel_rfl) (by kernel_rfl) (by kernel_rfl) (fun _ _ _ h => h) (Or.inl ⟨by kernel_rfl, ?y3_15⟩) (by assumption) ?r3_15
        case y3_15 => (intro W hSW; (try dsimp only at hSW); go_simp; (try with_reducible rfl))
        change wpAnyH _ _ _ _ _ _ _ (Act.put _ (some 20) _) _
        (try simp only [Act.put, List.setIfInBounds_toArray, List.set_cons_zero, List.set_cons_succ])
        refine wpAnyH_take (i := 16) (v := ?v3_16) rfl (by kernel_rfl) (by kernel_rfl) (by kernel_rfl) (fun _ _ _ h => h) (Or.inl ⟨by kernel_rfl, ?y3_16⟩) (by assumption) ?r3_16
        case y3_16 => (intro W hSW; (try dsimp only at hSW); go_simp; (try with_reducible rfl))
        change wpAnyH _ _ _ _ _ _ _ (Act.put _ (some 21) _) _
        (try simp only [Act.put, List.setIfInBounds_toArray, List.set_cons_zero, List.set_cons_succ])
        refine wpAnyH_take (i := 17) (v := ?v3_17) rfl (by kernel_rfl) (by kernel_rfl) (by kernel_rfl) (fun _ _ _ h => h) (Or.inl ⟨by kernel_rfl, ?y3_17⟩) (by assumption) ?r3_17
        case y3_17 => (intro W hSW; (try dsimp only at hSW); go_simp; (try with_reducible rfl))
        change wpAnyH _ _ _ _ _ _ _ (Act.put _ (some 22) _) _
        (try simp only [Act.put, List.setIfInBounds_toArray, List.set_cons_zero, List.set_cons_succ])
        refine wpAnyH_take (i := 18) (v := ?v3_18) rfl (by kernel_rfl) (by kernel_rfl) (by kernel_rfl) (fun _ _ _ h => h) (Or.inl ⟨by kernel_rfl, ?y3_18⟩) (by assumption) ?r3_18
        case y3_18 => (intro W hSW; (try dsimp only at hSW); go_simp; (try with_reducible rfl))
        change wpAnyH _ _ _ _ _ _ _ (Act.put _ (some 23) _) _
        (try simp only [Act.put, List.setIfInBounds_toArray, List.set_cons_zero, List.set_cons_succ])
        refine wpAnyH_take (i := 19) (v := ?v3_19) rfl (by kernel_rfl) (by kernel_rfl) (by kernel_rfl) (fun _ _ _ h => h) (Or.inl ⟨by kernel_rfl, ?y3_19⟩) (by assumption) ?r3_19
        case y3_19 => (intro W hSW; (try dsimp only at hSW); go_simp; (try with_reducible rfl))
        change wpAnyH _ _ _ _ _ _ _ (Act.put _ (some 24) _) _
        (try simp only [Act.put, List.setIfInBounds_toArray, List.set_cons_zero, List.set_cons_succ])
        refine wpAnyH_take (i := 20) (v := ?v3_20) rfl (by kernel_rfl) (by kernel_rfl) (by kernel_rfl) (fun _ _ _ h => h) (Or.inl ⟨by kernel_rfl, ?y3_20⟩) (by assumption) ?r3_20
        case y3_20 => (intro W hSW; (try dsimp only at hSW); go_simp; (try with_reducible rfl))
        change wpAnyH _ _ _ _ _ _ _ (Act.put _ (some 25) _) _
        (try simp only [Act.put, List.setIfInBounds_toArray, List.set_cons_zero, List.set_cons_succ])
        refine wpAnyH_take (i := 21) (v := ?v3_21) rfl (by kernel_rfl) (by kernel_rfl) (by kernel_rfl) (fun _ _ _ h => h) (Or.inl ⟨by kernel_rfl, ?y3_21⟩) (by assumption) ?r3_21
        case y3_21 => (intro W hSW; (try dsimp only at hSW); go_simp; (try with_reducible rfl))
        change wpAnyH _ _ _ _ _ _ _ (Act.put _ (some 26) _) _
        (try simp only [Act.put, List.setIfInBounds_toArray, List.set_cons_zero, List.set_cons_succ])
        refine wpAnyH_take (i := 22) (v := ?v3_22) rfl (by kernel_rfl) (by kernel_rfl) (by kernel_rfl) (fun _ _ _ h => h) (Or.inl ⟨by kernel_rfl, ?y3_22⟩) (by assumption) ?r3_22
        case y3_22 => (intro W hSW; (try dsimp only at hSW); go_simp; (try with_reducible rfl))
        change wpAnyH _ _ _ _ _ _ _ (Act.put _ (some 27) _) _
        (try simp only [Act.put, List.setIfInBounds_toArray, List.set_cons_zero, List.set_cons_succ])
        refine wpAnyH_take (i := 23) (v := ?v3_23) rfl (by kernel_rfl) (by kernel_rfl) (by kernel_rfl) (fun _ _ _ h => h) (Or.inl ⟨by kernel_rfl, ?y3_23⟩) (by assumption) ?r3_23
        case y3_23 => (intro W hSW; (try dsimp only at hSW); go_simp; (try with_reducible rfl))
        change wpAnyH _ _ _ _ _ _ _ (Act.put _ (some 28) _) _
        (try simp only [Act.put, List.setIfInBounds_toArray, List.set_cons_zero, List.set_cons_succ])
        refine wpAnyH_take (i := 24) (v := ?v3_24) rfl (by kernel_rfl) (by kernel_rfl) (by kernel_rfl) (fun _ _ _ h => h) (Or.inl ⟨by kernel_rfl, ?y3_24⟩) (by assumption) ?r3_24
        case y3_24 => (intro W hSW; (try dsimp only at hSW); go_simp; (try with_reducible rfl))
        change wpAnyH _ _ _ _ _ _ _ (Act.put _ (some 29) _) _
        (try simp only [Act.put, List.setIfInBounds_toArray, List.set_cons_zero, List.set_cons_succ])
        refine wpAnyH_done (by kernel_rfl) ?_ _
        clear HS0 HKp
        obtain ⟨hS, _⟩ := hHeld
        have HBF := hide hS.bel
        clear hS
        go_wp2
        go_ret
        exact ⟨rfl, HBF.out⟩
  · have hp : partN c z = -1 := by
      unfold partN partP
      rw [if_neg (fun h => h1 h.1)]
    rw [hp]
    have H1 : Hid (isB c z = false) := isB_of.trans ((Bool.not_eq_true _).mp h1)
    clear hp h1 HLTw
    have HS0 : Hid (CfS w wa.drew c ⟨oA, oC, pA, pC, wA, wC, qA, qC, lA, lC⟩ ∧ wa.drew.cell? ⟨w.heap.size, 0, none⟩ = some (.int .i64 c.nodes) ∧ wa.drew.cell? ⟨w.heap.size, 1, none⟩ = some (.slice oA c.owners.length oC) ∧ wa.drew.cell? ⟨w.heap.size, 2, none⟩ = some (.int .i64 c.drift) ∧ wa.drew.cell? ⟨w.heap.size, 3, none⟩ = some (.int .i64 c.reading) ∧ wa.drew.cell? ⟨w.heap.size, 4, none⟩ = some (.int .i64 c.margin) ∧ wa.drew.cell? ⟨w.heap.size, 5, none⟩ = some (.int .i64 c.bound) ∧ wa.drew.cell? ⟨w.heap.size, 6, none⟩ = some (.int .i64 c.rejoin) ∧ wa.drew.cell? ⟨w.heap.size, 7, none⟩ = some (.int .i64 c.quota) ∧ wa.drew.cell? ⟨w.heap.size, 8, none⟩ = some (.slice pA c.parts.length pC) ∧ wa.drew.cell? ⟨w.heap.size, 9, none⟩ = some (.slice wA c.windows.length wC) ∧ wa.drew.cell? ⟨w.heap.size, 10, none⟩ = some (.slice qA c.ports.length qC) ∧ wa.drew.cell? ⟨w.heap.size, 11, none⟩ = some (.slice lA c.links.length lC)) := ⟨hS.below (vdrewNx (Below.refl _ wa) 1), e0, e1, e2, e3, e4, e5, e6, e7, e8, e9, e10, e11⟩
    have HKp : Hid (∀ W W', (CfS w W c ⟨oA, oC, pA, pC, wA, wC, qA, qC, lA, lC⟩ ∧ W.cell? ⟨w.heap.size, 0, none⟩ = some (.int .i64 c.nodes) ∧ W.cell? ⟨w.heap.size, 1, none⟩ = some (.slice oA c.owners.length oC) ∧ W.cell? ⟨w.heap.size, 2, none⟩ = some (.int .i64 c.drift) ∧ W.cell? ⟨w.heap.size, 3, none⟩ = some (.int .i64 c.reading) ∧ W.cell? ⟨w.heap.size, 4, none⟩ = some (.int .i64 c.margin) ∧ W.cell? ⟨w.heap.size, 5, none⟩ = some (.int .i64 c.bound) ∧ W.cell? ⟨w.heap.size, 6, none⟩ = some (.int .i64 c.rejoin) ∧ W.cell? ⟨w.heap.size, 7, none⟩ = some (.int .i64 c.quota) ∧ W.cell? ⟨w.heap.size, 8, none⟩ = some (.slice pA c.parts.length pC) ∧ W.cell? ⟨w.heap.size, 9, none⟩ = some (.slice wA c.windows.length wC) ∧ W.cell? ⟨w.heap.size, 10, none⟩ = some (.slice qA c.ports.length qC) ∧ W.cell? ⟨w.heap.size, 11, none⟩ = some (.slice lA c.links.length lC)) → Below W.heap.size W W' → (CfS w W' c ⟨oA, oC, pA, pC, wA, wC, qA, qC, lA, lC⟩ ∧ W'.cell? ⟨w.heap.size, 0, none⟩ = some (.int .i64 c.nodes) ∧ W'.cell? ⟨w.heap.size, 1, none⟩ = some (.slice oA c.owners.length oC) ∧ W'.cell? ⟨w.heap.size, 2, none⟩ = some (.int .i64 c.drift) ∧ W'.cell? ⟨w.heap.size, 3, none⟩ = some (.int .i64 c.reading) ∧ W'.cell? ⟨w.heap.size, 4, none⟩ = some (.int .i64 c.margin) ∧ W'.cell? ⟨w.heap.size, 5, none⟩ = some (.int .i64 c.bound) ∧ W'.cell? ⟨w.heap.size, 6, none⟩ = some (.int .i64 c.rejoin) ∧ W'.cell? ⟨w.heap.size, 7, none⟩ = some (.int .i64 c.quota) ∧ W'.cell? ⟨w.heap.size, 8, none⟩ = some (.slice pA c.parts.length pC) ∧ W'.cell? ⟨w.heap.size, 9, none⟩ = some (.slice wA c.windows.length wC) ∧ W'.cell? ⟨w.heap.size, 10, none⟩ = some (.slice qA c.ports.length qC) ∧ W'.cell? ⟨w.heap.size, 11, none⟩ = some (.slice lA c.links.length lC))) := fun W W' h hb => by
      obtain ⟨_, ⟨_, x0, x1, x2, x3, x4, x5, x6, x7, x8, x9, x10, x11⟩, _, _⟩ := h.1.below hb
      exact ⟨h.1.below hb, x0, x1, x2, x3, x4, x5, x6, x7, x8, x9, x10, x11⟩
    clear hS e0 e1 e2 e3 e4 e5 e6 e7 e8 e9 e10 e11 hb hg hc
    go_enter Tryd.func10, Tryd.ntmps10
    go_wp2_with fail
    rw [HA.out]
    clear HA
    refine wp_region_held_drew (S := fun w' => CfS w w' c ⟨oA, oC, pA, pC, wA, wC, qA, qC, lA, lC⟩ ∧ w'.cell? ⟨w.heap.size, 0, none⟩ = some (.int .i64 c.nodes) ∧ w'.cell? ⟨w.heap.size, 1, none⟩ = some (.slice oA c.owners.length oC) ∧ w'.cell? ⟨w.heap.size, 2, none⟩ = some (.int .i64 c.drift) ∧ w'.cell? ⟨w.heap.size, 3, none⟩ = some (.int .i64 c.reading) ∧ w'.cell? ⟨w.heap.size, 4, none⟩ = some (.int .i64 c.margin) ∧ w'.cell? ⟨w.heap.size, 5, none⟩ = some (.int .i64 c.bound) ∧ w'.cell? ⟨w.heap.size, 6, none⟩ = some (.int .i64 c.rejoin) ∧ w'.cell? ⟨w.heap.size, 7, none⟩ = some (.int .i64 c.quota) ∧ w'.cell? ⟨w.heap.size, 8, none⟩ = some (.slice pA c.parts.length pC) ∧ w'.cell? ⟨w.heap.size, 9, none⟩ = some (.slice wA c.windows.length wC) ∧ w'.cell? ⟨w.heap.size, 10, none⟩ = some (.slice qA c.ports.length qC) ∧ w'.cell? ⟨w.heap.size, 11, none⟩ = some (.slice lA c.links.length lC)) (by kernel_rfl) (by rm_keep) (fun hHeld => ?_)
    refine wpAnyH_take (i := 0) (v := ?v4_0) rfl (by kernel_rfl) (by kernel_rfl) (by kernel_rfl) (fun _ _ _ h => h) (Or.inl ⟨by kernel_rfl, ?y4_0⟩) (by assumption) ?r4_0
    case y4_0 => (intro W hSW; (try dsimp only at hSW); go_simp; (try with_reducible rfl))
    change wpAnyH _ _ _ _ _ _ _ (Act.put _ (some 5) _) _
    (try simp only [Act.put, List.setIfInBounds_toArray, List.set_cons_zero, List.set_cons_succ])
    refine wpAnyH_take (i := 1) (v := ?v4_1) rfl (by kernel_rfl) (by kernel_rfl) (by kernel_rfl) (fun _ _ _ h => h) (Or.inl ⟨by kernel_rfl, ?y4_1⟩) (by assumption) ?r4_1
    case y4_1 => (intro W hSW; (try dsimp only at hSW); go_simp; (try with_reducible rfl))
    change wpAnyH _ _ _ _ _ _ _ (Act.put _ (some 6) _) _
    (try simp only [Act.put, List.setIfInBounds_toArray, List.set_cons_zero, List.set_cons_succ])
    refine wpAnyH_ready (rs := [2]) (by kernel_rfl) (by simp) ?_
    refine AllReadyH.cons rfl (fun K hK => ?_) AllReadyH.nil
    rw [if_pos (by rfl)]
    go_simp
    refine (ris_any c ⟨oA, oC, pA, pC, wA, wC, qA, qC, lA, lC⟩ _ _ hHeld.1.cf).mono ?_
    rintro e w1 ⟨rfl, hb1⟩
    rw [H1.out]
    go_simp
    refine hK.out _ _ (by rm_keep) (fun hHeld => ?_)
    clear hK K
    (try simp only [Act.put, List.setIfInBounds_toArray, List.set_cons_zero, List.set_cons_succ])
    refine wpAnyH_take (i := 3) (v := ?v4_3) rfl (by kernel_rfl) (by kernel_rfl) (by kernel_rfl) (fun _ _ _ h => h) (Or.inl ⟨by kernel_rfl, ?y4_3⟩) (by assumption) ?r4_3
    case y4_3 => (intro W hSW; (try dsimp only at hSW); go_simp; (try with_reducible rfl))
    change wpAnyH _ _ _ _ _ _ _ (Act.put _ (some 8) _) _
    (try simp only [Act.put, List.setIfInBounds_toArray, List.set_cons_zero, List.set_cons_succ])
    refine wpAnyH_take (i := 4) (v := ?v4_4) rfl (by kernel_rfl) (by kernel_rfl) (by kernel_rfl) (fun _ _ _ h => h) (Or.inl ⟨by kernel_rfl, ?y4_4⟩) (by assumption) ?r4_4
    case y4_4 => (intro W hSW; (try dsimp only at hSW); go_simp; (try with_reducible rfl))
    change wpAnyH _ _ _ _ _ _ _ (Act.put _ (some 9) _) _
    (try simp only [Act.put, List.setIfInBounds_toArray, List.set_cons_zero, List.set_cons_succ])
    refine wpAnyH_take (i := 5) (v := undef) rfl (by kernel_rfl) (by kernel_rfl) (by kernel_rfl) (fun _ _ _ h => h) (Or.inr ⟨by kernel_rfl, rfl⟩) (by assumption) ?_
    change wpAnyH _ _ _ _ _ _ _ (Act.put _ (some 10) _) _
    (try simp only [Act.put, List.setIfInBounds_toArray, List.set_cons_zero, List.set_cons_succ])
    refine wpAnyH_take (i := 6) (v := undef) rfl (by kernel_rfl) (by kernel_rfl) (by kernel_rfl) (fun _ _ _ h => h) (Or.inr ⟨by kernel_rfl, rfl⟩) (by assumption) ?_
    change wpAnyH _ _ _ _ _ _ _ (Act.put _ (some 11) _) _
    (try simp only [Act.put, List.setIfInBounds_toArray, List.set_cons_zero, List.set_cons_succ])
    refine wpAnyH_take (i := 7) (v := undef) rfl (by kernel_rfl) (by kernel_rfl) (by kernel_rfl) (fun _ _ _ h => h) (Or.inr ⟨by kernel_rfl, rfl⟩) (by assumption) ?_
    change wpAnyH _ _ _ _ _ _ _ (Act.put _ (some 12) _) _
    (try simp only [Act.put, List.setIfInBounds_toArray, List.set_cons_zero, List.set_cons_succ])
    refine wpAnyH_take (i := 8) (v := undef) rfl (by kernel_rfl) (by kernel_rfl) (by kernel_rfl) (fun _ _ _ h => h) (Or.inr ⟨by kernel_rfl, rfl⟩) (by assumption) ?_
    change wpAnyH _ _ _ _ _ _ _ (Act.put _ (some 13) _) _
    (try simp only [Act.put, List.setIfInBounds_toArray, List.set_cons_zero, List.set_cons_succ])
    refine wpAnyH_take (i := 9) (v := undef) rfl (by kernel_rfl) (by kernel_rfl) (by kernel_rfl) (fun _ _ _ h => h) (Or.inr ⟨by kernel_rfl, rfl⟩) (by assumption) ?_
    change wpAnyH _ _ _ _ _ _ _ (Act.put _ (some 14) _) _
    (try simp only [Act.put, List.setIfInBounds_toArray, List.set_cons_zero, List.set_cons_succ])
    refine wpAnyH_take (i := 10) (v := undef) rfl (by kernel_rfl) (by kernel_rfl) (by kernel_rfl) (fun _ _ _ h => h) (Or.inr ⟨by kernel_rfl, rfl⟩) (by assumption) ?_
    change wpAnyH _ _ _ _ _ _ _ (Act.put _ (some 15) _) _
    (try simp only [Act.put, List.setIfInBounds_toArray, List.set_cons_zero, List.set_cons_succ])
    refine wpAnyH_take (i := 11) (v := undef) rfl (by kernel_rfl) (by kernel_rfl) (by kernel_rfl) (fun _ _ _ h => h) (Or.inr ⟨by kernel_rfl, rfl⟩) (by assumption) ?_
    change wpAnyH _ _ _ _ _ _ _ (Act.put _ (some 16) _) _
    (try simp only [Act.put, List.setIfInBounds_toArray, List.set_cons_zero, List.set_cons_succ])
    refine wpAnyH_take (i := 12) (v := ?v4_12) rfl (by kernel_rfl) (by kernel_rfl) (by kernel_rfl) (fun _ _ _ h => h) (Or.inl ⟨by kernel_rfl, ?y4_12⟩) (by assumption) ?r4_12
    case y4_12 => (intro W hSW; (try dsimp only at hSW); go_simp; (try with_reducible rfl))
    change wpAnyH _ _ _ _ _ _ _ (Act.put _ (some 17) _) _
    (try simp only [Act.put, List.setIfInBounds_toArray, List.set_cons_zero, List.set_cons_succ])
    refine wpAnyH_take (i := 13) (v := ?v4_13) rfl (by kernel_rfl) (by kernel_rfl) (by kernel_rfl) (fun _ _ _ h => h) (Or.inl ⟨by kernel_rfl, ?y4_13⟩) (by assumption) ?r4_13
    case y4_13 => (intro W hSW; (try dsimp only at hSW); go_simp; (try with_reducible rfl))
    change wpAnyH _ _ _ _ _ _ _ (Act.put _ (some 18) _) _
    (try simp only [Act.put, List.setIfInBounds_toArray, List.set_cons_zero, List.set_cons_succ])
    refine wpAnyH_take (i := 14) (v := undef) rfl (by kernel_rfl) (by kernel_rfl) (by kernel_rfl) (fun _ _ _ h => h) (Or.inr ⟨by kernel_rfl, rfl⟩) (by assumption) ?_
    change wpAnyH _ _ _ _ _ _ _ (Act.put _ (some 19) _) _
    (try simp only [Act.put, List.setIfInBounds_toArray, List.set_cons_zero, List.set_cons_succ])
    refine wpAnyH_take (i := 15) (v := undef) rfl (by kernel_rfl) (by kernel_rfl) (by kernel_rfl) (fun _ _ _ h => h) (Or.inr ⟨by kernel_rfl, rfl⟩) (by assumption) ?_
    change wpAnyH _ _ _ _ _ _ _ (Act.put _ (some 20) _) _
    (try simp only [Act.put, List.setIfInBounds_toArray, List.set_cons_zero, List.set_cons_succ])
    refine wpAnyH_take (i := 16) (v := undef) rfl (by kernel_rfl) (by kernel_rfl) (by kernel_rfl) (fun _ _ _ h => h) (Or.inr ⟨by kernel_rfl, rfl⟩) (by assumption) ?_
    change wpAnyH _ _ _ _ _ _ _ (Act.put _ (some 21) _) _
    (try simp only [Act.put, List.setIfInBounds_toArray, List.set_cons_zero, List.set_cons_succ])
    refine wpAnyH_take (i := 17) (v := undef) rfl (by kernel_rfl) (by kernel_rfl) (by kernel_rfl) (fun _ _ _ h => h) (Or.inr ⟨by kernel_rfl, rfl⟩) (by assumption) ?_
    change wpAnyH _ _ _ _ _ _ _ (Act.put _ (some 22) _) _
    (try simp only [Act.put, List.setIfInBounds_toArray, List.set_cons_zero, List.set_cons_succ])
    refine wpAnyH_take (i := 18) (v := undef) rfl (by kernel_rfl) (by kernel_rfl) (by kernel_rfl) (fun _ _ _ h => h) (Or.inr ⟨by kernel_rfl, rfl⟩) (by assumption) ?_
    change wpAnyH _ _ _ _ _ _ _ (Act.put _ (some 23) _) _
    (try simp only [Act.put, List.setIfInBounds_toArray, List.set_cons_zero, List.set_cons_succ])
    refine wpAnyH_take (i := 19) (v := undef) rfl (by kernel_rfl) (by kernel_rfl) (by kernel_rfl) (fun _ _ _ h => h) (Or.inr ⟨by kernel_rfl, rfl⟩) (by assumption) ?_
    change wpAnyH _ _ _ _ _ _ _ (Act.put _ (some 24) _) _
    (try simp only [Act.put, List.setIfInBounds_toArray, List.set_cons_zero, List.set_cons_succ])
    refine wpAnyH_take (i := 20) (v := undef) rfl (by kernel_rfl) (by kernel_rfl) (by kernel_rfl) (fun _ _ _ h => h) (Or.inr ⟨by kernel_rfl, rfl⟩) (by assumption) ?_
    change wpAnyH _ _ _ _ _ _ _ (Act.put _ (some 25) _) _
    (try simp only [Act.put, List.setIfInBounds_toArray, List.set_cons_zero, List.set_cons_succ])
    refine wpAnyH_take (i := 21) (v := undef) rfl (by kernel_rfl) (by kernel_rfl) (by kernel_rfl) (fun _ _ _ h => h) (Or.inr ⟨by kernel_rfl, rfl⟩) (by assumption) ?_
    change wpAnyH _ _ _ _ _ _ _ (Act.put _ (some 26) _) _
    (try simp only [Act.put, List.setIfInBounds_toArray, List.set_cons_zero, List.set_cons_succ])
    refine wpAnyH_take (i := 22) (v := undef) rfl (by kernel_rfl) (by kernel_rfl) (by kernel_rfl) (fun _ _ _ h => h) (Or.inr ⟨by kernel_rfl, rfl⟩) (by assumption) ?_
    change wpAnyH _ _ _ _ _ _ _ (Act.put _ (some 27) _) _
    (try simp only [Act.put, List.setIfInBounds_toArray, List.set_cons_zero, List.set_cons_succ])
    refine wpAnyH_take (i := 23) (v := undef) rfl (by kernel_rfl) (by kernel_rfl) (by kernel_rfl) (fun _ _ _ h => h) (Or.inr ⟨by kernel_rfl, rfl⟩) (by assumption) ?_
    change wpAnyH _ _ _ _ _ _ _ (Act.put _ (some 28) _) _
    (try simp only [Act.put, List.setIfInBounds_toArray, List.set_cons_zero, List.set_cons_succ])
    refine wpAnyH_take (i := 24) (v := ?v4_24) rfl (by kernel_rfl) (by kernel_rfl) (by kernel_rfl) (fun _ _ _ h => h) (Or.inl ⟨by kernel_rfl, ?y4_24⟩) (by assumption) ?r4_24
    case y4_24 => (intro W hSW; (try dsimp only at hSW); go_simp; (try with_reducible rfl))
    change wpAnyH _ _ _ _ _ _ _ (Act.put _ (some 29) _) _
    (try simp only [Act.put, List.setIfInBounds_toArray, List.set_cons_zero, List.set_cons_succ])
    refine wpAnyH_done (by kernel_rfl) ?_ _
    clear HS0 HKp
    obtain ⟨hS, _⟩ := hHeld
    have HBF := hide hS.bel
    clear hS
    go_wp2
    go_ret
    exact ⟨rfl, HBF.out⟩
end Go.Proofs.YthngjegimecaaaaDoor
