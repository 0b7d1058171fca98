/-
  The document's own: two lists of arcs.
-/
import Derived.Test.YtmplioglihmkjaaRiC
namespace Go.Proofs.Ytmplioglihmkjaa
open Go.RowKit Go.Shelf
attribute [local go_sem] Oper.semAt_some
set_option linter.unusedVariables false
set_option linter.unusedSimpArgs false
set_option maxRecDepth 100000

set_option maxHeartbeats 4000000 in
theorem rsame_at (l : List Ai) (A B : Option Addr) (c d : Nat) (w : World) (hI : Arcs w A l) (hJ : Arcs w B l) (hlen : l.length ≤ 1000) :
    Calls Try.prog 25 #[.slice A l.length c, .slice B l.length d] w fun e w' => e = .returned (.bool true) ∧ Below w.heap.size w w' := by
  have HI := hide (fun W (h : Below w.heap.size w W) => hI.of_below h (Nat.le_refl _))
  have HJ := hide (fun W (h : Below w.heap.size w W) => hJ.of_below h (Nat.le_refl _))
  obtain ⟨N, hN⟩ : ∃ N, N = l.length := ⟨_, rfl⟩
  have HN := hide hN
  rw [← hN] at hlen ⊢
  clear hI hJ hN
  go_enter Try.func25, Try.ntmps25
  go_wp2_with fail
  go_loopw [5] (fun kv wr => ∃ k : Nat, k ≤ N ∧ kv = .int .i64 k ∧ Below w.heap.size w wr) (fun kv _ => N - (intOf kv).toNat)
  case atStart => exact ⟨0, Nat.zero_le _, rfl, Below.refl _ _⟩
  case round =>
    obtain ⟨k, hk, rfl, hb⟩ := hrel
    have HBr := hide hb
    by_cases hlt : k < N
    · have hil : k < l.length := by rw [← HN.out]; exact hlt
      obtain ⟨b, off, rfl, hbl, c0, c1⟩ := (HI.out _ (below_drew hb)).at hil
      obtain ⟨b2, off2, rfl, hbl2, d0, d1⟩ := (HJ.out _ (below_drew hb)).at hil
      generalize l.getD k (0, 0) = ar at *
      obtain ⟨F, G⟩ := ar
      dsimp only at c0 c1 d0 d1
      have HS0 : Hid ((fun w' => w'.cell? ⟨b, off + k * 2, none⟩ = some (.int .i64 F) ∧ w'.cell? ⟨b, off + k * 2 + 1, none⟩ = some (.int .i64 G) ∧ w'.cell? ⟨b2, off2 + k * 2, none⟩ = some (.int .i64 F) ∧ w'.cell? ⟨b2, off2 + k * 2 + 1, none⟩ = some (.int .i64 G) ∧ Below w.heap.size w w') wr.drew) := ⟨c0, c1, d0, d1, below_drew hb⟩
      clear hil c0 c1 d0 d1 hb
      go_wp2_with fail
      refine wp_region_held_drew (S := fun w' => w'.cell? ⟨b, off + k * 2, none⟩ = some (.int .i64 F) ∧ w'.cell? ⟨b, off + k * 2 + 1, none⟩ = some (.int .i64 G) ∧ w'.cell? ⟨b2, off2 + k * 2, none⟩ = some (.int .i64 F) ∧ w'.cell? ⟨b2, off2 + k * 2 + 1, none⟩ = some (.int .i64 G) ∧ Below w.heap.size w w') (by kernel_rfl) (HS0.out) (fun hHeld => ?_)
      refine wpAnyH_take (i := 0) (v := ?v1_0) rfl (by kernel_rfl) (by kernel_rfl) (by kernel_rfl) (fun _ _ _ h => h) (Or.inl ⟨by kernel_rfl, ?y1_0⟩) (by assumption) ?r1_0
      case y1_0 => (intro W hSW; (try dsimp only at hSW); go_simp; (try with_reducible rfl))
      change wpAnyH _ _ _ _ _ _ _ (Act.put _ (some 17) _) _
      (try simp only [Act.put, List.setIfInBounds_toArray, List.set_cons_zero, List.set_cons_succ])
      refine wpAnyH_take (i := 1) (v := ?v1_1) rfl (by kernel_rfl) (by kernel_rfl) (by kernel_rfl) (fun _ _ _ h => h) (Or.inl ⟨by kernel_rfl, ?y1_1⟩) (by assumption) ?r1_1
      case y1_1 => (intro W hSW; (try dsimp only at hSW); go_simp; (try with_reducible rfl))
      change wpAnyH _ _ _ _ _ _ _ (Act.put _ (some 18) _) _
      (try simp only [Act.put, List.setIfInBounds_toArray, List.set_cons_zero, List.set_cons_succ])
      refine wpAnyH_take (i := 2) (v := ?v1_2) rfl (by kernel_rfl) (by kernel_rfl) (by kernel_rfl) (fun _ _ _ h => h) (Or.inl ⟨by kernel_rfl, ?y1_2⟩) (by assumption) ?r1_2
      case y1_2 => (intro W hSW; (try dsimp only at hSW); go_simp; (try with_reducible rfl))
      change wpAnyH _ _ _ _ _ _ _ (Act.put _ (some 19) _) _
      (try simp only [Act.put, List.setIfInBounds_toArray, List.set_cons_zero, List.set_cons_succ])
      refine wpAnyH_take (i := 3) (v := ?v1_3) rfl (by kernel_rfl) (by kernel_rfl) (by kernel_rfl) (fun _ _ _ h => h) (Or.inl ⟨by kernel_rfl, ?y1_3⟩) (by assumption) ?r1_3
      case y1_3 => (intro W hSW; (try dsimp only at hSW); go_simp; (try with_reducible rfl))
      change wpAnyH _ _ _ _ _ _ _ (Act.put _ (some 20) _) _
      (try simp only [Act.put, List.setIfInBounds_toArray, List.set_cons_zero, List.set_cons_succ])
      refine wpAnyH_take (i := 4) (v := ?v1_4) rfl (by kernel_rfl) (by kernel_rfl) (by kernel_rfl) (fun _ _ _ h => h) (Or.inl ⟨by kernel_rfl, ?y1_4⟩) (by assumption) ?r1_4
      case y1_4 => (intro W hSW; (try dsimp only at hSW); go_simp; (try with_reducible rfl))
      change wpAnyH _ _ _ _ _ _ _ (Act.put _ (some 21) _) _
      (try simp only [Act.put, List.setIfInBounds_toArray, List.set_cons_zero, List.set_cons_succ])
      refine wpAnyH_take (i := 5) (v := ?v1_5) rfl (by kernel_rfl) (by kernel_rfl) (by kernel_rfl) (fun _ _ _ h => h) (Or.inl ⟨by kernel_rfl, ?y1_5⟩) (by assumption) ?r1_5
      case y1_5 => (intro W hSW; (try dsimp only at hSW); go_simp; (try with_reducible rfl))
      change wpAnyH _ _ _ _ _ _ _ (Act.put _ (some 22) _) _
      (try simp only [Act.put, List.setIfInBounds_toArray, List.set_cons_zero, List.set_cons_succ])
      refine wpAnyH_take (i := 6) (v := ?v1_6) rfl (by kernel_rfl) (by kernel_rfl) (by kernel_rfl) (fun _ _ _ h => h) (Or.inl ⟨by kernel_rfl, ?y1_6⟩) (by assumption) ?r1_6
      case y1_6 => (intro W hSW; (try dsimp only at hSW); go_simp; (try with_reducible rfl))
      change wpAnyH _ _ _ _ _ _ _ (Act.put _ (some 23) _) _
      (try simp only [Act.put, List.setIfInBounds_toArray, List.set_cons_zero, List.set_cons_succ])
      refine wpAnyH_take (i := 7) (v := ?v1_7) rfl (by kernel_rfl) (by kernel_rfl) (by kernel_rfl) (fun _ _ _ h => h) (Or.inl ⟨by kernel_rfl, ?y1_7⟩) (by assumption) ?r1_7
      case y1_7 => (intro W hSW; (try dsimp only at hSW); go_simp; (try with_reducible rfl))
      change wpAnyH _ _ _ _ _ _ _ (Act.put _ (some 24) _) _
      (try simp only [Act.put, List.setIfInBounds_toArray, List.set_cons_zero, List.set_cons_succ])
      refine wpAnyH_take (i := 8) (v := ?v1_8) rfl (by kernel_rfl) (by kernel_rfl) (by kernel_rfl) (fun _ _ _ h => h) (Or.inl ⟨by kernel_rfl, ?y1_8⟩) (by assumption) ?r1_8
      case y1_8 => (intro W hSW; (try dsimp only at hSW); go_simp; (try with_reducible rfl))
      change wpAnyH _ _ _ _ _ _ _ (Act.put _ (some 25) _) _
      (try simp only [Act.put, List.setIfInBounds_toArray, List.set_cons_zero, List.set_cons_succ])
      refine wpAnyH_done (by kernel_rfl) ?_ _
      obtain ⟨_, _, _, _, hbw⟩ := hHeld
      have HB2 := hide hbw
      clear HS0 hbw
      go_wp2_with fail
      exact ⟨⟨k + 1, by omega, by go_num, HB2.out⟩, by simp [intOf]; omega⟩
    · have HN2 := hide (show k = N by omega)
      go_wp2_with fail
      go_ret
      exact ⟨rfl, HBr.out⟩
end Go.Proofs.Ytmplioglihmkjaa
