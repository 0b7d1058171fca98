/-
  rotalaw10.alive, run; and at its word in a run.
-/
import Derived.Test.YtmckidepbibpgaaGreatDoorDoor
namespace Go.Proofs.YtmckidepbibpgaaGreatDoor
open Go.Proofs.YtmckidepbibpgaaGreatDoor.Ev Go.RowKit
set_option linter.unusedVariables false

theorem alive10_closed : closedO Tryz.prog known orc 5000 30 = true := by kernel_rfl
theorem alive10_any {W : World} (h : GOk known W) : Calls Tryz.prog 30 #[] W fun e w' => e = .returned (.bool true) ∧ Below W.heap.size W w' :=
  closedO_ok (orc_ok h) h alive10_closed

noncomputable def orc2 : Orc := fun f args σ => match Nat.beq f 30 with
  | true => (match args with | [] => some (.b true, σ) | _ => none)
  | false => orc f args σ
theorem orc2_ok {W : World} (hG : GOk known W) : OrcOk Tryz.prog W orc2 := by
  intro θ σ w f args v σ' hR hV h
  unfold orc2 at h
  split at h
  · rename_i hf
    obtain rfl := Nat.eq_of_beq_eq_true hf
    split at h
    · cases h
      refine ⟨enter_run0 Tryz.func30 (by kernel_rfl) (by kernel_rfl) _ _, ?_⟩
      simp only [concs]
      exact orc_quiet hR (u := .bool true) rfl (alive10_any (gok_below hG hR.bel))
    · cases h
  · exact orc_ok hG θ σ w f args v σ' hR hV h
end Go.Proofs.YtmckidepbibpgaaGreatDoor
