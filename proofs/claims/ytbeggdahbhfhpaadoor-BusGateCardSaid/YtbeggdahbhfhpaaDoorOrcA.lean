/-
  Atomic numbers at their word, in the run.
-/
import Derived.Test.YtbeggdahbhfhpaaDoorAtom
import Derived.Test.YtbeggdahbhfhpaaDoorEvE
namespace Go.Proofs.YtbeggdahbhfhpaaDoor
open Go.RowKit Go.Proofs.YtbeggdahbhfhpaaDoor.Ev
set_option linter.unusedVariables false
set_option linter.unusedSimpArgs false

noncomputable def addO (args : List AV) (σ : AW) : Option (AV × AW) := match args with
  | [.p r o, .i .u64 y] => (match rowOf σ r with
    | some (cs, e, op) => (match nthA cs o with
      | .i .u64 x => if 0 ≤ x ∧ 0 ≤ y ∧ x + y < 18446744073709551616 then fInt (x + y) fun z => fVs (cs.set o (.i .u64 z)) fun cs' => (match σ.put r (some (.row cs' e op)) with | some σ' => some (.i .u64 z, σ') | none => none) else none
      | _ => none)
    | none => none)
  | _ => none
noncomputable def loadO (args : List AV) (σ : AW) : Option (AV × AW) := match args with
  | [.p r o] => (match rowOf σ r with
    | some (cs, e, op) => (match nthA cs o with
      | .i .u64 x => some (.i .u64 x, σ)
      | _ => none)
    | none => none)
  | _ => none

section
variable {W : World} {θ : Nat → Ent} {σ σ' : AW} {w : World} {args : List AV} {v : AV}
theorem nthA_lt {cs : List AV} {o : Nat} {k : IntKind} {x : Int} (h : nthA cs o = .i k x) : ∃ ho : o < cs.length, cs[o] = .i k x := by
  rw [nthA_eq, List.getD_eq_getElem?_getD] at h
  rcases Nat.lt_or_ge o cs.length with ho | ho
  · exact ⟨ho, by simpa [List.getElem?_eq_getElem ho] using h⟩
  · rw [List.getElem?_eq_none ho] at h; cases h

theorem addO_ok (hR : Rel Tryd.prog W θ σ w) (hV : Vs θ σ.n args) (h : addO args σ = some (v, σ')) :
    (callFunc 98 (concs θ args).toArray).run Tryd.prog w = .ok (.enter 98 (concs θ args).toArray) w ∧ CallsIn Fence.wide 0 Tryd.prog 98 (concs θ args).toArray w (CPost Tryd.prog W θ σ w v σ') := by
  refine ⟨enter_run0 Tryd.func98 (by kernel_rfl) (by kernel_rfl) _ _, ?_⟩
  unfold addO at h
  split at h
  · rename_i r o y
    split at h
    · rename_i cs e op hrow
      split at h
      · rename_i x hx
        split at h
        · rename_i hb
          rw [fInt_eq, fVs_eq] at h
          split at h
          · rename_i σ2 hp
            cases h
            obtain ⟨ho, hx⟩ := nthA_lt hx
            obtain ⟨b1, b2, c0, fz, b3, b4, b5, b6⟩ := hR.row hrow
            have hc0 := b5 o _ (by rw [List.getElem?_eq_getElem ho])
            rw [hx] at hc0
            have hlt : o < c0.size := (Array.getElem?_eq_some_iff.1 hc0).1
            have hc : w.cell? ⟨(θ r).blk, o, none⟩ = some (.int .u64 x) := by rw [cell_at b3, hc0]; simp [conc]
            have hz : w.frozen? ⟨(θ r).blk, o, none⟩ = false := by
              simp only [World.frozen?, b3]
              rcases b4 with b4 | b4 <;> simp <;> omega
            obtain ⟨x1, rfl⟩ := Int.eq_ofNat_of_zero_le hb.1
            obtain ⟨y1, rfl⟩ := Int.eq_ofNat_of_zero_le hb.2.1
            have hlim : x1 + y1 < 18446744073709551616 := by omega
            have := uadd ⟨(θ r).blk, o, none⟩ x1 y1 w hlim hc hz
            have e1 : ((x1 : Int) + (y1 : Int)) = ((x1 + y1 : Nat) : Int) := by simp
            rw [e1] at hp ⊢
            simp only [concs, conc]
            exact orc_cell hR hrow ho (x := .i .u64 ((x1 + y1 : Nat) : Int)) (fun n => by simp [V]) rfl hp rfl (by simpa [conc] using this)
          · cases h
        · cases h
      · cases h
    · cases h
  · cases h
theorem loadO_ok (hR : Rel Tryd.prog W θ σ w) (hV : Vs θ σ.n args) (h : loadO args σ = some (v, σ')) :
    (callFunc 56 (concs θ args).toArray).run Tryd.prog w = .ok (.enter 56 (concs θ args).toArray) w ∧ CallsIn Fence.wide 0 Tryd.prog 56 (concs θ args).toArray w (CPost Tryd.prog W θ σ w v σ') := by
  refine ⟨enter_run0 Tryd.func56 (by kernel_rfl) (by kernel_rfl) _ _, ?_⟩
  unfold loadO at h
  split at h
  · rename_i r o
    split at h
    · rename_i cs e op hrow
      split at h
      · rename_i x hx
        cases h
        obtain ⟨ho, hx⟩ := nthA_lt hx
        obtain ⟨b1, b2, c0, fz, b3, b4, b5, b6⟩ := hR.row hrow
        have hc0 := b5 o _ (by rw [List.getElem?_eq_getElem ho])
        rw [hx] at hc0
        have hc : w.cell? ⟨(θ r).blk, o, none⟩ = some (.int .u64 x) := by rw [cell_at b3, hc0]; simp [conc]
        simp only [concs, conc]
        refine orc_quiet hR (u := .int .u64 x) rfl ((uload _ _ _ hc).mono ?_)
        rintro e w' ⟨rfl, rfl⟩
        exact ⟨rfl, Below.refl _ _⟩
      · cases h
    · cases h
  · cases h
end
end Go.Proofs.YtbeggdahbhfhpaaDoor
