/-
  What a member does now, and eight steps of a sum, at their word in the run.
-/
import Derived.Test.YtmckidepbibpgaaGreatDoorMbC
import Derived.Test.YtmckidepbibpgaaGreatDoorSumO
import Derived.Test.YtmckidepbibpgaaGreatDoorEvE
namespace Go.Proofs.YtmckidepbibpgaaGreatDoor
open Go.RowKit Go.Proofs.YtmckidepbibpgaaGreatDoor.Ev
set_option linter.unusedVariables false
set_option linter.unusedSimpArgs false

def fnA (a b c : Nat) : AV := .tup [.agg [.fn a [] [], .fn b [] [], .fn c [] []], .b true]
def condA (st sl : Int) : AV :=
  if st = 2 then (if sl = -1 then .tup [.agg [.fnil, .fnil, .fnil], .b false] else fnA 252 253 254)
  else if st = 1 then (if sl = -1 then fnA 257 258 163 else fnA 255 256 163)
  else .tup [.agg [.fnil, .fnil, .fnil], .b false]
theorem condA_conc (st sl : Int) (θ : Nat → Ent) : conc θ (condA st sl) = .tuple #[(condF (st, sl != -1)).getD cvZ, .bool (condF (st, sl != -1)).isSome] := by
  unfold condA condF
  by_cases h1 : st = 2
  · subst h1
    by_cases h2 : sl = -1
    · subst h2; simp [conc, concs, cvZ]
    · simp [h2, conc, concs, fnA, cvA, cV]
  · by_cases h3 : st = 1
    · subst h3
      by_cases h2 : sl = -1
      · subst h2; simp [conc, concs, fnA, cvL, cV]
      · simp [h2, conc, concs, fnA, cvF, cV]
    · simp [h1, h3, conc, concs, cvZ]
theorem condA_V (st sl : Int) (θ : Nat → Ent) (n : Nat) : V θ n (condA st sl) := by
  unfold condA fnA
  split
  · split <;> simp [V, Vs]
  · split
    · split <;> simp [V, Vs]
    · simp [V, Vs]
section
variable {W : World} {θ : Nat → Ent} {σ σ' : AW} {w : World} {args : List AV} {v : AV}
theorem orc_quiet2 {P : Program} (hR : Rel P W θ σ w) {f : FuncId} {args : Array Value} {v : AV} {u : Value} (hv : conc θ v = u) (hV : V θ σ.n v) (hc : Calls P f args w fun e w' => e = .returned u ∧ Below w.heap.size w w') :
    CallsIn Fence.wide 0 P f args w (CPost P W θ σ w v σ) := by
  refine callsIn_wide.2 (hc.mono ?_)
  rintro e w' ⟨rfl, hb⟩
  obtain ⟨a, b⟩ := hR.below hb
  exact ⟨θ, by rw [hv], a, b, hV⟩

noncomputable def conductO (args : List AV) (σ : AW) : Option (AV × AW) := match args with
  | [.p r 0] => (match rowOf σ r with
    | some (cs, e, op) => (match nthA cs 0, nthA cs 14, nthA cs 15 with
      | .p r' 0, .i .i64 st, .i .i64 sl => if r' = r then fInt st fun st => fInt sl fun sl => fV1 (condA st sl) fun v => some (v, σ) else none
      | _, _, _ => none)
    | none => none)
  | [.pn] => some (.tup [.agg [.fnil, .fnil, .fnil], .b false], σ)
  | _ => none
theorem nthA_at {cs : List AV} {o : Nat} {v : AV} (h : nthA cs o = v) (hv : v ≠ .tup []) : cs[o]? = some v := by
  rw [nthA_eq, List.getD_eq_getElem?_getD] at h
  rcases Nat.lt_or_ge o cs.length with ho | ho
  · rw [List.getElem?_eq_getElem ho] at h ⊢; exact congrArg some h
  · rw [List.getElem?_eq_none ho] at h; exact absurd h.symm (by simpa using hv)
theorem conductO_ok (hR : Rel Tryz.prog W θ σ w) (hV : Vs θ σ.n args) (h : conductO args σ = some (v, σ')) :
    (callFunc 152 (concs θ args).toArray).run Tryz.prog w = .ok (.enter 152 (concs θ args).toArray) w ∧ CallsIn Fence.wide 0 Tryz.prog 152 (concs θ args).toArray w (CPost Tryz.prog W θ σ w v σ') := by
  refine ⟨enter_run0 Tryz.func152 (by kernel_rfl) (by kernel_rfl) _ _, ?_⟩
  unfold conductO at h
  split at h
  · rename_i r
    split at h
    · rename_i cs e op hrow
      split at h
      · rename_i r' st sl h0 h14 h15
        split at h
        · rename_i hr
          subst hr
          rw [fInt_eq, fInt_eq, fV1_eq] at h
          cases h
          obtain ⟨b1, b2, c0, fz, b3, b4, b5, b6⟩ := hR.row hrow
          have g0 := b5 0 _ (nthA_at h0 (by intro e; cases e))
          have g14 := b5 14 _ (nthA_at h14 (by intro e; cases e))
          have g15 := b5 15 _ (nthA_at h15 (by intro e; cases e))
          have hM : MbM w (θ r').blk st sl := ⟨(Array.getElem?_eq_some_iff.1 b3).1, by rw [cellOf b3, g0]; simp [conc], by rw [cellOf b3, g14]; simp [conc], by rw [cellOf b3, g15]; simp [conc]⟩
          have := conduct_at _ _ _ w hM
          simp only [concs, conc]
          exact orc_quiet2 hR (condA_conc st sl θ) (condA_V st sl θ _) this
        · cases h
      · cases h
    · cases h
  · cases h
    have := conduct_nil w
    simp only [concs, conc]
    exact orc_quiet2 hR (by simp [conc, concs, cvZ]) (by simp [V, Vs]) this
  · cases h

/-- eight steps, reckoned -/
noncomputable def stepN (n : Nat) : Nat := Nat.xor (n / 2) (Nat.mul 3988292384 (n % 2))
theorem stepN_eq (n : Nat) : stepN n = SumMath.step n := by
  unfold stepN SumMath.step
  show (n / 2) ^^^ (3988292384 * (n % 2)) = _
  rcases Nat.mod_two_eq_zero_or_one n with h | h <;> rw [h] <;> simp
noncomputable def eightN (n : Nat) : Nat := stepN (stepN (stepN (stepN (stepN (stepN (stepN (stepN n)))))))
theorem eightN_eq (n : Nat) : eightN n = SumMath.steps 8 n := by
  unfold eightN
  simp only [stepN_eq]
  rfl
noncomputable def eightO (args : List AV) (σ : AW) : Option (AV × AW) := match args with
  | [.i .u32 (.ofNat n)] => if n < 4294967296 then fNat (eightN n) fun z => some (.i .u32 (.ofNat z), σ) else none
  | _ => none
theorem eightO_ok (hR : Rel Tryz.prog W θ σ w) (hV : Vs θ σ.n args) (h : eightO args σ = some (v, σ')) :
    (callFunc 215 (concs θ args).toArray).run Tryz.prog w = .ok (.enter 215 (concs θ args).toArray) w ∧ CallsIn Fence.wide 0 Tryz.prog 215 (concs θ args).toArray w (CPost Tryz.prog W θ σ w v σ') := by
  refine ⟨enter_run0 Tryz.func215 (by kernel_rfl) (by kernel_rfl) _ _, ?_⟩
  unfold eightO at h
  split at h
  · rename_i n
    split at h
    · rename_i hn
      rw [fNat_eq, eightN_eq] at h
      cases h
      have := oeight_any n w hn
      simp only [concs, conc]
      refine orc_quiet hR (u := .int .u32 ((SumMath.steps 8 n : Nat) : Int)) rfl (this.mono ?_)
      rintro e w' ⟨rfl, rfl⟩
      exact ⟨rfl, Below.refl _ _⟩
    · cases h
  · cases h
end
end Go.Proofs.YtmckidepbibpgaaGreatDoor
