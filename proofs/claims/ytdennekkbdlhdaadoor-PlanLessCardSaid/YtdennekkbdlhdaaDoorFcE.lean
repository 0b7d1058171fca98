/-
  A region that draws, inside a round: calls of Go functions; and regions of which each operation's value is known ahead, whatever comes first.
-/
import Derived.Test.YtdennekkbdlhdaaDoorFcD
namespace Go.Proofs.YtdennekkbdlhdaaDoor
open Go.RowKit Go.Shelf
set_option linter.unusedVariables false

section
variable {ops : Array Oper} {Q : Exit → Act → World → Prop} {n0 : Nat}
/-- a call of a Go function in a round, its arguments known -/
theorem step_fnIn {ly : Nat} {i : Nat} {o : Oper} {a : Act} {C : World → Prop} {F : Nat → (Nat → Value) → World → Prop} {T : Nat → Nat} (hd : apartB ops = true) (f : Nat) (args : Array Operand) (ts : Array TypeId) (ho : o.op = .call { callee := .value (.func f), args := args, argTypes := ts })
    (hse : ∀ ρ, o.semAt (Fence.wide.inRound ly).round ρ = execOp ρ o) (eg : ∀ args w, (callFunc f args).run Tryd.prog w = .ok (.enter f args) w)
    (h : ∀ l vals W (ρ : Operand → Value), InvW .any ops C F T l vals W → l.getD i false = false → (∀ e ∈ o.after, Region.binds .any e = true → l.getD e.on false = true) →
      (∀ j k, l.getD j false = true → dstOf ops j = some k → k < a.tmps.size → j < ops.size → ρ (.tmp k) = vals j) → (∀ k, ((List.range ops.size).all fun j => !(decide (dstOf ops j = some k))) = true → ρ (.tmp k) = a.eval (.tmp k)) → (∀ c, ρ (.const c) = c) →
      ∃ vs, args.map ρ = vs ∧ Calls Tryd.prog f vs W fun e W' => ∃ r, e = .returned r ∧ C W' ∧ F i (upd vals i r) W' ∧ ∀ j, j ≠ i → T j ≠ i → (ops.size ≤ j ∨ l.getD j false = true) → l.getD (T j) false = false → F j vals W') : StepIn (Fence.wide.inRound ly) n0 Tryd.prog .any ops Q a C F T i o := by
  intro l vals W hI hi hdep
  obtain ⟨vs, hv, hcall⟩ := h l vals W (canon ops l vals a ops.size).eval hI hi hdep (fun j k h1 h2 h3 h4 => ev_get hd j k h1 h2 h3 h4) (fun k h => ev_old k h) (fun c => rfl)
  have hf : (canon ops l vals a ops.size).eval (.func f) = .func (.func f) #[] #[] := rfl
  unfold Oper.wpIn
  refine ⟨fun _ _ => trivial, ?_⟩
  rw [hse]
  generalize hact : canon ops l vals a ops.size = A at hv hf hcall ⊢
  have hx : (execOp A.eval o).run Tryd.prog W = .ok (.enter f vs) W := by
    generalize A.eval = ρ at hv hf ⊢
    simp [execOp, ho, resolve, invoke, eg, hv, hf, go_sem]
  rw [hx]
  refine ⟨fun h => (by cases h), (CallsIn.inRound ly (callsIn_wide.2 hcall)).mono ?_⟩
  intro e W' hr
  obtain ⟨r, rfl, hk⟩ := hr
  exact ⟨r, rfl, hk⟩

/-- each value is known ahead -/
def vF (Vs : List Value) (j : Nat) (vals : Nat → Value) (W : World) : Prop := match Vs[j]? with
  | some v => vals j = v
  | none => True
def vM (n j : Nat) : List Nat := if j < n then [j] else []
theorem wpIn_vals {F0 : Fence} {id : Nat} {a : Act} {w : World} (Vs : List Value) (hVs : Vs.length = ops.size) (hm : Tryd.prog.follows .mixedOrders = true) (hp : plainB .any ops = true) (hz : ops.size ≤ 1000)
    (hs : AllFrom (StepIn F0 n0 Tryd.prog .any ops Q a (Below w.heap.size w.drew) (vF Vs) (fun _ => 1000)) 0 ops.toList)
    (he : ∀ vals W, Below w.heap.size w.drew W → (∀ j v, Vs[j]? = some v → vals j = v) → Q .normal (canon ops (Array.replicate ops.size true) vals a ops.size) W) : (Code.region id ops true).wpIn F0 n0 Tryd.prog Q a w := by
  refine wpIn_region_facts (Below w.heap.size w.drew) (vF Vs) (fun _ => 1000) (vM ops.size) (fun j hj => if_neg (by omega)) (fun j k hk hne => ?_) (fun j vals vals' W h hF => ?_) hm hp (Below.refl _ _) (fun j hj => ?_) hs fun vals W hC hF => he vals W hC fun j v hv => ?_
  · unfold vM at hk
    split at hk
    · exact absurd (List.mem_singleton.1 hk) hne
    · cases hk
  · unfold vF at hF ⊢
    cases hv : Vs[j]? with
    | none => trivial
    | some v =>
      rw [hv] at hF
      have hj : j < ops.size := by
        rw [← hVs]
        exact (List.getElem?_eq_some_iff.1 hv).1
      have := h j (by unfold vM; rw [if_pos hj]; exact List.mem_singleton_self _)
      dsimp only at hF ⊢
      rw [← this]; exact hF
  · unfold vF
    rw [List.getElem?_eq_none (by omega)]
    trivial
  · have hj : j < ops.size := by
      rw [← hVs]
      exact (List.getElem?_eq_some_iff.1 hv).1
    have := hF j hj hz
    unfold vF at this
    rw [hv] at this
    exact this
theorem vals_at {Vs : List Value} {C : World → Prop} {l : Array Bool} {vals : Nat → Value} {W : World} (hI : InvW .any ops C (vF Vs) (fun _ => 1000) l vals W) (hz : ops.size ≤ 1000) {j : Nat} {v : Value} (hj : l.getD j false = true) (hv : Vs[j]? = some v) : vals j = v := by
  have := hI.fact j (.inr hj) (neverW hI hz)
  unfold vF at this
  rw [hv] at this
  exact this
theorem vF_upd {Vs : List Value} {i : Nat} {v : Value} {vals : Nat → Value} {W : World} (h : Vs[i]? = some v) : vF Vs i (upd vals i v) W := by
  unfold vF; rw [h]; simp [upd]
end
end Go.Proofs.YtdennekkbdlhdaaDoor
