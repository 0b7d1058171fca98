/-
  A region that draws, by one fact for each operation, which may speak of what those have made that it waits for.
-/
import Derived.Test.YtdennekkbdlhdaaDoorFcA
namespace Go.Proofs.YtdennekkbdlhdaaDoor
open Go.RowKit Go.Shelf
set_option linter.unusedVariables false

section
variable {md : Region.Mode} {ops : Array Oper} {Q : Exit → Act → World → Prop}
def depB (md : Region.Mode) (ops : Array Oper) (j k : Nat) : Bool := (ops[j]?).any fun o => o.after.any fun e => Region.binds md e && decide (e.on = k)
/-- what holds where the operations of l are done -/
structure InvV (md : Region.Mode) (ops : Array Oper) (C : World → Prop) (F : Nat → (Nat → Value) → World → Prop) (T : Nat → Nat) (l : Array Bool) (vals : Nat → Value) (W : World) : Prop where
  siz : l.size = ops.size
  com : C W
  fact : ∀ j, l.getD j false = true → l.getD (T j) false = false → F j vals W
  clo : ∀ j o, ops[j]? = some o → l.getD j false = true → ∀ e ∈ o.after, Region.binds md e = true → l.getD e.on false = true
/-- what waits for k has not come up ahead of it -/
theorem InvV.ahead {C : World → Prop} {F : Nat → (Nat → Value) → World → Prop} {T : Nat → Nat} {l : Array Bool} {vals : Nat → Value} {W : World} (h : InvV md ops C F T l vals W) {k : Nat} (hk : l.getD k false = false) (j : Nat)
    (hj : ((ops[j]?).any fun o => o.after.any fun e => Region.binds md e && decide (e.on = k)) = true) : l.getD j false = false := by
  rcases hl : l.getD j false with _ | _
  · rfl
  · exfalso
    rcases ho : ops[j]? with _ | o
    · rw [ho] at hj; cases hj
    · rw [ho] at hj
      obtain ⟨e, he, h2⟩ : ∃ e, e ∈ o.after ∧ (Region.binds md e && decide (e.on = k)) = true := by
        have hj : (o.after.any fun e => Region.binds md e && decide (e.on = k)) = true := hj
        rw [Array.any_eq_true] at hj
        obtain ⟨i, hi, h2⟩ := hj
        exact ⟨o.after[i], Array.getElem_mem hi, h2⟩
      rw [Bool.and_eq_true, decide_eq_true_eq] at h2
      have h3 := h.clo j o ho hl e he h2.1
      rw [h2.2, hk] at h3
      cases h3
def StepV (P : Program) (md : Region.Mode) (ops : Array Oper) (Q : Exit → Act → World → Prop) (a : Act) (C : World → Prop) (F : Nat → (Nat → Value) → World → Prop) (T : Nat → Nat) (i : Nat) (o : Oper) : Prop :=
  ∀ (l : Array Bool) (vals : Nat → Value) (W : World), InvV md ops C F T l vals W → l.getD i false = false → (∀ e ∈ o.after, Region.binds md e = true → l.getD e.on false = true) →
    o.wp P (canon ops l vals a ops.size) W (fun a' W' => ∃ v, a' = (canon ops l vals a ops.size).put o.dst v ∧ C W' ∧ F i (upd vals i v) W' ∧ ∀ j, j ≠ i → T j ≠ i → l.getD j false = true → l.getD (T j) false = false → F j vals W') Q
theorem wpAny_factsV (P : Program) {M : Nat → List Nat} (hMB : ∀ j k, k ∈ M j → k ≠ j → depB md ops j k = true) {a : Act} {C : World → Prop} {F : Nat → (Nat → Value) → World → Prop} {T : Nat → Nat} (hp : plainB md ops = true) (hM : ∀ j vals vals' W, (∀ k ∈ M j, vals k = vals' k) → F j vals W → F j vals' W) (hs : AllFrom (StepV P md ops Q a C F T) 0 ops.toList)
    (he : ∀ l vals W, InvV md ops C F T l vals W → (∀ i, i < ops.size → l.getD i false = true) → Q .normal (canon ops (Array.replicate ops.size true) vals a ops.size) W) :
    ∀ n l vals W, n + cnt l = ops.size → InvV md ops C F T l vals W → wpAny P md ops Q n l (canon ops l vals a ops.size) W := by
  obtain ⟨hd, hf⟩ := fwd_of hp
  intro n
  induction n with
  | zero =>
    intro l vals W hn hI
    have hall := cnt_all (l := l) (by rw [hI.siz]; omega)
    refine ⟨?_, ?_⟩
    · unfold Region.ready
      rw [List.filter_eq_nil_iff]
      intro i hi
      have h := hall i (by rw [hI.siz]; exact List.mem_range.1 hi)
      have h2 : l.getD i true = true := by
        have hi2 := List.mem_range.1 hi
        rw [Array.getD_eq_getD_getElem?, Array.getElem?_eq_getElem (by rw [hI.siz]; exact hi2)] at h ⊢
        simpa using h
      simp [h2]
    · have hl : l = Array.replicate ops.size true := by
        refine Array.ext (by rw [hI.siz]; simp) fun i h1 h2 => ?_
        have h := hall i h1
        rw [Array.getD_eq_getD_getElem?, Array.getElem?_eq_getElem h1] at h
        simpa using h
      rw [hI.siz] at hall
      have h3 := he l vals W hI hall
      rwa [← hl] at h3
  | succ n ih =>
    intro l vals W hn hI
    have hopen : ∃ i, i < ops.size ∧ l.getD i false = false := by
      refine Classical.byContradiction fun hx => ?_
      have : ∀ b ∈ l.toList, id b = true := by
        intro b hb
        obtain ⟨i, hi, rfl⟩ := List.getElem_of_mem hb
        rcases h2 : l.getD i false with _ | _
        · exact absurd ⟨i, by rw [← hI.siz]; simpa using hi, h2⟩ hx
        · rw [Array.getD_eq_getD_getElem?, Array.getElem?_eq_getElem (by simpa using hi)] at h2
          simpa using h2
      have h3 := List.length_filter_eq_length_iff.2 this
      have h4 := hI.siz
      simp only [cnt] at hn
      simp at h3
      omega
    obtain ⟨k, hk, hk0⟩ := hopen
    refine ⟨fun h => absurd h (least_open (fun i o h => (hf i o h).2) hI.siz hk hk0), fun i hi => ?_⟩
    unfold Region.ready at hi
    rw [List.mem_filter, Bool.and_eq_true] at hi
    obtain ⟨hir, hi1, hi2⟩ := hi
    have hilt := List.mem_range.1 hir
    obtain ⟨o, ho⟩ : ∃ o, ops[i]? = some o := ⟨_, Array.getElem?_eq_getElem hilt⟩
    have hi0 : l.getD i false = false := by
      have hil : i < l.size := by rw [hI.siz]; exact hilt
      rw [Array.getD_eq_getD_getElem?, Array.getElem?_eq_getElem hil] at hi1 ⊢
      simpa using hi1
    rw [ho] at hi2
    simp only [Option.map_some, Option.getD_some, Array.all_eq_true_iff_forall_mem] at hi2
    have hdep : ∀ e ∈ o.after, Region.binds md e = true → l.getD e.on false = true := by
      intro e he hb
      have := hi2 e he
      simpa [hb] using this
    have hst := (AllFrom.at hs (j := i) (o := o) (by simpa using ho))
    rw [Nat.zero_add] at hst
    have hst := hst l vals W hI hi0 hdep
    have hw : Region.wanted o (yielded ops (canon ops l vals a ops.size).tmps) = true := by simp [Region.wanted, (hf i o ho).1]
    unfold wpOp
    rw [ho]
    simp only [hw, if_true]
    refine .inl (Oper.wp_mono ?_ hst)
    rintro a' W' ⟨v, rfl, hC, hF, hrest⟩
    have hcs := canon_set hd (a := a) (vals := vals) (v := v) hilt hI.siz hi0 ops.size (Nat.le_refl _)
    rw [if_pos hilt] at hcs
    have hdst : dstOf ops i = o.dst := by simp [dstOf, ho]
    rw [hdst] at hcs
    rw [← hcs]
    have hil : i < l.size := by rw [hI.siz]; exact hilt
    refine ih _ _ _ (by rw [cnt_set hil hi0]; omega) ⟨by rw [Array.size_setIfInBounds]; exact hI.siz, hC, fun j hj hT => by
    rw [getD_set hil] at hj hT
    by_cases hji : j = i
    · subst hji; exact hF
    · rw [if_neg hji] at hj
      by_cases hTi : T j = i
      · rw [if_pos hTi] at hT; cases hT
      · rw [if_neg hTi] at hT
        refine hM j vals _ W' (fun k hk => ?_) (hrest j hji hTi hj hT)
        have hki : k ≠ i := by
          by_cases hkj : k = j
          · rw [hkj]; exact hji
          · rintro rfl
            have h5 := hI.ahead hi0 j (hMB j k hk hkj)
            rw [hj] at h5; cases h5
        simp [upd, hki], fun j o' ho' hj e he hb => ?_⟩
    rw [getD_set hil] at hj ⊢
    by_cases hei : e.on = i
    · rw [if_pos hei]
    · rw [if_neg hei]
      by_cases hji : j = i
      · subst hji
        obtain rfl : o = o' := by rw [ho] at ho'; injection ho'
        exact hdep e he hb
      · rw [if_neg hji] at hj
        exact hI.clo j o' ho' hj e he hb

/-- a region that draws, by its operations' facts -/
theorem wp_region_factsV {id : Nat} {a : Act} {w : World} (C : World → Prop) (F : Nat → (Nat → Value) → World → Prop) (T : Nat → Nat) (M : Nat → List Nat) (hMB : ∀ j k, k ∈ M j → k ≠ j → depB .any ops j k = true) (hM : ∀ j vals vals' W, (∀ k ∈ M j, vals k = vals' k) → F j vals W → F j vals' W) (hm : Tryd.prog.follows .mixedOrders = true) (hp : plainB .any ops = true)
    (hC : C { w with drawn := w.drawn + 1 }) (hs : AllFrom (StepV Tryd.prog .any ops Q a C F T) 0 ops.toList)
    (he : ∀ vals W, C W → (∀ j, j < ops.size → ops.size ≤ T j → F j vals W) → Q .normal (canon ops (Array.replicate ops.size true) vals a ops.size) W) : (Code.region id ops true).wp Tryd.prog Q a w := by
  refine wp_region_any hm ?_
  have hc : canon ops (Array.replicate ops.size false) (fun _ => undef) a ops.size = a := by
    have h : ∀ n, canon ops (Array.replicate ops.size false) (fun _ => undef) a n = a := by
      intro n
      induction n with
      | zero => rfl
      | succ n ih =>
        unfold canon
        rw [ih]
        by_cases hn : n < ops.size
        · simp [Array.getD_eq_getD_getElem?, hn]
        · simp [Array.getD_eq_getD_getElem?, hn]
    exact h _
  have h := wpAny_factsV (Q := Q) Tryd.prog hMB hp hM hs (fun l vals W hI hall => he vals W hI.com fun j hj hT => hI.fact j (hall j hj) (by
    rw [Array.getD_eq_getD_getElem?, Array.getElem?_eq_none (by rw [hI.siz]; exact hT)]; rfl)) ops.size (Array.replicate ops.size false) (fun _ => undef) { w with drawn := w.drawn + 1 }
    (by simp [cnt]) ⟨by simp, hC, fun j hj => by
      rw [Array.getD_eq_getD_getElem?, Array.getElem?_replicate] at hj
      split at hj <;> simp at hj, fun j o _ hj => by
      rw [Array.getD_eq_getD_getElem?, Array.getElem?_replicate] at hj
      split at hj <;> simp at hj⟩
  rwa [hc] at h
theorem step_runV {i : Nat} {o : Oper} {a : Act} {C : World → Prop} {F : Nat → (Nat → Value) → World → Prop} {T : Nat → Nat} (hd : apartB ops = true)
    (h : ∀ l vals W (ρ : Operand → Value), InvV .any ops C F T l vals W → l.getD i false = false → (∀ e ∈ o.after, Region.binds .any e = true → l.getD e.on false = true) →
      (∀ j k, l.getD j false = true → dstOf ops j = some k → k < a.tmps.size → j < ops.size → ρ (.tmp k) = vals j) → (∀ k, ((List.range ops.size).all fun j => !(decide (dstOf ops j = some k))) = true → ρ (.tmp k) = a.eval (.tmp k)) → (∀ c, ρ (.const c) = c) →
      ∃ v W', ((execOp ρ o).run Tryd.prog W = .ok (.value v) W' ∨ (v = undef ∧ (execOp ρ o).run Tryd.prog W = .ok .skip W')) ∧ C W' ∧ F i (upd vals i v) W' ∧ ∀ j, j ≠ i → T j ≠ i → l.getD j false = true → l.getD (T j) false = false → F j vals W') : StepV Tryd.prog .any ops Q a C F T i o := by
  intro l vals W hI hi hdep
  obtain ⟨v, W', hv, hC, hF, hr⟩ := h l vals W (canon ops l vals a ops.size).eval hI hi hdep (fun j k h1 h2 h3 h4 => ev_get hd j k h1 h2 h3 h4) (fun k h => ev_old k h) (fun c => rfl)
  unfold Oper.wp
  rcases hv with hv | ⟨rfl, hv⟩
  · rw [hv]; exact ⟨v, rfl, hC, hF, hr⟩
  · rw [hv]; exact ⟨undef, rfl, hC, hF, hr⟩
theorem step_isV {i : Nat} {o : Oper} {a : Act} {C : World → Prop} {F : Nat → (Nat → Value) → World → Prop} {T : Nat → Nat} (hd : apartB ops = true)
    (h : ∀ l vals W (ρ : Operand → Value), InvV .any ops C F T l vals W → l.getD i false = false → (∀ e ∈ o.after, Region.binds .any e = true → l.getD e.on false = true) →
      (∀ j k, l.getD j false = true → dstOf ops j = some k → k < a.tmps.size → j < ops.size → ρ (.tmp k) = vals j) → (∀ k, ((List.range ops.size).all fun j => !(decide (dstOf ops j = some k))) = true → ρ (.tmp k) = a.eval (.tmp k)) → (∀ c, ρ (.const c) = c) →
      ∃ v, (execOp ρ o).run Tryd.prog W = .ok (.value v) W ∧ F i (upd vals i v) W) : StepV Tryd.prog .any ops Q a C F T i o :=
  step_runV hd fun l vals W ρ hI hi hdep h1 h2 h3 => by
    obtain ⟨v, hv, hF⟩ := h l vals W ρ hI hi hdep h1 h2 h3
    exact ⟨v, W, .inl hv, hI.com, hF, fun j _ _ hj hT => hI.fact j hj hT⟩
/-- a call of a Go function, its arguments known -/
theorem step_fnV {i : Nat} {o : Oper} {a : Act} {C : World → Prop} {F : Nat → (Nat → Value) → World → Prop} {T : Nat → Nat} (hd : apartB ops = true) (f : Nat) (args : Array Operand) (ts : Array TypeId) (ho : o.op = .call { callee := .value (.func f), args := args, argTypes := ts })
    (eg : ∀ args w, (callFunc f args).run Tryd.prog w = .ok (.enter f args) w)
    (h : ∀ l vals W (ρ : Operand → Value), InvV .any ops C F T l vals W → l.getD i false = false → (∀ e ∈ o.after, Region.binds .any e = true → l.getD e.on false = true) →
      (∀ j k, l.getD j false = true → dstOf ops j = some k → k < a.tmps.size → j < ops.size → ρ (.tmp k) = vals j) → (∀ k, ((List.range ops.size).all fun j => !(decide (dstOf ops j = some k))) = true → ρ (.tmp k) = a.eval (.tmp k)) → (∀ c, ρ (.const c) = c) →
      ∃ vs, args.map ρ = vs ∧ Calls Tryd.prog f vs W fun e W' => ∃ r, e = .returned r ∧ C W' ∧ F i (upd vals i r) W' ∧ ∀ j, j ≠ i → T j ≠ i → l.getD j false = true → l.getD (T j) false = false → F j vals W') : StepV Tryd.prog .any ops Q a C F T i o := by
  intro l vals W hI hi hdep
  obtain ⟨vs, hv, hcall⟩ := h l vals W (canon ops l vals a ops.size).eval hI hi hdep (fun j k h1 h2 h3 h4 => ev_get hd j k h1 h2 h3 h4) (fun k h => ev_old k h) (fun c => rfl)
  have hf : (canon ops l vals a ops.size).eval (.func f) = .func (.func f) #[] #[] := rfl
  unfold Oper.wp
  generalize hact : canon ops l vals a ops.size = A at hv hf hcall ⊢
  have hx : (execOp A.eval o).run Tryd.prog W = .ok (.enter f vs) W := by
    generalize A.eval = ρ at hv hf ⊢
    simp [execOp, ho, resolve, invoke, eg, hv, hf, go_sem]
  rw [hx]
  refine hcall.mono fun e W' hr => ?_
  obtain ⟨r, rfl, hk⟩ := hr
  exact ⟨r, rfl, hk⟩
theorem neverV {C : World → Prop} {F : Nat → (Nat → Value) → World → Prop} {T : Nat → Nat} {l : Array Bool} {vals : Nat → Value} {W : World} (hI : InvV .any ops C F T l vals W) {k : Nat} (hs : ops.size ≤ k) : l.getD k false = false := by
  rw [Array.getD_eq_getD_getElem?, Array.getElem?_eq_none (by rw [hI.siz]; exact hs)]; rfl
end
end Go.Proofs.YtdennekkbdlhdaaDoor
