/-
  What the run tells is what the model does: operations in a row, calls.
-/
import Derived.Test.YtdennekkbdlhdaaDoorEvC
import Derived.TacticsIn
import Derived.RangeFuncCalls
namespace Go.Proofs.YtdennekkbdlhdaaDoor.Ev
open Go.RowKit
set_option linter.unusedVariables false
set_option linter.unusedSimpArgs false

def mark (θ : Nat → Ent) : Mk → Deferred
  | .c r => { target := .collected (θ r).blk, args := #[] }
  | .f g args captured => { target := .fn (.func g) (concs θ captured).toArray, args := (concs θ args).toArray }
def marks (θ : Nat → Ent) (d : List Mk) : List Deferred := d.map (mark θ)
def MkV (θ : Nat → Ent) (n : Nat) : Mk → Prop
  | .c r => r < n
  | .f _ args captured => Vs θ n args ∧ Vs θ n captured
def DV (θ : Nat → Ent) (n : Nat) (d : List Mk) : Prop := ∀ m ∈ d, MkV θ n m
theorem DV_ext {θ θ' : Nat → Ent} {n n' : Nat} {d : List Mk} (h : ∀ r, r < n → θ' r = θ r) (hn : n ≤ n') (hd : DV θ n d) : DV θ' n' d := fun m hm => by
  have := hd m hm
  cases m with
  | c r => exact Nat.lt_of_lt_of_le this hn
  | f g args captured => exact ⟨Vs_ext h hn args this.1, Vs_ext h hn captured this.2⟩
theorem DV_nil {θ : Nat → Ent} {n : Nat} : DV θ n [] := fun m hm => by simp at hm
def actOf (θ : Nat → Ent) (t : List AV) (d : List Mk) : Act := { tmps := (concs θ t).toArray, defers := marks θ d }

/-- a fence that lets all in, in a round or in none -/
def fen (θ : Nat → Ent) : Option Nat → Fence
  | none => Fence.wide
  | some l => Fence.wide.inRound (θ l).blk
theorem fen_fn (θ : Nat → Ent) (ro : Option Nat) (f : FuncId) : (fen θ ro).fn f := by cases ro <;> exact trivial
theorem fen_depth (θ : Nat → Ent) (ro : Option Nat) : (fen θ ro).depth = none := by cases ro <;> rfl

section
variable {P : Program} {W : World} {G : List (Nat × List AV)} {θ : Nat → Ent} {σ σ' : AW} {w w' : World} {t t' : List AV} {d : List Mk}

theorem marks_ext {θ θ' : Nat → Ent} {n : Nat} (h : ∀ r, r < n → θ' r = θ r) (hd : DV θ n d) : marks θ' d = marks θ d := by
  unfold marks
  refine List.map_congr_left fun m hm => ?_
  have := hd m hm
  cases m with
  | c r => simp only [mark]; rw [h r this]
  | f g args captured => simp only [mark]; rw [concs_ext h args this.1, concs_ext h captured this.2]
theorem actOf_ext {θ θ' : Nat → Ent} {n : Nat} (h : ∀ r, r < n → θ' r = θ r) (ht : Vs θ n t) (hd : DV θ n d) : actOf θ' t d = actOf θ t d := by
  unfold actOf
  rw [concs_ext h t ht, marks_ext h hd]

def putL (t : List AV) (dst : Option Tmp) (v : AV) : List AV := match dst with | some k => t.set k v | none => t
theorem putT_some {dst : Option Tmp} {v : AV} (h : putT t dst v = some t') : t' = putL t dst v := by
  cases dst with
  | none => simp only [putT] at h; cases h; rfl
  | some k => simp only [putT, fV_eq, putK_eq] at h; cases h; rfl
theorem put_act {dst : Option Tmp} {v : AV} (h : putT t dst v = some t') : (actOf θ t d).put dst (conc θ v) = actOf θ t' d := by
  rw [putT_some h]
  cases dst with
  | none => rfl
  | some k =>
    simp only [Act.put, actOf, putL]
    congr 1
    rw [concs_map, concs_map, List.map_set]
    simp
theorem put_V {n : Nat} {dst : Option Tmp} {v : AV} (h : putT t dst v = some t') (hV : Vs θ n t) (hv : V θ n v) : Vs θ n t' := by
  rw [putT_some h]
  cases dst with
  | none => exact hV
  | some k =>
    refine Vs_iff.2 fun u hu => ?_
    rcases List.mem_or_eq_of_mem_set hu with hu | rfl
    · exact Vs_iff.1 hV u hu
    · exact hv
theorem undef_conc : conc θ (.tup []) = undef := by simp [conc, concs, undef]

theorem yieldedA_eq (ops : Array Oper) (t : List AV) (j : Nat) : yieldedA ops t j = (match ((ops[j]?).bind (·.dst)).bind (t[·]?) with | some (.b b) => some b | _ => none) := by
  unfold yieldedA
  cases ops[j]? with
  | none => rfl
  | some o =>
    simp only [Option.bind_some]
    cases o.dst with
    | none => rfl
    | some d =>
      simp only [Option.bind_some, nthA_eq, List.getD_eq_getElem?_getD]
      cases t[d]? with
      | none => rfl
      | some v => cases v <;> rfl
theorem yielded_act (ops : Array Oper) : yielded ops (actOf θ t d).tmps = yieldedA ops t := by
  funext j
  rw [yieldedA_eq]
  unfold yielded
  cases h : (ops[j]?).bind (·.dst) with
  | none => rfl
  | some k =>
    simp only [Option.bind_some, actOf, List.getElem?_toArray, concs_map, List.getElem?_map]
    cases hk : t[k]? with
    | none => rfl
    | some v => cases v <;> simp [conc]

/-- what a part of the run leaves -/
def Post (P : Program) (W : World) (θ : Nat → Ent) (σ : AW) (w : World) (K : KC) : Exit → Act → World → Prop := fun e a w' =>
  ∃ θ' t' d' σ', K e t' d' σ' = true ∧ Rel P W θ' σ' w' ∧ Mv θ σ w θ' σ' w' ∧ Vs θ' σ'.n t' ∧ DV θ' σ'.n d' ∧ a = actOf θ' t' d'
/-- what a region leaves -/
def PostN (P : Program) (W : World) (θ : Nat → Ent) (σ : AW) (w : World) (d : List Mk) (K : KO) : Exit → Act → World → Prop := fun e a w' =>
  e = .normal ∧ ∃ θ' t' σ', K t' σ' = true ∧ Rel P W θ' σ' w' ∧ Mv θ σ w θ' σ' w' ∧ Vs θ' σ'.n t' ∧ DV θ' σ'.n d ∧ a = actOf θ' t' d
/-- what a call leaves -/
def CPostK (P : Program) (W : World) (θ : Nat → Ent) (σ : AW) (w : World) (K : KV) : Ending → World → Prop := fun e w' =>
  ∃ θ' v σ', K v σ' = true ∧ e = .returned (conc θ' v) ∧ Rel P W θ' σ' w' ∧ Mv θ σ w θ' σ' w' ∧ V θ' σ'.n v

theorem Post.after {θ1 : Nat → Ent} {σ1 : AW} {w1 : World} {K : KC} (h : Mv θ σ w θ1 σ1 w1) {e : Exit} {a : Act} {w' : World} (hp : Post P W θ1 σ1 w1 K e a w') : Post P W θ σ w K e a w' := by
  obtain ⟨θ', t', d', σ', hk, h1, h2, h3⟩ := hp
  exact ⟨θ', t', d', σ', hk, h1, h.trans h2, h3⟩

structure FnsOk (P : Program) (W : World) (m : Nat) (F : Fns) : Prop where
  code : ∀ (ro : Option Nat) (θ : Nat → Ent) (σ : AW) (w : World) (c : Code) (t : List AV) (d : List Mk) (K : KC), Rel P W θ σ w → Vs θ σ.n t → DV θ σ.n d → (∀ l, ro = some l → l < σ.n) →
    F.code ro c t d σ K = true → c.wpIn (fen θ ro) 0 P (Post P W θ σ w K) (actOf θ t d) w
  loop : ∀ (ro : Option Nat) (θ : Nat → Ent) (σ : AW) (w : World) (c : Code) (t : List AV) (d : List Mk) (K : KC), Rel P W θ σ w → Vs θ σ.n t → DV θ σ.n d → (∀ l, ro = some l → l < σ.n) →
    F.loop ro c t d σ K = true → Code.roundsIn (fen θ ro) 0 P c (Post P W θ σ w K) m (actOf θ t d) w
  call : ∀ (θ : Nat → Ent) (σ : AW) (w : World) (f : FuncId) (args : List AV) (K : KV), Rel P W θ σ w → Vs θ σ.n args → F.call f args σ K = true →
    (callFunc f (concs θ args).toArray).run P w = .ok (.enter f (concs θ args).toArray) w ∧ CallsIn Fence.wide 0 P f (concs θ args).toArray w (CPostK P W θ σ w K)
  round : ∀ (θ : Nat → Ent) (σ : AW) (w : World) (l : Nat) (args : List AV) (K : KV), Rel P W θ σ w → l < σ.n → Vs θ σ.n args → F.round l args σ K = true →
    ∃ f tmps asg body, (Instr.yield (θ l).blk (concs θ args).toArray).run P w = .ok (.round (θ l).blk f tmps asg body) w ∧ RoundIn Fence.wide 0 P (θ l).blk f tmps asg body w (CPostK P W θ σ w K)

theorem callsIn_fen {ro : Option Nat} {f : FuncId} {args : Array Value} {R : Ending → World → Prop} {n : Nat} (h : CallsIn Fence.wide n P f args w R) : CallsIn (fen θ ro) n P f args w R := by
  cases ro with
  | none => exact h
  | some l => exact CallsIn.inRound (θ l).blk h
theorem roundIn_fen {ro : Option Nat} {l f : Nat} {tmps : Array Value} {asg body : Code} {R : Ending → World → Prop} {n : Nat} (h : RoundIn Fence.wide n P l f tmps asg body w R) : RoundIn (fen θ ro) n P l f tmps asg body w R := by
  cases ro with
  | none => exact h
  | some k => exact h

theorem still_noDefer {o : Oper} {v : AV} (h : stillOp P G o t σ = some v) : ∀ c, o.op ≠ .defer c := by
  intro c hc
  unfold stillOp at h
  rw [hc] at h
  simp only at h
  unfold pureOp at h
  rw [hc] at h
  split at h <;> cases h
theorem more_noDefer {o : Oper} {x : AN × AW} (h : moreOp P o t σ = some x) : ∀ c, o.op ≠ .defer c := by
  intro c hc
  unfold moreOp at h
  rw [hc] at h
  split at h <;> cases h

theorem still_ok (hG : GOk G W) (hR : Rel P W θ σ w) (hV : Vs θ σ.n t) {o : Oper} {v : AV} {ds : List Deferred} (h : stillOp P G o t σ = some v) :
    V θ σ.n v ∧ (execOp (Act.eval ⟨(concs θ t).toArray, ds⟩) o).run P w = .ok (.value (conc θ v)) w := by
  unfold stillOp at h
  split at h
  · rename_i ty a ho
    split at h
    · rename_i ha
      obtain ⟨h1, h2⟩ := loadOp_ok hG hR h
      refine ⟨h1, ?_⟩
      obtain ⟨dst, op, ty', pos, after, guard⟩ := o
      simp only at ho
      subst ho
      simp only [execOp, eval_conc ha]
      rw [Sem.run_bind, h2]
      rfl
    · cases h
  · obtain ⟨h1, h2⟩ := pure_ok (θ := θ) (ds := ds) hV h
    exact ⟨h1, h2 w⟩

theorem next_noDefer {o : Oper} {q : KV → Bool} (h : nextK o t σ = some q) : ∀ c, o.op ≠ .defer c := by
  intro c hc
  unfold nextK at h
  rw [hc] at h
  cases h

theorem nextGo_mem {r m since clk : Nat} {seen : List Nat} {K : KV} {e : AV × AV} {b : Nat} : ∀ {l : List ((AV × AV) × Nat)}, nextGo σ r m since seen clk K l = true → (e, b) ∈ l → ∃ σ', σ.put r (some (.iter (some m) since (seen ++ [b]) clk)) = some σ' ∧ K (.tup [.b true, e.1, e.2]) σ' = true := by
  intro l
  induction l with
  | nil => intro _ h; cases h
  | cons x l ih =>
    intro h hm
    obtain ⟨e', b'⟩ := x
    simp only [nextGo, Bool.and_eq_true, fLs_eq] at h
    rcases List.mem_cons.1 hm with hx | hm
    · cases hx
      have h := h.1
      split at h
      · rename_i σ' hσ; exact ⟨σ', hσ, h⟩
      · cases h
    · exact ih h.2 hm

theorem nextK_ok (hR : Rel P W θ σ w) {o : Oper} {q : KV → Bool} {K : KV} {ds : List Deferred} (h : nextK o t σ = some q) (hK : q K = true) :
    ∃ v σ' w', K v σ' = true ∧ Rel P W θ σ' w' ∧ Mv θ σ w θ σ' w' ∧ V θ σ'.n v ∧ (execOp (Act.eval ⟨(concs θ t).toArray, ds⟩) o).run P w = .ok (.value (conc θ v)) w' := by
  unfold nextK at h
  split at h
  · rename_i x isS ho
    split at h
    · rename_i hx
      obtain ⟨dst, op, ty, pos, after, guard⟩ := o
      simp only at ho
      subst ho
      have e1 : Act.eval ⟨(concs θ t).toArray, ds⟩ x = conc θ (ev t x) := eval_conc hx
      split at h
      · rename_i hn
        cases h
        rcases nextM_ok (ty := ty) hR hn with ⟨_, hr⟩ | ⟨e, b, hm, _⟩
        · exact ⟨_, σ, w, hK, hR, Mv.refl (P := P) (W := W), by simp [V, Vs], by simp [execOp, e1, hr]⟩
        · cases hm
      · rename_i r m since seen clk e l hn
        cases h
        rcases nextM_ok (ty := ty) hR hn with ⟨h0, _⟩ | ⟨e', b, hm, hr⟩
        · cases h0
        · obtain ⟨σ', hσ, hk⟩ := nextGo_mem hK hm
          obtain ⟨w', a1, a2, a3, a4⟩ := hr σ' hσ
          exact ⟨_, σ', w', hk, a1, a2, a3, by simp [execOp, e1, a4]⟩
      · cases h
    · cases h
  · cases h

theorem putK'_some {dst : Option Tmp} {v : AV} {K : List AV → Bool} (h : putK' t dst v K = true) : ∃ t', putT t dst v = some t' ∧ K t' = true := by
  unfold putK' at h
  split at h
  · rename_i t' hp; exact ⟨t', hp, h⟩
  · cases h

theorem one_ok {F : Fns} {m : Nat} (hF : FnsOk P W m F) (hG : GOk G W) (hR : Rel P W θ σ w) (hV : Vs θ σ.n t) (hd : DV θ σ.n d) {o : Oper} (ro : Option Nat) {K : KO} (h : oneOp P G F o t σ K = true) {next : Act → World → Prop} {Q : Exit → Act → World → Prop}
    (hn : ∀ θ' w' t' σ', K t' σ' = true → Rel P W θ' σ' w' → Mv θ σ w θ' σ' w' → Vs θ' σ'.n t' → next (actOf θ' t' d) w') : o.wpIn (fen θ ro) 0 P (actOf θ t d) w next Q := by
  refine ⟨fun f _ => fen_fn θ ro f, ?_⟩
  unfold oneOp at h
  split at h
  · rename_i v hs
    rw [Oper.semAt_eq _ _ _ (still_noDefer hs)]
    obtain ⟨h1, h2⟩ := still_ok (ds := marks θ d) hG hR hV hs
    obtain ⟨t2, hp, hk⟩ := putK'_some h
    have h2 : (execOp (actOf θ t d).eval o).run P w = _ := h2
    rw [h2]
    simp only [Oper.uponIn]
    rw [put_act hp]
    exact hn θ w t2 σ hk hR (Mv.refl (P := P) (W := W)) (put_V hp hV h1)
  · unfold doMore at h
    have fin : ∀ θ' w' σ' (v : AV), (putK' t o.dst v fun t => K t σ') = true → Rel P W θ' σ' w' → Mv θ σ w θ' σ' w' → V θ' σ'.n v → next ((actOf θ t d).put o.dst (conc θ' v)) w' := fun θ' w' σ' v hq a b c => by
      obtain ⟨t2, hp, hk⟩ := putK'_some hq
      rw [← actOf_ext b.ext hV hd, put_act hp]
      exact hn θ' w' t2 σ' hk a b (put_V hp (Vs_ext b.ext b.n t hV) c)
    split at h
    · rename_i v2 σ3 hmo
      rw [Oper.semAt_eq _ _ _ (more_noDefer hmo)]
      obtain ⟨θ', w', a, b, c1, c2⟩ := more_ok (ds := marks θ d) hR hV hmo
      have c2 : (execOp (actOf θ t d).eval o).run P w = _ := c2
      rw [c2]
      exact fin θ' w' σ3 _ h a b c1
    · rename_i σ3 hmo
      rw [Oper.semAt_eq _ _ _ (more_noDefer hmo)]
      obtain ⟨θ', w', a, b, c⟩ := more_ok (ds := marks θ d) hR hV hmo
      have c : (execOp (actOf θ t d).eval o).run P w = _ := c
      rw [c]
      simp only [Oper.uponIn]
      rw [← undef_conc (θ := θ')]
      exact fin θ' w' σ3 _ h a b (by simp [V, Vs])
    · rename_i f args σ3 hmo
      rw [Oper.semAt_eq _ _ _ (more_noDefer hmo)]
      obtain ⟨θ', w', a, b, e1, e2, hva, c⟩ := more_ok (ds := marks θ d) hR hV hmo
      have c : (execOp (actOf θ t d).eval o).run P w = _ := c
      subst e1 e2
      obtain ⟨k1, k2⟩ := hF.call θ' σ3 w' f args _ a hva h
      rw [c, k1]
      simp only [Oper.uponIn]
      refine ⟨fun hh => (by rw [fen_depth] at hh; cases hh), callsIn_fen (CallsIn.mono k2 ?_)⟩
      rintro e w2 ⟨θ2, v, σ2, hk, rfl, a2, b2, c2⟩
      exact fin θ2 w2 σ2 _ hk a2 (b.trans b2) c2
    · rename_i l args σ3 hmo
      rw [Oper.semAt_eq _ _ _ (more_noDefer hmo)]
      obtain ⟨θ', w', a, b, e1, e2, hl, hva, c⟩ := more_ok (ds := marks θ d) hR hV hmo
      have c : (execOp (actOf θ t d).eval o).run P w = _ := c
      subst e1 e2
      obtain ⟨f, tmps, asg, body, k1, k2⟩ := hF.round θ' σ3 w' l args _ a hl hva h
      rw [c, k1]
      simp only [Oper.uponIn]
      refine ⟨fun hh => (by rw [fen_depth] at hh; cases hh), roundIn_fen (RoundIn.mono k2 ?_)⟩
      rintro e w2 ⟨θ2, v, σ2, hk, rfl, a2, b2, c2⟩
      exact fin θ2 w2 σ2 _ hk a2 (b.trans b2) c2
    · split at h
      · rename_i q hq
        rw [Oper.semAt_eq _ _ _ (next_noDefer hq)]
        obtain ⟨v, σ', w', hk, a, b, c1, c2⟩ := nextK_ok (ds := marks θ d) hR hq h
        have c2 : (execOp (actOf θ t d).eval o).run P w = _ := c2
        rw [c2]
        exact fin θ w' σ' _ hk a b c1
      · cases h

theorem fen_ext {θ' : Nat → Ent} {ro : Option Nat} (h : Mv θ σ w θ' σ' w') (hro : ∀ l, ro = some l → l < σ.n) : fen θ' ro = fen θ ro := by
  cases ro with
  | none => rfl
  | some k => simp only [fen]; rw [h.ext k (hro k rfl)]

theorem runOps_onto {F : Fns} {m : Nat} (hF : FnsOk P W m F) (hG : GOk G W) (ro : Option Nat) (ops : Array Oper) {K : KO} {d : List Mk} {θ0 : Nat → Ent} {σ0 : AW} {w0 : World} (hro : ∀ l, ro = some l → l < σ0.n) {Q : Exit → Act → World → Prop} {rest : List Oper}
    (hK : ∀ θ σ w t, K t σ = true → Rel P W θ σ w → Mv θ0 σ0 w0 θ σ w → Vs θ σ.n t → DV θ σ.n d → wpListIn (fen θ0 ro) 0 P ops Q rest (actOf θ t d) w) :
    ∀ (l : List Oper) (θ : Nat → Ent) (σ : AW) (w : World) (t : List AV), Rel P W θ σ w → Mv θ0 σ0 w0 θ σ w → Vs θ σ.n t → DV θ σ.n d →
    runOps P G F ops l t σ K = true → wpListIn (fen θ0 ro) 0 P ops Q (l ++ rest) (actOf θ t d) w := by
  intro l
  induction l with
  | nil =>
    intro θ σ w t hR hM hV hd h
    simp only [runOps] at h
    exact hK θ σ w t h hR hM hV hd
  | cons o l ih =>
    intro θ σ w t hR hM hV hd h
    simp only [runOps] at h
    simp only [List.cons_append, wpListIn, yielded_act]
    split at h
    · rename_i hw
      rw [if_pos hw]
      rw [← fen_ext hM hro]
      refine one_ok hF hG hR hV hd ro h fun θ' w' t' σ' hk a b c => ?_
      rw [fen_ext hM hro]
      exact ih θ' σ' w' t' a (hM.trans b) c (DV_ext b.ext b.n hd) hk
    · rename_i hw
      rw [if_neg hw]
      obtain ⟨t2, hp, hk⟩ := putK'_some h
      refine ⟨fun f _ => fen_fn θ0 ro f, ?_⟩
      rw [← undef_conc (θ := θ), put_act hp]
      exact ih θ σ w t2 hR hM (put_V hp hV (by simp [V, Vs])) hd hk
theorem runOps_ok {F : Fns} {m : Nat} (hF : FnsOk P W m F) (hG : GOk G W) (ro : Option Nat) (ops : Array Oper) {K : KO} {d : List Mk} {θ0 : Nat → Ent} {σ0 : AW} {w0 : World} (hro : ∀ l, ro = some l → l < σ0.n)
    (l : List Oper) (θ : Nat → Ent) (σ : AW) (w : World) (t : List AV) (hR : Rel P W θ σ w) (hM : Mv θ0 σ0 w0 θ σ w) (hV : Vs θ σ.n t) (hd : DV θ σ.n d)
    (h : runOps P G F ops l t σ K = true) : wpListIn (fen θ0 ro) 0 P ops (PostN P W θ0 σ0 w0 d K) l (actOf θ t d) w := by
  have := runOps_onto hF hG ro ops hro (Q := PostN P W θ0 σ0 w0 d K) (rest := []) (fun θ σ w t hk hR hM hV hd => ⟨rfl, θ, t, σ, hk, hR, hM, hV, hd, rfl⟩) l θ σ w t hR hM hV hd h
  rwa [List.append_nil] at this

/-- the last operation of a region defers a call -/
theorem dfr_ok {ops : Array Oper} {o : Oper} {θ0 : Nat → Ent} {K : Mk → List AV → Bool} {Q : Exit → Act → World → Prop} (hV : Vs θ σ.n t) (h : dfrK ops o t K = true)
    (hQ : ∀ m t', K m t' = true → MkV θ σ.n m → Vs θ σ.n t' → Q .normal (actOf θ t' (m :: d)) w) : wpListIn (fen θ0 none) 0 P ops Q [o] (actOf θ t d) w := by
  unfold dfrK at h
  split at h
  case isFalse => cases h
  rename_i hw
  simp only [wpListIn, yielded_act]
  rw [if_pos hw]
  split at h
  case h_2 => cases h
  rename_i m hm
  obtain ⟨t2, hp, hk⟩ := putK'_some h
  refine ⟨fun f _ => fen_fn θ0 none f, ?_⟩
  unfold mkOf at hm
  split at hm
  case h_2 => cases hm
  rename_i f args tys hop
  split at hm
  case isFalse => cases hm
  rename_i hok
  simp only [Bool.and_eq_true] at hok
  split at hm
  case h_2 => cases hm
  rename_i g first captured hef
  simp only [Option.some.injEq] at hm
  subst hm
  have hvf : V θ σ.n (ev t f) := ev_V hV
  rw [hef] at hvf
  simp only [V] at hvf
  have hev : (actOf θ t d).eval f = conc θ (.fn g first captured) := by rw [← hef]; exact eval_conc hok.1
  have hargs : args.map (actOf θ t d).eval = (concs θ (evs t args.toList)).toArray := by
    apply Array.ext'
    rw [Array.toList_map]
    exact evs_conc hok.2
  have hrun : ((o.semAt (fen θ0 none).round (actOf θ t d).eval).run P w) = .ok (.defer (mark θ (.f g (first ++ evs t args.toList) captured))) w := by
    simp only [fen, Fence.wide_round, Oper.semAt, execOp, hop, resolve, hev, hargs, conc, Deferred.ofValue, mark, Sem.run_bind, Sem.run_pure, Result.andThen_ok]
    simp [concs_map]
  rw [hrun]
  simp only [Oper.uponIn]
  rw [← undef_conc (θ := θ)]
  have hput : ({ actOf θ t d with defers := mark θ (.f g (first ++ evs t args.toList) captured) :: (actOf θ t d).defers } : Act).put o.dst (conc θ (.tup [])) = actOf θ t2 (.f g (first ++ evs t args.toList) captured :: d) := by
    have := put_act (θ := θ) (d := .f g (first ++ evs t args.toList) captured :: d) hp
    rw [← this]
    rfl
  rw [hput]
  refine hQ _ _ hk ⟨Vs_iff.2 fun v hv => ?_, hvf.2⟩ (put_V hp hV (by simp [V, Vs]))
  rcases List.mem_append.1 hv with hv | hv
  · exact Vs_iff.1 hvf.1 v hv
  · exact Vs_iff.1 (evs_V hV) v hv
end
end Go.Proofs.YtdennekkbdlhdaaDoor.Ev
/-
  Calls, loops, ranges over functions.
-/
namespace Go.Proofs.YtdennekkbdlhdaaDoor.Ev
open Go.RowKit
set_option linter.unusedVariables false
set_option linter.unusedSimpArgs false

section
variable {P : Program} {W : World} {G : List (Nat × List AV)} {F : Fns} {θ : Nat → Ent} {σ σ' : AW} {w w' : World} {t t' : List AV} {d d' : List Mk} {x : Exit}

/-! ### Results -/
def resSem (tmps : Array Value) : ResultVar → Sem Value
  | .tmp t => pure (tmps.getD t undef)
  | .cell a t => do loadVar t (← asAddr (tmps.getD a undef))
theorem results_eq (fn : Func) (tmps : Array Value) : results fn tmps = (do let vs ← fn.results.mapM (resSem tmps); pure (if h : vs.size = 1 then vs[0] else .tuple vs)) := by
  unfold results
  congr 1
theorem res_one (hG : GOk G W) (hR : Rel P W θ σ w) (hV : Vs θ σ.n t) {r : ResultVar} {v : AV} (h : resOne P G t σ r = some v) :
    V θ σ.n v ∧ (resSem (concs θ t).toArray r).run P w = .ok (conc θ v) w := by
  cases r with
  | tmp n =>
    simp only [resOne, Option.some.injEq] at h
    subst h
    refine ⟨?_, by simp only [resSem, Sem.run_pure]; rw [getD_concs]⟩
    simp only [List.getD_eq_getElem?_getD]
    cases hk : t[n]? with
    | none => simp [V, Vs]
    | some u => exact Vs_iff.1 hV u (List.mem_of_getElem? hk)
  | cell a ty =>
    simp only [resOne] at h
    split at h
    · rename_i r o he
      obtain ⟨h1, h2⟩ := loadOp_ok hG hR h
      refine ⟨h1, ?_⟩
      simp only [resSem, getD_concs, he, conc, asAddr, Sem.run_bind, Sem.run_pure, Result.andThen_ok]
      simpa [Instr.loadAt, Instr.sureAddr, conc] using h2
    · cases h
theorem res_all (hG : GOk G W) (hR : Rel P W θ σ w) (hV : Vs θ σ.n t) : ∀ {l : List ResultVar} {vs : List AV}, resAll P G t σ l = some vs →
    Vs θ σ.n vs ∧ vs.length = l.length ∧ (l.mapM (resSem (concs θ t).toArray)).run P w = .ok (concs θ vs) w := by
  intro l
  induction l with
  | nil => intro vs h; simp only [resAll] at h; cases h; exact ⟨by simp [Vs], rfl, by simp [concs]⟩
  | cons r l ih =>
    intro vs h
    simp only [resAll] at h
    split at h
    · rename_i v m h1 h2
      cases h
      obtain ⟨a1, a2⟩ := res_one hG hR hV h1
      obtain ⟨b1, b2, b3⟩ := ih h2
      refine ⟨by simp only [Vs]; exact ⟨a1, b1⟩, by simp [b2], ?_⟩
      rw [List.mapM_cons, Sem.run_bind, a2]
      simp only [Result.andThen_ok]
      rw [Sem.run_bind, b3]
      simp [concs]
    · cases h
theorem results_ok (hG : GOk G W) (hR : Rel P W θ σ w) (hV : Vs θ σ.n t) {fn : Func} {vs : List AV} (h : resAll P G t σ fn.results.toList = some vs) :
    ∃ v, (results fn (concs θ t).toArray).run P w = .ok (conc θ v) w ∧ V θ σ.n v ∧ (match vs with | [v] => v | l => .tup l) = v := by
  obtain ⟨h1, h2, h3⟩ := res_all hG hR hV h
  have hm : (fn.results.mapM (resSem (concs θ t).toArray)).run P w = .ok (concs θ vs).toArray w := by
    rw [Array.mapM_eq_mapM_toList]
    simp only [Sem.run_map, h3, Result.andThen_ok]
  refine ⟨_, ?_, ?_, rfl⟩
  · rw [results_eq, Sem.run_bind, hm]
    simp only [Result.andThen_ok, Sem.run_pure]
    match vs with
    | [] => simp [concs, conc]
    | [v] => simp [concs]
    | v :: u :: l => simp [concs, conc]
  · match vs with
    | [] => simp [V, Vs]
    | [v] => simp only [Vs] at h1; exact h1.1
    | v :: u :: l => simp only [V]; exact h1

/-! ### A function is left -/
theorem getObj_run {b : Nat} {o : Obj} (h : w.heap[b]? = some o) (hc : ∀ c e f, o ≠ .cells c e f) : (getObj b).run P w = .ok o w := by
  cases o <;> first | exact absurd rfl (hc _ _ _) | (simp only [getObj, Sem.run, h])
theorem setObj_run {b : Nat} {o : Obj} (O : Obj) (h : w.heap[b]? = some o) (hc : ∀ c e f, o ≠ .cells c e f) : (setObj b O).run P w = .ok () (setB w b O) := by
  cases o <;> first | exact absurd rfl (hc _ _ _) | (simp only [setObj, Sem.run, h, setB])

theorem undefs_conc (k : Nat) : concs θ (undefs k) = List.replicate k undef := by
  induction k with
  | zero => simp [undefs, concs]
  | succ k ih => simp [undefs, concs, ih, List.replicate_succ, undef_conc]
theorem undefs_V (k n : Nat) : Vs θ n (undefs k) := by
  induction k with
  | zero => simp [undefs, Vs]
  | succ k ih => simp only [undefs, Vs]; exact ⟨by simp [V, Vs], ih⟩

theorem enter_act {args : List AV} {n : Nat} : actOf θ (args ++ undefs (n - args.length)) [] = { tmps := (concs θ args).toArray ++ Array.replicate (n - (concs θ args).toArray.size) undef, defers := [] } := by
  unfold actOf marks
  congr 1
  apply Array.ext'
  have e1 : concs θ (args ++ undefs (n - args.length)) = concs θ args ++ concs θ (undefs (n - args.length)) := by simp [concs_map]
  rw [e1, undefs_conc]
  simp [concs_map]
theorem enter_V {args : List AV} {n k : Nat} (hA : Vs θ n args) : Vs θ n (args ++ undefs k) := Vs_iff.2 fun u hu => by
  rcases List.mem_append.1 hu with hu | hu
  · exact Vs_iff.1 hA u hu
  · exact Vs_iff.1 (undefs_V _ _) u hu

/-- a deferred call -/
theorem runD_ok {m : Nat} (hF : FnsOk P W m F) (hG : GOk G W) (hR : Rel P W θ σ w) {f : FuncId} {args : List AV} {K : AW → Bool} (hA : Vs θ σ.n args) (h : runD P G F f args σ K = true) :
    (callFunc f (concs θ args).toArray).run P w = .ok (.enter f (concs θ args).toArray) w ∧ ∀ u, CallsDIn Fence.wide 0 P f (concs θ args).toArray u w fun e u' w' => u' = u ∧ ∃ v θ' σ', e = .returned v ∧ K σ' = true ∧ Rel P W θ' σ' w' ∧ Mv θ σ w θ' σ' w' := by
  unfold runD at h
  split at h
  · cases h
  rename_i fn hf
  split at h
  · cases h
  rename_i hname
  split at h
  · cases h
  rename_i c hb
  rw [fVs_eq] at h
  split at h
  · cases h
  rename_i t0 ht0
  cases ht0
  constructor
  · unfold callFunc
    simp [hf, hb]
    simpa using hname
  · intro u
    have hw := hF.code none θ σ w c _ [] _ hR (enter_V hA) DV_nil (by simp) h
    rw [enter_act] at hw
    refine callsDIn_of_wp (R := fun e w' => ∃ v θ' σ', e = .returned v ∧ K σ' = true ∧ Rel P W θ' σ' w' ∧ Mv θ σ w θ' σ' w') hf hb trivial (wpIn_mono hw ?_)
    rintro e a w1 ⟨θ1, t1, d1, σ1, hk, hR1, hM1, hV1, hd1, rfl⟩
    unfold endK at hk
    split at hk
    case h_2 => cases hk
    split at hk
    case isFalse => cases hk
    rename_i hx
    split at hk
    case h_2 => cases hk
    rename_i vs hres
    obtain ⟨v, h1, _, _⟩ := results_ok hG hR1 hV1 hres
    have hend : (actOf θ1 t1 []).defers = [] ∧ ∃ v, (results fn (actOf θ1 t1 []).tmps).run P w1 = .ok v w1 ∧ ∃ v' θ' σ', Ending.returned v = .returned v' ∧ K σ' = true ∧ Rel P W θ' σ' w1 ∧ Mv θ σ w θ' σ' w1 :=
      ⟨rfl, _, h1, _, θ1, σ1, rfl, hk, hR1, hM1⟩
    cases e <;> first | exact hend | (exfalso; simp [okExit] at hx)

theorem leave_ok {m : Nat} (hF : FnsOk P W m F) (hG : GOk G W) {fn : Func} {R : Ending → World → Prop} {tm : Array Value} {K : AW → Bool} : ∀ (d : List Mk) (θ : Nat → Ent) (σ : AW) (w : World), Rel P W θ σ w → DV θ σ.n d → leaveF P G F d σ K = true →
    (∀ θ2 σ2 w2, K σ2 = true → Rel P W θ2 σ2 w2 → Mv θ σ w θ2 σ2 w2 → ∃ v, (results fn tm).run P w2 = .ok v w2 ∧ R (.returned v) w2) → LeavesInM Fence.wide 0 P fn tm R (marks θ d) .returning w := by
  intro d
  induction d with
  | nil =>
    intro θ σ w hR hd h hk
    simp only [leaveF] at h
    obtain ⟨v, h1, h2⟩ := hk θ σ w h hR (Mv.refl (P := P) (W := W))
    exact ⟨v, h1, h2⟩
  | cons m d ih =>
    intro θ σ w hR hd h hk
    have hm := hd m (by simp)
    have hd' : DV θ σ.n d := fun m hm => hd m (by simp [hm])
    cases m with
    | c r =>
      simp only [leaveF] at h
      split at h
      · rename_i hg
        split at h
        · rename_i σ1 hp
          obtain ⟨hlt, ho⟩ := hR.obj r _ hg
          have ho : w.heap[(θ r).blk]? = some (.deferred (some [])) := ho
          have hT := hR.turn (w' := setB w (θ r).blk (.deferred none)) hg hp (setB_size _ _ _) (fun k hk => setB_other _ hk) rfl rfl rfl (by
            show (setB w (θ r).blk (.deferred none)).heap[(θ r).blk]? = _
            rw [setB_same _ (hR.blk r hlt).2]; rfl)
          refine ⟨by simp, .inl ⟨(θ r).blk, setB w (θ r).blk (.deferred none), rfl, ?_, ih θ σ1 _ hT.1 (DV_ext hT.2.ext hT.2.n hd') h fun θ2 σ2 w2 k a b => hk θ2 σ2 w2 k a (hT.2.trans b)⟩⟩
          simp only [Instr.takeDeferred, Sem.run_bind, getObj_run (P := P) ho (by simp), Result.andThen_ok, setObj_run (P := P) (.deferred none) ho (by simp), Sem.run_pure]
        · cases h
      · cases h
    | f g args captured =>
      simp only [leaveF] at h
      have hA : Vs θ σ.n (args ++ captured) := Vs_iff.2 fun v hv => by
        rcases List.mem_append.1 hv with hv | hv
        · exact Vs_iff.1 hm.1 v hv
        · exact Vs_iff.1 hm.2 v hv
      obtain ⟨h1, h2⟩ := runD_ok hF hG hR hA h
      refine ⟨by simp, .inr ⟨fun hh => (by cases hh), .func g, (concs θ captured).toArray, g, (concs θ (args ++ captured)).toArray, rfl, ?_, fun _ _ => trivial, CallsDIn.mono (h2 .returning) ?_⟩⟩
      · have e1 : (concs θ args).toArray ++ (concs θ captured).toArray = (concs θ (args ++ captured)).toArray := by
          apply Array.ext'
          simp [concs_map]
        simp only [invoke, mark, e1]
        exact h1
      · rintro e u' w1 ⟨rfl, v, θ1, σ1, rfl, hk1, hR1, hM1⟩
        have := ih θ1 σ1 w1 hR1 (DV_ext hM1.ext hM1.n hd') hk1 fun θ2 σ2 w2 k a b => hk θ2 σ2 w2 k a (hM1.trans b)
        rw [marks_ext hM1.ext hd'] at this
        exact this

theorem callF_ok {m : Nat} (hF : FnsOk P W m F) (hG : GOk G W) (hR : Rel P W θ σ w) {f : FuncId} {args : List AV} {K : KV} (hA : Vs θ σ.n args) (h : callF P G F f args σ K = true) :
    (callFunc f (concs θ args).toArray).run P w = .ok (.enter f (concs θ args).toArray) w ∧ CallsIn Fence.wide 0 P f (concs θ args).toArray w (CPostK P W θ σ w K) := by
  unfold callF at h
  split at h
  · cases h
  rename_i fn hf
  split at h
  · cases h
  rename_i hname
  split at h
  · cases h
  rename_i c hb
  rw [fVs_eq] at h
  split at h
  · cases h
  rename_i t0 ht0
  cases ht0
  constructor
  · unfold callFunc
    simp [hf, hb]
    simpa using hname
  · have hV0 : Vs θ σ.n (args ++ undefs (fn.ntmps - args.length)) := Vs_iff.2 fun u hu => by
      rcases List.mem_append.1 hu with hu | hu
      · exact Vs_iff.1 hA u hu
      · exact Vs_iff.1 (undefs_V _ _) u hu
    have hw := hF.code none θ σ w c _ [] _ hR hV0 DV_nil (by simp) h
    have hact : actOf θ (args ++ undefs (fn.ntmps - args.length)) [] = { tmps := (concs θ args).toArray ++ Array.replicate (fn.ntmps - (concs θ args).toArray.size) undef, defers := [] } := by
      unfold actOf marks
      congr 1
      apply Array.ext'
      have e1 : concs θ (args ++ undefs (fn.ntmps - args.length)) = concs θ args ++ concs θ (undefs (fn.ntmps - args.length)) := by simp [concs_map]
      rw [e1, undefs_conc]
      simp [concs_map]
    rw [hact] at hw
    refine callsIn_of_wp_marks hf hb trivial (wpIn_mono hw ?_)
    rintro e a w1 ⟨θ1, t1, d1, σ1, hk, hR1, hM1, hV1, hd1, rfl⟩
    unfold leaveK at hk
    split at hk
    · rename_i hx
      have hleave : LeavesInM Fence.wide 0 P fn (concs θ1 t1).toArray (CPostK P W θ σ w K) (marks θ1 d1) .returning w1 := by
        refine leave_ok hF hG d1 θ1 σ1 w1 hR1 hd1 hk fun θ2 σ2 w2 hk hR2 hM2 => ?_
        have hV2 : Vs θ2 σ2.n t1 := Vs_ext hM2.ext hM2.n t1 hV1
        rw [← concs_ext hM2.ext t1 hV1]
        split at hk
        · rename_i v0 hres
          rw [fV_eq] at hk
          obtain ⟨u, h1, h2, h3⟩ := results_ok hG hR2 hV2 hres
          subst h3
          exact ⟨_, h1, θ2, _, σ2, hk, rfl, hR2, hM1.trans hM2, h2⟩
        · rename_i l hne hres
          rw [fVs_eq] at hk
          obtain ⟨u, h1, h2, h3⟩ := results_ok hG hR2 hV2 hres
          have hu : u = .tup l := by
            rw [← h3]
            match l with
            | [] => rfl
            | [v0] => exact absurd rfl (hne v0)
            | _ :: _ :: _ => rfl
          subst hu
          exact ⟨_, h1, θ2, _, σ2, hk, rfl, hR2, hM1.trans hM2, h2⟩
        · cases hk
      cases e <;> first | exact hleave | (exfalso; simp [okExit] at hx)
    · cases hk
end
end Go.Proofs.YtdennekkbdlhdaaDoor.Ev
/-
  Code, piece by piece; a range over a function, and its rounds.
-/
namespace Go.Proofs.YtdennekkbdlhdaaDoor.Ev
open Go.RowKit
set_option linter.unusedVariables false
set_option linter.unusedSimpArgs false

section
variable {F : Fence} {n : Nat} {P : Program} {Q : Exit → Act → World → Prop} {a : Act} {w : World} {b : Frame} {k : List Item} {cs : List Frame}
theorem stepR_scope {c : Code} : step P (lone (b.atR a (.code (.scope c) :: k)) cs w) = .next (lone (b.atR a (.code c :: .inScope c :: k)) cs w) :=
  step_lone_go (by simp [stepG, stepG.exec, Frame.atR])
theorem stepR_inScope {c : Code} : step P (lone (b.atR a (.inScope c :: k)) cs w) = .next (lone (b.atR a k) cs w) :=
  step_lone_go (by simp [stepG, stepG.exec, Frame.atR])
theorem wpIn_scope {c : Code} (h : c.wpIn F n P Q a w) (hQ : ∀ l a w, ¬ Q (.goto l) a w) : (Code.scope c).wpIn F n P Q a w := by
  intro b k cs hro hb hr
  have h0 : (lone (b.atR a (.code (.scope c) :: k)) cs w).fenced P F := fenced_calm hb hr rfl
  obtain ⟨e, a₁, w₁, hq, harr⟩ := h b (.inScope c :: k) cs hro hb hr
  have hx : ∀ id, exitTo id (.inScope c :: k) = exitTo id k := fun id => by simp [exitTo]
  cases e with
  | normal => exact ⟨.normal, a₁, w₁, hq, .head h0 stepR_scope (StepsIn.trans harr (.one (fenced_calm hb hr rfl) stepR_inScope))⟩
  | exit id => exact ⟨.exit id, a₁, w₁, hq, fun k' hk => .head h0 stepR_scope (harr.1 k' (by rw [hx]; exact hk)),
      fun hr' hk => let ⟨k₁, h1, h2⟩ := harr.2 hr' (by rw [hx]; exact hk); ⟨k₁, h1, .head h0 stepR_scope h2⟩⟩
  | goto l => exact absurd hq (hQ l a₁ w₁)
  | ret => exact ⟨_, a₁, w₁, hq, .of_steps (.one h0 stepR_scope) harr⟩
  | panic ch => exact ⟨_, a₁, w₁, hq, .of_steps (.one h0 stepR_scope) harr⟩
  | outgrown => exact ⟨_, a₁, w₁, hq, .of_steps (.one h0 stepR_scope) harr⟩
end

section
variable {P : Program} {W : World} {G : List (Nat × List AV)} {F : Fns} {θ : Nat → Ent} {σ σ' : AW} {w w' : World} {t t' : List AV} {d d' : List Mk} {x : Exit}

theorem post_here (hR : Rel P W θ σ w) (hV : Vs θ σ.n t) (hd : DV θ σ.n d) {K : KC} {e : Exit} (h : K e t d σ = true) : Post P W θ σ w K e (actOf θ t d) w :=
  ⟨θ, t, d, σ, h, hR, Mv.refl (P := P) (W := W), hV, hd, rfl⟩

theorem rounds_mono {Fe : Fence} {n : Nat} {c : Code} {Q Q' : Exit → Act → World → Prop} (hq : ∀ e a w, Q e a w → Q' e a w) : ∀ (m : Nat) (a : Act) (w : World), Code.roundsIn Fe n P c Q m a w → Code.roundsIn Fe n P c Q' m a w
  | 0, _, _, h => h
  | m + 1, a, w, h => by
    rw [roundsIn_succ] at *
    refine wpIn_mono h fun e a w hp => ?_
    cases e <;> first | exact hq _ _ _ hp | exact rounds_mono hq m a w hp

theorem loopF_ok {m : Nat} (hF : FnsOk P W m F) {ro : Option Nat} {c : Code} {K : KC} (hR : Rel P W θ σ w) (hV : Vs θ σ.n t) (hd : DV θ σ.n d) (hro : ∀ l, ro = some l → l < σ.n) (h : loopF F ro c t d σ K = true) :
    Code.roundsIn (fen θ ro) 0 P c (Post P W θ σ w K) (m + 1) (actOf θ t d) w := by
  rw [roundsIn_succ]
  unfold loopF at h
  refine wpIn_mono (hF.code ro θ σ w c t d _ hR hV hd hro h) fun e a w1 hp => ?_
  obtain ⟨θ1, t1, d1, σ1, hk, hR1, hM1, hV1, hd1, rfl⟩ := hp
  cases e with
  | normal =>
    have hk : F.loop ro c t1 d1 σ1 K = true := hk
    have := hF.loop ro θ1 σ1 w1 c t1 d1 K hR1 hV1 hd1 (fun l hl => Nat.lt_of_lt_of_le (hro l hl) hM1.n) hk
    rw [fen_ext hM1 hro] at this
    show Code.roundsIn (fen θ ro) 0 P c (Post P W θ σ w K) m (actOf θ1 t1 d1) w1
    exact rounds_mono (fun e a w hp => Post.after hM1 hp) m _ _ this
  | _ => exact ⟨θ1, t1, d1, σ1, hk, hR1, hM1, hV1, hd1, rfl⟩

theorem enter_run {l : Nat} {o : Loop} (h : w.heap[l]? = some (.loop o)) : (Instr.getLoop l).run P w = .ok o w := by
  simp only [Instr.getLoop, Sem.run_bind, getObj_run (P := P) h (by simp), Result.andThen_ok, Sem.run_pure]

theorem rangeF_ok {m : Nat} (hF : FnsOk P W m F) {ro : Option Nat} {f : Operand} {ps : Array Tmp} {asg body : Code} {K : KC} (hf : evOk f = true) (hR : Rel P W θ σ w) (hV : Vs θ σ.n t) (hd : DV θ σ.n d) (hro : ∀ l, ro = some l → l < σ.n)
    (h : rangeF F ro f ps asg body t d σ K = true) : (Code.rangeFunc f ps asg body).wpIn (fen θ ro) 0 P (Post P W θ σ w K) (actOf θ t d) w := by
  refine wpIn_rangeFunc fun fn _ => ?_
  unfold rangeF at h
  -- the loop's beginning
  have start : ∃ dr mark σ1 θ1 w1, rangeStart ro σ = some (dr, mark, σ1) ∧ Rel P W θ1 σ1 w1 ∧ Mv θ σ w θ1 σ1 w1 ∧ dr < σ1.n ∧ DV θ1 σ1.n mark ∧
      ∀ (k : (Nat × List Deferred) → Sem (Nat × List Deferred)), (do let x ← (match (fen θ ro).round with
        | some l => do pure ((← Instr.getLoop l).defers, [])
        | none => do
          let r ← newObj (.deferred (some []))
          pure (r, [{ target := .collected r, args := #[] }]) : Sem (Nat × List Deferred)); k x).run P w = (k ((θ1 dr).blk, marks θ1 mark)).run P w1 := by
    cases ro with
    | some l =>
      simp only [rangeStart] at h ⊢
      cases hg : σ.t.get l with
      | none => rw [hg] at h; cases h
      | some o =>
        cases o with
        | loop st pend tm ps' asg' body' dr =>
          obtain ⟨hlt, h1, h2, fn', h3⟩ := hR.obj l _ hg
          refine ⟨dr, [], σ, θ, w, rfl, hR, Mv.refl (P := P) (W := W), h2, DV_nil, fun k => ?_⟩
          simp only [fen, Fence.inRound_round, Sem.run_bind, enter_run h3, Result.andThen_ok, Sem.run_pure]
          rfl
        | row _ _ _ => rw [hg] at h; cases h
        | defr _ => rw [hg] at h; cases h
        | map _ _ _ _ => rw [hg] at h; cases h
        | iter _ _ _ _ => rw [hg] at h; cases h
        | siter _ _ => rw [hg] at h; cases h
    | none =>
      simp only [rangeStart] at h ⊢
      cases hn : σ.new (.defr false) with
      | none => rw [hn] at h; cases h
      | some σ1 =>
        have hN := hR.made (w' := w.alloc (.deferred (some []))) hn (.deferred (some [])) 0 rfl rfl rfl rfl (by
          show (w.alloc _).heap[_]? = _
          rw [upd_self]; exact heap_alloc_new w _)
        refine ⟨σ.n, [.c σ.n], σ1, _, _, rfl, hN.1, hN.2, by rw [(AW.get_new hn).1]; omega, fun m hm => by
          simp only [List.mem_singleton] at hm
          subst hm
          show σ.n < σ1.n
          rw [(AW.get_new hn).1]; omega, fun k => ?_⟩
        simp only [fen, Fence.wide_round, Sem.run_bind, run_newObj, Result.andThen_ok, Sem.run_pure, marks, mark, List.map_cons, List.map_nil, upd_self]
        rfl
  obtain ⟨dr, mark, σ1, θ1, w1, hst, hR1, hM1, hdr, hmk, hrun⟩ := start
  rw [hst] at h
  simp only at h
  split at h
  · cases h
  rename_i σ2 hn2
  have hV1 : Vs θ1 σ1.n t := Vs_ext hM1.ext hM1.n t hV
  have hN := hR1.made (w' := w1.alloc (.loop { state := .ready, pending := none, fn := fn, tmps := (concs θ1 t).toArray, params := ps, assign := asg, body := body, defers := (θ1 dr).blk })) hn2 _ 0 rfl rfl rfl rfl (by
    refine ⟨Vs_ext (fun r hr => upd_lt hr) (Nat.le_succ _) t hV1, by omega, fn, ?_⟩
    rw [upd_self, upd_lt hdr, concs_ext (fun r hr => upd_lt hr) t hV1]
    exact heap_alloc_new w1 _)
  obtain ⟨hR2, hM2⟩ := hN
  have hn2' := (AW.get_new hn2).1
  generalize hθ2 : upd θ1 σ1.n ⟨w1.heap.size, 0⟩ = θ2 at hR2 hM2
  have hθl : (θ2 σ1.n).blk = w1.heap.size := by rw [← hθ2, upd_self]
  have hMt := hM1.trans hM2
  split at h
  · rename_i g first captured hef
    have hvf : V θ2 σ2.n (ev t f) := ev_V (Vs_ext hMt.ext hMt.n t hV)
    rw [hef] at hvf
    simp only [V] at hvf
    have hargs : Vs θ2 σ2.n (first ++ [.yl σ1.n] ++ captured) := Vs_iff.2 fun v hv => by
      simp only [List.mem_append, List.mem_singleton] at hv
      rcases hv with (hv | rfl) | hv
      · exact Vs_iff.1 hvf.1 v hv
      · simp only [V]; omega
      · exact Vs_iff.1 hvf.2 v hv
    obtain ⟨hcf, hci⟩ := hF.call θ2 σ2 _ g _ _ hR2 hargs h
    have hact : actOf θ2 t d = actOf θ t d := actOf_ext hMt.ext hV hd
    have hev : (actOf θ t d).eval f = conc θ2 (.fn g first captured) := by
      rw [← hact, ← hef]; exact eval_conc hf
    have hargs' : (concs θ2 first).toArray ++ #[Value.func (.yield w1.heap.size) #[] #[]] ++ (concs θ2 captured).toArray = (concs θ2 (first ++ [.yl σ1.n] ++ captured)).toArray := by
      apply Array.ext'
      simp [concs_map, conc, hθl]
    refine ⟨w1.heap.size, marks θ1 mark, (w1.alloc (.loop { state := .ready, pending := none, fn := fn, tmps := (concs θ1 t).toArray, params := ps, assign := asg, body := body, defers := (θ1 dr).blk })), { target := .fn (.func g) (concs θ2 captured).toArray, args := (concs θ2 first).toArray ++ #[Value.func (.yield w1.heap.size) #[] #[]] }, (w1.alloc (.loop { state := .ready, pending := none, fn := fn, tmps := (concs θ1 t).toArray, params := ps, assign := asg, body := body, defers := (θ1 dr).blk })), g, _, _, ?_, ?_, fun f' _ => fen_fn θ ro f', ?_, fun hh => (by rw [fen_depth] at hh; cases hh), callsIn_fen (CallsIn.mono hci ?_)⟩
    · have := hrun fun x => do pure (← newObj (.loop { state := .ready, pending := none, fn := fn, tmps := (actOf θ t d).tmps, params := ps, assign := asg, body := body, defers := x.1 }), x.2)
      unfold Instr.enterLoop
      refine Eq.trans ?_ (this.trans ?_)
      · generalize (fen θ ro).round = rr
        cases rr <;> simp only [bind_assoc, pure_bind]
      · have ht : (actOf θ t d).tmps = (concs θ1 t).toArray := by
          unfold actOf; simp only; rw [concs_ext hM1.ext t hV]
        simp only [Sem.run_bind, run_newObj, Result.andThen_ok, Sem.run_pure, ht]
        rfl
    · simp only [resolve, rangeCall, Sem.run_bind, Sem.run_pure, Result.andThen_ok, hev, conc, Deferred.ofValue]
      simp [Act.eval]
    · simp only [invoke]
      rw [hargs']
      exact hcf
    · rintro e w3 ⟨θ3, u, σ3, hk, rfl, hR3, hM3, hv3⟩
      dsimp only at hk
      split at hk
      case h_2 => cases hk
      rename_i st pend tm ps' asg' body' dr' hg3
      split at hk
      case h_2 => cases hk
      rename_i σ4 hbusy hp4
      obtain ⟨hlt3, hb1, hb2, fn3, hb3⟩ := hR3.obj _ _ hg3
      have hl3 : (θ3 σ1.n).blk = w1.heap.size := by rw [hM3.ext σ1.n (by omega)]; exact hθl
      have hT := hR3.turn (w' := setB w3 (θ3 σ1.n).blk (.loop { state := .exhausted, pending := pend, fn := fn3, tmps := (concs θ3 tm).toArray, params := ps', assign := asg', body := body', defers := (θ3 dr').blk })) hg3 hp4 (setB_size _ _ _) (fun k hk => setB_other _ hk) rfl rfl rfl
        ⟨hb1, hb2, fn3, setB_same _ (hR3.blk _ hlt3).2⟩
      have hMall := (hMt.trans hM3).trans hT.2
      have hM4 := hM2.trans (hM3.trans hT.2)
      have hdall : DV θ3 σ4.n (mark ++ d) := fun m hm => by
        rcases List.mem_append.1 hm with hm | hm
        · exact DV_ext hM4.ext hM4.n hmk m hm
        · exact DV_ext hMall.ext hMall.n hd m hm
      have hVall : Vs θ3 σ4.n t := Vs_ext hMall.ext hMall.n t hV
      have hmarks : ({ actOf θ t d with defers := marks θ1 mark ++ (actOf θ t d).defers } : Act) = actOf θ3 t (mark ++ d) := by
        unfold actOf
        simp only
        rw [concs_ext hMall.ext t hV]
        congr 1
        have e1 : marks θ3 (mark ++ d) = marks θ3 mark ++ marks θ3 d := by simp [marks]
        rw [e1, marks_ext hMall.ext hd, marks_ext (hM2.trans (hM3.trans hT.2)).ext hmk]
      have hend : (Instr.endLoop w1.heap.size).run P w3 = .ok pend (setB w3 (θ3 σ1.n).blk (.loop { state := .exhausted, pending := pend, fn := fn3, tmps := (concs θ3 tm).toArray, params := ps', assign := asg', body := body', defers := (θ3 dr').blk })) := by
        rw [← hl3]
        have hbz : (st == LoopState.busy) = false := by simpa using hbusy
        simp only [Instr.endLoop, Sem.run_bind, enter_run hb3, Result.andThen_ok, hbz, Bool.false_eq_true, if_false, setObj_run (P := P) _ hb3 (by simp), Sem.run_pure]
      refine ⟨pend, _, hend, ?_⟩
      rw [hmarks]
      cases pend with
      | none =>
        simp only at hk ⊢
        exact ⟨θ3, t, mark ++ d, σ4, hk, hT.1, hMall, hVall, hdall, rfl⟩
      | some c =>
        simp only at hk ⊢
        have := hF.code ro θ3 σ4 _ c t (mark ++ d) K hT.1 hVall hdall (fun l hl => Nat.lt_of_lt_of_le (hro l hl) hMall.n) hk
        rw [fen_ext hMall hro] at this
        exact wpIn_mono this fun e a w hp => Post.after hMall hp
  · cases h

theorem params_fold : ∀ (ps : List Tmp) (vs : List AV) (tm : List AV), (ps.zip (concs θ vs)).foldl (fun (tmps : Array Value) (x : Tmp × Value) => tmps.setIfInBounds x.1 x.2) (concs θ tm).toArray = (concs θ (setParams tm ps vs)).toArray := by
  intro ps
  induction ps with
  | nil => intro vs tm; simp [setParams]
  | cons p ps ih =>
    intro vs tm
    cases vs with
    | nil => simp [concs, setParams]
    | cons v vs =>
      simp only [concs, List.zip_cons_cons, List.foldl_cons, setParams]
      rw [← ih vs (tm.set p v)]
      congr 1
      rw [concs_map, concs_map, List.map_set]
      simp
theorem params_V {n : Nat} : ∀ (ps : List Tmp) (vs : List AV) (tm : List AV), Vs θ n tm → Vs θ n vs → Vs θ n (setParams tm ps vs) := by
  intro ps
  induction ps with
  | nil => intro vs tm h _; simpa [setParams] using h
  | cons p ps ih =>
    intro vs tm h hv
    cases vs with
    | nil => simpa [setParams] using h
    | cons v vs =>
      simp only [setParams]
      simp only [Vs] at hv
      refine ih vs _ (Vs_iff.2 fun u hu => ?_) hv.2
      rcases List.mem_or_eq_of_mem_set hu with hu | rfl
      · exact Vs_iff.1 h u hu
      · exact hv.1

theorem roundF_ok {m : Nat} (hF : FnsOk P W m F) {l : Nat} {args : List AV} {K : KV} (hR : Rel P W θ σ w) (hl : l < σ.n) (hA : Vs θ σ.n args) (h : roundF F l args σ K = true) :
    ∃ f tmps asg body, (Instr.yield (θ l).blk (concs θ args).toArray).run P w = .ok (.round (θ l).blk f tmps asg body) w ∧ RoundIn Fence.wide 0 P (θ l).blk f tmps asg body w (CPostK P W θ σ w K) := by
  unfold roundF at h
  split at h
  · rename_i st pend tm ps asg body dr hg
    split at h
    · cases h
    rename_i hlen
    rw [fVs_eq] at h
    split at h
    · cases h
    rename_i t0 ht0
    cases ht0
    obtain ⟨_, h1, h2, fn, h3⟩ := hR.obj l _ hg
    have hV0 := params_V ps.toList args tm h1 hA
    refine ⟨fn, (concs θ (setParams tm ps.toList args)).toArray, asg, body, ?_, roundIn_of_wpIn trivial ?_⟩
    · have hl2 : (concs θ args).toArray.size = ps.size := by rw [concs_map]; simp; simpa using hlen
      simp only [Instr.yield, Sem.run_bind, enter_run h3, Result.andThen_ok]
      rw [if_neg (by simpa using hl2)]
      simp only [Sem.run_pure, Sem.run_bind, Result.andThen_ok]
      congr 2
      rw [← params_fold]
      rw [← Array.foldl_toList]
      simp
    · have hw := hF.code (some l) θ σ w asg _ [] _ hR hV0 DV_nil (fun k hk => by cases hk; exact hl) h
      refine wpIn_mono hw fun e a w1 hp => ?_
      obtain ⟨θ1, t1, d1, σ1, hk, hR1, hM1, hV1, hd1, rfl⟩ := hp
      unfold roundK1 at hk
      split at hk
      case h_2 => cases hk
      show ∃ w₂, _ ∧ _
      split at hk
      case h_2 => cases hk
      rename_i pend1 tm1 ps1 asg1 body1 dr1 hg1
      split at hk
      case h_2 => cases hk
      rename_i σ2 hp2
      obtain ⟨hlt1, k1, k2, fn1, k3⟩ := hR1.obj l _ hg1
      have hT := hR1.turn (w' := setB w1 (θ1 l).blk (.loop { state := .busy, pending := pend1, fn := fn1, tmps := (concs θ1 tm1).toArray, params := ps1, assign := asg1, body := body1, defers := (θ1 dr1).blk })) hg1 hp2 (setB_size _ _ _) (fun k hk => setB_other _ hk) rfl rfl rfl
        ⟨k1, k2, fn1, setB_same _ (hR1.blk _ hlt1).2⟩
      have hb1 : (θ1 l).blk = (θ l).blk := by rw [hM1.ext l hl]
      refine ⟨setB w1 (θ1 l).blk (.loop { state := .busy, pending := pend1, fn := fn1, tmps := (concs θ1 tm1).toArray, params := ps1, assign := asg1, body := body1, defers := (θ1 dr1).blk }), ?_, ?_⟩
      · rw [← hb1]
        simp only [Instr.beginRound, Sem.run_bind, enter_run k3, Result.andThen_ok, setObj_run (P := P) _ k3 (by simp), Sem.run_pure]
      · have hV2 : Vs θ1 σ2.n t1 := Vs_ext hT.2.ext hT.2.n t1 hV1
        have hw2 := hF.code (some l) θ1 σ2 _ body t1 [] _ hT.1 hV2 DV_nil (fun k hk => by cases hk; exact Nat.lt_of_lt_of_le hlt1 hT.2.n) hk
        have e1 : fen θ1 (some l) = Fence.wide.inRound (θ l).blk := by simp only [fen, hb1]
        rw [e1] at hw2
        refine wpIn_mono hw2 fun e a w3 hp => ?_
        obtain ⟨θ3, t3, d3, σ3, hk3, hR3, hM3, hV3, hd3, rfl⟩ := hp
        unfold roundK2 at hk3
        split at hk3
        case h_2 => cases hk3
        rename_i st3 pend3 tm3 ps3 asg3 body3 dr3 j hg3 hj
        split at hk3
        case h_2 => cases hk3
        rename_i σ4 hp4
        obtain ⟨hlt3, q1, q2, fn3, q3⟩ := hR3.obj l _ hg3
        have hT3 := hR3.turn (w' := setB w3 (θ3 l).blk (.loop { state := if Option.isNone j then .ready else .done, pending := j, fn := fn3, tmps := (concs θ3 tm3).toArray, params := ps3, assign := asg3, body := body3, defers := (θ3 dr3).blk })) hg3 hp4 (setB_size _ _ _) (fun k hk => setB_other _ hk) rfl rfl rfl
          ⟨q1, q2, fn3, setB_same _ (hR3.blk _ hlt3).2⟩
        have hb3 : (θ3 l).blk = (θ l).blk := by rw [(hT.2.trans hM3).ext l hlt1, hb1]
        have hend : (Instr.endRound (θ l).blk j).run P w3 = .ok (.bool (Option.isNone j)) (setB w3 (θ3 l).blk (.loop { state := if Option.isNone j then .ready else .done, pending := j, fn := fn3, tmps := (concs θ3 tm3).toArray, params := ps3, assign := asg3, body := body3, defers := (θ3 dr3).blk })) := by
          rw [← hb3]
          simp only [Instr.endRound, Sem.run_bind, enter_run q3, Result.andThen_ok, setObj_run (P := P) _ q3 (by simp), Sem.run_pure]
        have hC : CPostK P W θ σ w K (.returned (.bool (Option.isNone j))) (setB w3 (θ3 l).blk (.loop { state := if Option.isNone j then .ready else .done, pending := j, fn := fn3, tmps := (concs θ3 tm3).toArray, params := ps3, assign := asg3, body := body3, defers := (θ3 dr3).blk })) :=
          ⟨θ3, _, σ4, hk3, by simp [conc], hT3.1, ((hM1.trans hT.2).trans hM3).trans hT3.2, by simp [V]⟩
        cases e <;> simp only [exitJump] at hj <;> first | (cases hj; done) | (cases hj; exact ⟨_, _, hend, hC⟩)
  · cases h

/-- what a region that draws its order owes -/
def DrawOk (P : Program) (W : World) (G : List (Nat × List AV)) (F : Fns) : Prop := ∀ (ro : Option Nat) (θ : Nat → Ent) (σ : AW) (w : World) (id : Nat) (ops : Array Oper) (l : List (Nat × Option (List Nat))) (t : List AV) (d : List Mk) (K : KO),
  Rel P W θ σ w → Vs θ σ.n t → DV θ σ.n d → (∀ l, ro = some l → l < σ.n) → plan P ops = some l → runPlan P G F ops l [] t σ K = true →
    (Code.region id ops true).wpIn (fen θ ro) 0 P (PostN P W θ σ w d K) (actOf θ t d) w

theorem codeF_ok {m : Nat} (hF : FnsOk P W m F) (hG : GOk G W) (hD : DrawOk P W G F) {ro : Option Nat} {c : Code} {K : KC} (hR : Rel P W θ σ w) (hV : Vs θ σ.n t) (hd : DV θ σ.n d) (hro : ∀ l, ro = some l → l < σ.n)
    (h : codeF P G F ro c t d σ K = true) : c.wpIn (fen θ ro) 0 P (Post P W θ σ w K) (actOf θ t d) w := by
  have nrm : ∀ e a w', PostN P W θ σ w d (fun t σ => K .normal t d σ) e a w' → Post P W θ σ w K e a w' := by
    rintro e a w' ⟨rfl, θ', t', σ', hk, h1, h2, h3, h4, h5⟩
    exact ⟨θ', t', d, σ', hk, h1, h2, h3, h4, h5⟩
  unfold codeF at h
  split at h
  · exact wpIn_skip (post_here hR hV hd h)
  · exact wpIn_label (post_here hR hV hd h)
  · rename_i a b
    refine wpIn_seq ?_
    refine wpIn_mono (hF.code ro θ σ w a t d _ hR hV hd hro h) fun e a' w1 hp => ?_
    obtain ⟨θ1, t1, d1, σ1, hk, hR1, hM1, hV1, hd1, rfl⟩ := hp
    cases e with
    | normal =>
      have hk : F.code ro b t1 d1 σ1 K = true := hk
      have := hF.code ro θ1 σ1 w1 b t1 d1 K hR1 hV1 hd1 (fun l hl => Nat.lt_of_lt_of_le (hro l hl) hM1.n) hk
      rw [fen_ext hM1 hro] at this
      exact wpIn_mono this fun e a w hp => Post.after hM1 hp
    | _ => exact ⟨θ1, t1, d1, σ1, hk, hR1, hM1, hV1, hd1, rfl⟩
  · rename_i c a b
    split at h
    · cases h
    rename_i hok
    have hok : evOk c = true := by simpa using hok
    have hev : (actOf θ t d).eval c = conc θ (ev t c) := eval_conc hok
    split at h
    · rename_i hc
      rw [hc] at hev
      exact wpIn_cond_true (by simpa [conc] using hev) (hF.code ro θ σ w a t d K hR hV hd hro h)
    · rename_i hc
      rw [hc] at hev
      exact wpIn_cond_false (by simpa [conc] using hev) (hF.code ro θ σ w b t d K hR hV hd hro h)
    · cases h
  · rename_i id c
    refine wpIn_block ?_
    refine wpIn_mono (hF.code ro θ σ w c t d _ hR hV hd hro h) fun e a' w1 hp => ?_
    obtain ⟨θ1, t1, d1, σ1, hk, hp⟩ := hp
    cases e with
    | exit i =>
      simp only [Exit.inBlock]
      simp only [blockK] at hk
      split
      · rename_i hi; rw [if_pos hi] at hk; exact ⟨θ1, t1, d1, σ1, hk, hp⟩
      · rename_i hi; rw [if_neg hi] at hk; exact ⟨θ1, t1, d1, σ1, hk, hp⟩
    | _ => exact ⟨θ1, t1, d1, σ1, hk, hp⟩
  · rename_i c
    refine wpIn_mono (wpIn_scope (hF.code ro θ σ w c t d _ hR hV hd hro h) fun l a w hp => ?_) fun e a w hp => ?_
    · obtain ⟨_, _, _, _, hk, _⟩ := hp
      cases hk
    · obtain ⟨θ1, t1, d1, σ1, hk, hp⟩ := hp
      cases e with
      | goto l => cases hk
      | _ => exact ⟨θ1, t1, d1, σ1, hk, hp⟩
  · rename_i c
    exact wpIn_loop_rounds m (hF.loop ro θ σ w c t d K hR hV hd hro h)
  · exact wpIn_exit (post_here hR hV hd h)
  · exact wpIn_ret (post_here hR hV hd h)
  · rename_i id ops
    split at h
    · exact wpIn_mono (wpIn_region_list (runOps_ok hF hG ro ops hro ops.toList θ σ w t hR (Mv.refl (P := P) (W := W)) hV hd h)) nrm
    · rename_i l o hdf
      have hops : ops.toList = l ++ [o] := by
        unfold dfrOf at hdf
        split at hdf
        · rename_i o' hlast
          split at hdf
          · simp only [Option.some.injEq, Prod.mk.injEq] at hdf
            obtain ⟨rfl, rfl⟩ := hdf
            obtain ⟨ys, hys⟩ := List.getLast?_eq_some_iff.1 hlast
            rw [hys]
            simp
          · cases hdf
        · cases hdf
      cases ro with
      | some k => cases h
      | none =>
        refine wpIn_region_list ?_
        rw [hops]
        refine runOps_onto hF hG none ops hro (fun θ' σ' w' t' hk hR' hM' hV' hd' => ?_) l θ σ w t hR (Mv.refl (P := P) (W := W)) hV hd h
        exact dfr_ok hV' hk fun m t2 hk2 hm2 hV2 => ⟨θ', t2, m :: d, σ', hk2, hR', hM', hV2, fun m' hm' => by
          rcases List.mem_cons.1 hm' with rfl | hm'
          · exact hm2
          · exact hd' m' hm', rfl⟩
  · rename_i id ops
    split at h
    · rename_i l hl
      exact wpIn_mono (hD ro θ σ w id ops l t d _ hR hV hd hro hl h) nrm
    · cases h
  · rename_i f ps asg body
    split at h
    · cases h
    rename_i hok
    exact rangeF_ok hF (by simpa using hok) hR hV hd hro h
  · cases h

theorem botF_ok : FnsOk P W 0 botF := ⟨fun _ _ _ _ _ _ _ _ _ _ _ _ h => (by simp [botF] at h), fun _ _ _ _ _ _ _ _ _ _ _ _ h => (by simp [botF] at h), fun _ _ _ _ _ _ _ _ h => (by simp [botF] at h), fun _ _ _ _ _ _ _ _ _ h => (by simp [botF] at h)⟩
theorem stepF_ok {m : Nat} (hF : FnsOk P W m F) (hG : GOk G W) (hD : DrawOk P W G F) : FnsOk P W (m + 1) (stepF P G F) :=
  ⟨fun _ _ _ _ _ _ _ _ a b c d h => codeF_ok hF hG hD a b c d h, fun _ _ _ _ _ _ _ _ a b c d h => loopF_ok hF a b c d h, fun _ _ _ _ _ _ a b h => callF_ok hF hG a b h, fun _ _ _ _ _ _ a b c h => roundF_ok hF a b c h⟩
end
end Go.Proofs.YtdennekkbdlhdaaDoor.Ev
