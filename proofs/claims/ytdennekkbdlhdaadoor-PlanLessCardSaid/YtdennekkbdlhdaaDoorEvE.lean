/-
  Regions that draw their order: what is still is taken first, under guards.
-/
import Derived.Test.YtdennekkbdlhdaaDoorEvD
import Derived.OpenShut
import Derived.ChangeArms
import Derived.LaidLaws
namespace Go.Proofs.YtdennekkbdlhdaaDoor.Ev
open Go.RowKit
set_option linter.unusedVariables false
set_option linter.unusedSimpArgs false

/-- a condition on the world that counts as long as none of those behind has come up -/
structure Gd where
  bh : List Nat
  S : World → Prop
def Gd.on (g : Gd) (listed : Array Bool) : Prop := ∀ j ∈ g.bh, listed.getD j true = false

section
variable {Fe : Fence} {n : Nat} {P : Program} {ops : Array Oper} {Q : Exit → Act → World → Prop}

def wpAnyD (Fe : Fence) (n : Nat) (P : Program) (ops : Array Oper) (Q : Exit → Act → World → Prop) (GL : List Gd) : Nat → Array Bool → Act → World → Prop
  | 0, listed, a, w => Region.ready .any ops listed = [] ∧ Q .normal a w
  | fuel + 1, listed, a, w => (Region.ready .any ops listed = [] → Q .normal a w) ∧
    ∀ i ∈ Region.ready .any ops listed, wpOpIn Fe n P ops Q i (fun a' w' => (∀ g ∈ GL, g.on (listed.setIfInBounds i true) → g.S w') ∧ wpAnyD Fe n P ops Q GL fuel (listed.setIfInBounds i true) a' w') a w

theorem wpAnyIn_of_D {GL : List Gd} : ∀ (fuel : Nat) (listed : Array Bool) (a : Act) (w : World), wpAnyD Fe n P ops Q GL fuel listed a w → wpAnyIn Fe n P .any ops Q fuel listed a w
  | 0, _, _, _, h => h
  | fuel + 1, listed, a, w, h => ⟨h.1, fun i hi => wpOpIn_mono (fun a' w' hk => wpAnyIn_of_D fuel _ a' w' hk.2) (h.2 i hi)⟩

def YieldsS (P : Program) (ops : Array Oper) (o : Oper) (v : Value) (S : World → Prop) (a : Act) : Prop :=
  (Region.wanted o (yielded ops a.tmps) = true ∧ ∀ w, S w → (execOp a.eval o).run P w = .ok (.value v) w) ∨ (Region.wanted o (yielded ops a.tmps) = false ∧ v = undef)

theorem YieldsS.of_same {o : Oper} {v : Value} {S : World → Prop} {a a' : Act} (hy : YieldsS P ops o v S a) (he : execOp a'.eval o = execOp a.eval o)
    (hw : Region.wanted o (yielded ops a'.tmps) = Region.wanted o (yielded ops a.tmps)) : YieldsS P ops o v S a' := by
  unfold YieldsS at *
  rw [he, hw]
  exact hy
theorem YieldsS.wpOp (hFn : ∀ f, Fe.fn f) {i : Nat} {o : Oper} {v : Value} {S : World → Prop} {a : Act} (hd : ∀ c, o.op ≠ .defer c) (hi : ops[i]? = some o) (hy : YieldsS P ops o v S a) {K : Act → World → Prop} {w : World} (hS : S w) (h : K (a.put o.dst v) w) :
    wpOpIn Fe n P ops Q i K a w := by
  unfold Go.wpOpIn
  simp only [hi]
  rcases hy with ⟨hw, hv⟩ | ⟨hw, rfl⟩
  · simp only [hw, if_true, Oper.wpIn, Oper.semAt_eq _ _ _ hd, hv w hS, Oper.uponIn]; exact ⟨fun f _ => hFn f, h⟩
  · simp only [hw, Bool.false_eq_true, if_false]; exact ⟨fun f _ => hFn f, h⟩

theorem wpOpIn_putS (hFn : ∀ f, Fe.fn f) {j : Nat} {oi oj : Oper} {v : Value} {S : World → Prop} (hdj : ∀ c, oj.op ≠ .defer c) (hj : ops[j]? = some oj) (hap : oi.apart ops oj = true)
    (hsi : ∀ cs b, oi.op ≠ .select cs b) (hsj : ∀ cs b, oj.op ≠ .select cs b)
    (hQ : ∀ c a w, Q (.panic c) (a.put oi.dst v) w → Q (.panic c) a w) {K : Act → World → Prop} {a : Act} {w : World}
    (hy : YieldsS P ops oi v S a) (h : wpOpIn Fe n P ops Q j K (a.put oi.dst v) w) :
    wpOpIn Fe n P ops Q j (fun a' w' => YieldsS P ops oi v S a' ∧ K (a'.put oi.dst v) w') a w := by
  obtain ⟨h1, h2, h3⟩ := Oper.apart_spec hap
  have keep : ∀ (a : Act), YieldsS P ops oi v S a → ∀ u, YieldsS P ops oi v S (a.put oj.dst u) := fun a hy u =>
    hy.of_same (execOp_put oi hsi a oj.dst u h3) (wanted_put oi a oj.dst u h3)
  have keepD : ∀ d, YieldsS P ops oi v S { a with defers := d :: a.defers } := fun d => hy.of_same rfl rfl
  unfold wpOpIn at *
  simp only [hj] at *
  rw [wanted_put oj a oi.dst v h1] at h
  split
  · rename_i hw
    simp only [hw, if_true] at h
    unfold Oper.wpIn at *
    refine ⟨fun f _ => hFn f, ?_⟩
    have h := h.2
    rw [Oper.semAt_eq _ _ _ hdj, execOp_put oj hsj a oi.dst v h1] at h
    rw [Oper.semAt_eq _ _ _ hdj]
    generalize (execOp a.eval oj).run P w = r at *
    cases r with
    | ok x w' =>
      cases x <;> simp only [Oper.uponIn] at h ⊢
      case value u => exact ⟨keep a hy u, by rw [← Act.put_comm a v u h2]; exact h⟩
      case skip => exact ⟨keep a hy _, by rw [← Act.put_comm a v undef h2]; exact h⟩
      case defer d =>
        refine ⟨keep _ (keepD d) _, ?_⟩
        rw [← Act.put_comm _ v undef h2, ← Act.put_defers]
        exact h
      case enter f args =>
        refine ⟨h.1, CallsIn.mono h.2 fun e w'' he => ?_⟩
        cases e with
        | returned u => exact ⟨keep a hy u, by rw [← Act.put_comm a v u h2]; exact he⟩
        | panicked c => exact hQ _ _ _ he
        | outgrown => exact he
      case row row args => exact ⟨h.1, RowsIn.mono h.2 fun u w'' he => ⟨keep a hy u, by rw [← Act.put_comm a v u h2]; exact he⟩⟩
      case round l f tmps assign body =>
        refine ⟨h.1, RoundIn.mono h.2 fun e w'' he => ?_⟩
        cases e with
        | returned u => exact ⟨keep a hy u, by rw [← Act.put_comm a v u h2]; exact he⟩
        | panicked c => exact hQ _ _ _ he
        | outgrown => exact he
    | halt x w' =>
      cases x <;> simp only [Oper.uponIn] at h ⊢
      case panic u => exact hQ _ _ _ h
  · rename_i hw
    simp only [hw] at h
    exact ⟨fun f _ => hFn f, keep a hy _, by rw [← Act.put_comm a v undef h2]; exact h.2⟩

theorem on_mono {g : Gd} {listed : Array Bool} {i : Nat} (h : g.on (listed.setIfInBounds i true)) : g.on listed := by
  intro j hj
  have := h j hj
  by_cases e : i = j
  · subst e
    rcases Nat.lt_or_ge i listed.size with hl | hl
    · simp [hl] at this
    · simp [Array.getElem?_eq_none hl] at this
  · rwa [getD_set_ne true e] at this

theorem wpAnyD_first (hFn : ∀ f, Fe.fn f) (hnd : ∀ (j : Nat) (o : Oper), ops[j]? = some o → ∀ c, o.op ≠ .defer c) {GL : List Gd} {g0 : Gd} {i : Nat} {oi : Oper} {v : Value} (hi : ops[i]? = some oi) (hsel : ∀ (j : Nat) (o : Oper) cs b, ops[j]? = some o → o.op ≠ .select cs b)
    (hQ : ∀ c a w, Q (.panic c) (a.put oi.dst v) w → Q (.panic c) a w)
    (B : List Nat) (hB : ∀ j ∈ g0.bh, j ∈ B) (hGi : ∀ g ∈ g0 :: GL, i ∉ g.bh)
    (hcl : ∀ j ∈ B, ∃ oj e, ops[j]? = some oj ∧ e ∈ oj.after ∧ Region.binds .any e = true ∧ (e.on = i ∨ e.on ∈ B)) :
    ∀ (fuel : Nat) (listed : Array Bool) (a : Act) (w : World),
      (∀ j oj, ops[j]? = some oj → j ≠ i → listed.getD j true = false → (∀ e ∈ oj.after, Region.binds .any e = true → e.on ≠ i) → oi.apart ops oj = true) →
      i ∈ Region.ready .any ops listed → (∀ j ∈ B, listed.getD j true = false) → YieldsS P ops oi v g0.S a → g0.S w → (∀ g ∈ GL, g.on listed → g.S w) →
      wpAnyD Fe n P ops Q (g0 :: GL) fuel (listed.setIfInBounds i true) (a.put oi.dst v) w → wpAnyD Fe n P ops Q GL (fuel + 1) listed a w := by
  have weak : ∀ (fuel : Nat) (listed : Array Bool) (a : Act) (w : World), wpAnyD Fe n P ops Q (g0 :: GL) fuel listed a w → wpAnyD Fe n P ops Q GL fuel listed a w := by
    intro fuel
    induction fuel with
    | zero => intro listed a w h; exact h
    | succ fuel ih =>
      intro listed a w h
      exact ⟨h.1, fun i hi => wpOpIn_mono (fun a' w' hk => ⟨fun g hg => hk.1 g (List.mem_cons_of_mem _ hg), ih _ _ _ hk.2⟩) (h.2 i hi)⟩
  intro fuel
  induction fuel with
  | zero =>
    intro listed a w _ hr hb hy hS hGL H
    refine ⟨fun h => (by rw [h] at hr; cases hr), fun j hj => ?_⟩
    by_cases hji : j = i
    · subst hji; exact hy.wpOp hFn (hnd _ _ hi) hi hS ⟨fun g hg ho => hGL g hg (on_mono ho), H⟩
    · have := ready_mono hj hji
      rw [H.1] at this
      cases this
  | succ fuel ih =>
    intro listed a w hfree hr hb hy hS hGL H
    refine ⟨fun h => (by rw [h] at hr; cases hr), fun j hj => ?_⟩
    by_cases hji : j = i
    · subst hji; exact hy.wpOp hFn (hnd _ _ hi) hi hS ⟨fun g hg ho => hGL g hg (on_mono ho), weak _ _ _ _ H⟩
    · have h1 := H.2 j (ready_mono hj hji)
      obtain ⟨hjun, oj, hoj, hall⟩ := mem_ready.1 hj
      have hun : ∀ k, listed.getD k true = false → listed.getD k false = true → False := fun k h0 h1 => by
        rcases Nat.lt_or_ge k listed.size with h' | h'
        · simp [h'] at h0 h1; rw [h0] at h1; cases h1
        · simp [Array.getElem?_eq_none h'] at h1
      have hnot : ∀ e ∈ oj.after, Region.binds .any e = true → e.on ≠ i := fun e he hb heq => by
        have h1 := hall e he hb
        rw [heq] at h1
        exact hun i (mem_ready.1 hr).1 h1
      have hjb : j ∉ B := fun hjb => by
        obtain ⟨oj', e, ho', he, hbi, hon⟩ := hcl j hjb
        rw [hoj] at ho'
        cases ho'
        rcases hon with hon | hon
        · exact hnot e he hbi hon
        · exact hun e.on (hb e.on hon) (hall e he hbi)
      have h2 := wpOpIn_putS hFn (hnd j oj hoj) hoj (hfree j oj hoj hji hjun hnot) (fun cs b => hsel i oi cs b hi) (fun cs b => hsel j oj cs b hoj) hQ hy h1
      have hfree' : ∀ k ok, ops[k]? = some ok → k ≠ i → (listed.setIfInBounds j true).getD k true = false →
          (∀ e ∈ ok.after, Region.binds .any e = true → e.on ≠ i) → oi.apart ops ok = true := fun k ok hk hki hun hno => by
        refine hfree k ok hk hki ?_ hno
        by_cases hjk : j = k
        · subst hjk; exact hjun
        · rw [getD_set_ne true hjk] at hun; exact hun
      have hsetb : ∀ k, k ≠ j → (listed.setIfInBounds j true).getD k true = listed.getD k true := fun k hk => getD_set_ne true (Ne.symm hk)
      have honj : ∀ g : Gd, g.on (listed.setIfInBounds j true) → j ∉ g.bh := fun g ho hjg => by
        have := ho j hjg
        rcases Nat.lt_or_ge j listed.size with hl | hl
        · simp [hl] at this
        · simp [Array.getElem?_eq_none hl] at hjun
      refine wpOpIn_mono (fun a' w' h3 => ?_) h2
      obtain ⟨hy', hg', hw'⟩ := h3
      have hb' : ∀ k ∈ B, (listed.setIfInBounds j true).getD k true = false := fun k hk => by
        rw [hsetb k (fun e => hjb (e ▸ hk))]; exact hb k hk
      have both : ∀ g : Gd, g.on (listed.setIfInBounds j true) → i ∉ g.bh → g.on ((listed.setIfInBounds i true).setIfInBounds j true) := fun g ho hig k hk => by
        have := ho k hk
        have hkj : j ≠ k := fun e => honj g ho (e ▸ hk)
        have hki : i ≠ k := fun e => hig (e ▸ hk)
        rw [getD_set_ne true hkj] at this ⊢
        rw [getD_set_ne true hki]
        exact this
      have hS' : g0.S w' := hg' g0 (List.mem_cons_self ..) (both g0 (fun k hk => hb' k (hB k hk)) (hGi g0 (List.mem_cons_self ..)))
      have hG' : ∀ g ∈ GL, g.on (listed.setIfInBounds j true) → g.S w' := fun g hg ho => hg' g (List.mem_cons_of_mem _ hg) (both g ho (hGi g (List.mem_cons_of_mem _ hg)))
      refine ⟨hG', ih (listed.setIfInBounds j true) a' w' hfree' (ready_mono hr (Ne.symm hji)) hb' hy' hS' hG' ?_⟩
      rw [Array.setIfInBounds_comm _ _ hji]
      exact hw'
end
end Go.Proofs.YtdennekkbdlhdaaDoor.Ev
/-
  Regions that draw their order: the plan's order is as good as any.
-/
namespace Go.Proofs.YtdennekkbdlhdaaDoor.Ev
open Go.RowKit
set_option linter.unusedVariables false
set_option linter.unusedSimpArgs false

theorem sameV_eq {a b : AV} (h : sameV a b = true) : a = b := by
  unfold sameV at h
  split at h <;> simp_all
  rename_i x y
  obtain ⟨⟨x⟩⟩ := x
  obtain ⟨⟨y⟩⟩ := y
  simp_all
theorem sameVs_eq : ∀ {l m : List AV}, sameVs l m = true → l = m := by
  intro l
  induction l with
  | nil => intro m h; cases m <;> simp_all [sameVs]
  | cons x l ih =>
    intro m h
    cases m with
    | nil => simp [sameVs] at h
    | cons y m =>
      simp only [sameVs, Bool.and_eq_true] at h
      rw [sameV_eq h.1, ih h.2]

section
variable {P : Program} {W : World} {G : List (Nat × List AV)} {F : Fns} {σ σ' : AW} {t t' : List AV} {K : KO} {ops : Array Oper}

theorem keptD_mem : ∀ {D : List Rd}, keptD σ D = true → ∀ dd ∈ D, ∃ cs e op, rowOf σ dd.r = some (cs, e, op) ∧ getRange cs dd.o dd.vs.length = some dd.vs := by
  intro D
  induction D with
  | nil => intro _ dd h; cases h
  | cons d0 D ih =>
    intro h dd hdd
    simp only [keptD, Bool.and_eq_true] at h
    rcases List.mem_cons.1 hdd with rfl | hdd
    · have h := h.1
      split at h
      · rename_i cs e op hr
        split at h
        · rename_i us hu
          exact ⟨cs, e, op, hr, by rw [hu, sameVs_eq h]⟩
        · cases h
      · cases h
    · exact ih h.2 dd hdd
theorem dropD_mem {i : Nat} : ∀ {D : List Rd} {dd : Rd}, dd ∈ D → i ∉ dd.bh → dd ∈ dropD i D := by
  intro D
  induction D with
  | nil => intro dd h; cases h
  | cons d0 D ih =>
    intro dd h hi
    simp only [dropD]
    rcases List.mem_cons.1 h with rfl | h
    · rw [if_neg (by simpa using hi)]; exact List.mem_cons_self ..
    · split
      · exact ih h hi
      · exact List.mem_cons_of_mem _ (ih h hi)

def rdS (θ : Nat → Ent) (dd : Rd) (w : World) : Prop := ∀ j u, (concs θ dd.vs)[j]? = some u → w.cell? ⟨(θ dd.r).blk, dd.o + j, none⟩ = some u
/-- a guard that is kept: by what the run checks, or by itself -/
def Keeps (P : Program) (W : World) (θ : Nat → Ent) (σ : AW) (D : List Rd) (g : Gd) (w : World) : Prop :=
  (∃ dd ∈ D, dd.bh = g.bh ∧ dd.r < σ.n ∧ Vs θ σ.n dd.vs ∧ rdS θ dd w ∧ ∀ w, rdS θ dd w → g.S w) ∨ ∀ (θ : Nat → Ent) (σ : AW) (w : World), Rel P W θ σ w → g.S w

theorem rdS_ext {θ θ' : Nat → Ent} {n : Nat} (h : ∀ r, r < n → θ' r = θ r) {dd : Rd} (hr : dd.r < n) (hv : Vs θ n dd.vs) (w : World) : rdS θ' dd w ↔ rdS θ dd w := by
  unfold rdS
  rw [concs_ext h dd.vs hv, h dd.r hr]

theorem behindL_spec {listed : Array Bool} {i : Nat} {o : Oper} {bh : List Nat} (ho : ops[i]? = some o) (h : behindL P ops listed i = some bh) :
    ∃ B : List Nat, (∀ j ∈ bh, j ∈ B) ∧ (∀ j ∈ bh, ∀ oj, ops[j]? = some oj → stillKind P oj = false) ∧ (∀ j ∈ B, listed.getD j true = false) ∧
      ∀ j ∈ B, ∃ oj e, ops[j]? = some oj ∧ e ∈ oj.after ∧ Region.binds .any e = true ∧ (e.on = i ∨ e.on ∈ B) := by
  unfold behindL at h
  rw [ho] at h
  simp only at h
  split at h
  · rw [fLs_eq] at h
    split at h
    · rename_i B hB
      split at h
      · rename_i hok
        rw [fLs_eq] at h
        cases h
        refine ⟨B, fun j hj => (List.mem_filter.1 hj).1, fun j hj oj hoj => ?_, fun j hj => ?_, fun j hj => ?_⟩
        · have := (List.mem_filter.1 hj).2
          rw [hoj] at this
          simpa using this
        · have := List.all_eq_true.1 hok j hj
          simp only [Bool.and_eq_true] at this
          simpa using this.1
        · have := List.all_eq_true.1 hok j hj
          simp only [Bool.and_eq_true] at this
          have h2 := this.2
          split at h2
          · rename_i oj hoj
            obtain ⟨e, he, hh⟩ := List.any_eq_true.1 h2
            simp only [Bool.and_eq_true, Bool.or_eq_true, beq_iff_eq] at hh
            exact ⟨oj, e, hoj, by simpa using he, hh.1, by simpa using hh.2⟩
          · cases h2
      · cases h
    · cases h
  · cases h
    exact ⟨[], by simp, by simp, by simp, by simp⟩

theorem ready_lt {listed : Array Bool} {i : Nat} (h : i ∈ Region.ready .any ops listed) : i < listed.size ∧ ∃ o, ops[i]? = some o := by
  obtain ⟨h0, o, ho, _⟩ := mem_ready.1 h
  refine ⟨?_, o, ho⟩
  rcases Nat.lt_or_ge i listed.size with hl | hl
  · exact hl
  · simp [Array.getElem?_eq_none hl] at h0

theorem plain_conc {u : AV} {x : Value} (h : toV1 u = some x) (θ θ2 : Nat → Ent) : conc θ2 u = conc θ u := (of_toV1 h θ2).trans (of_toV1 h θ).symm
theorem glob_conc {ty : TypeId} {cs : List AV} {o : Nat} {v : AV} {θ θ2 : Nat → Ent} (h : loadP P ty cs o = some v) (hc : ∀ u ∈ cs, ∃ x, toV1 u = some x) : conc θ2 v = conc θ v := by
  unfold loadP at h
  split at h
  · split at h
    · rename_i m hm
      cases h
      simp only [conc]
      congr 2
      rw [concs_map, concs_map]
      refine List.map_congr_left fun u hu => ?_
      obtain ⟨x, hx⟩ := hc u (getRange_mem hm hu)
      exact plain_conc hx θ θ2
    · cases h
  · obtain ⟨x, hx⟩ := hc v (List.mem_of_getElem? h)
    exact plain_conc hx θ θ2
  · cases h

/-- what the plan's rest owes, none being ahead -/
def PlanA (P : Program) (W : World) (G : List (Nat × List AV)) (F : Fns) (ops : Array Oper) (ro : Option Nat) (θ0 : Nat → Ent) (σ0 : AW) (w0 : World) (K : KO) (fuel : Nat) : Prop :=
  ∀ (listed : Array Bool) (pl : List (Nat × Option (List Nat))) (GL : List Gd) (D : List Rd) (θ : Nat → Ent) (σ : AW) (w : World) (t : List AV) (d : List Mk),
      planGo P ops fuel listed = some pl → runPlan P G F ops pl D t σ K = true → Rel P W θ σ w → Mv θ0 σ0 w0 θ σ w → Vs θ σ.n t → DV θ σ.n d →
      (∀ g ∈ GL, g.on listed → Keeps P W θ σ D g w) → (∀ g ∈ GL, ∀ j ∈ g.bh, ∀ oj, ops[j]? = some oj → stillKind P oj = false) →
      wpAnyD (fen θ0 ro) 0 P ops (PostN P W θ0 σ0 w0 d K) GL fuel listed (actOf θ t d) w

/-- a variable that was made ahead -/
structure Ahead (P : Program) (W : World) (ops : Array Oper) (w0 : World) (θ : Nat → Ent) (σ : AW) (w : World) (listed : Array Bool) (e : Nat) (o : Oper) (b : Nat) : Prop where
  op : ops[e]? = some o
  fl : isFloat P ops e = true
  un : listed.getD e true = false
  lt : b < w.heap.size
  own : w0.heap.size ≤ b
  low : W.heap.size ≤ b
  at_ : ∃ ty z i v, o.op = .alloc ty ∧ P.info? ty = some i ∧ i.zero = some v ∧ ofV v = some z ∧ zeroP P ty = some z ∧ w.heap[b]? = some (.cells v.cells ty (0, 0))
  apart : ∀ r p, σ.t.get r = some p → (θ r).blk ≠ b

/-- what the plan's rest owes, one variable having been made ahead -/
def PlanB (P : Program) (W : World) (G : List (Nat × List AV)) (F : Fns) (ops : Array Oper) (ro : Option Nat) (θ0 : Nat → Ent) (σ0 : AW) (w0 : World) (K : KO) (fuel : Nat) : Prop :=
  ∀ (listed : Array Bool) (pl : List (Nat × Option (List Nat))) (GL : List Gd) (D : List Rd) (θ : Nat → Ent) (σ : AW) (w : World) (t : List AV) (d : List Mk) (e : Nat) (o : Oper) (b : Nat),
      planGo P ops (fuel + 1) listed = some pl → runPlan P G F ops pl D t σ K = true → Rel P W θ σ w → Mv θ0 σ0 w0 θ σ w → Vs θ σ.n t → DV θ σ.n d →
      (∀ g ∈ GL, g.on listed → Keeps P W θ σ D g w) → (∀ g ∈ GL, ∀ j ∈ g.bh, ∀ oj, ops[j]? = some oj → stillKind P oj = false) → Ahead P W ops w0 θ σ w listed e o b →
      wpAnyD (fen θ0 ro) 0 P ops (PostN P W θ0 σ0 w0 d K) GL fuel (listed.setIfInBounds e true) ((actOf θ t d).put o.dst (.pointer (some ⟨b, 0, none⟩))) w

theorem planA_zero {ro : Option Nat} {θ0 : Nat → Ent} {σ0 : AW} {w0 : World} : PlanA P W G F ops ro θ0 σ0 w0 K 0 := by
  intro listed pl GL D θ σ w t d hp h hR hM hV hd _ _
  simp only [planGo] at hp
  split at hp
  · rename_i he
    cases hp
    simp only [runPlan] at h
    exact ⟨by simpa using he, rfl, θ, t, σ, h, hR, hM, hV, hd, rfl⟩
  · cases hp

theorem must_ok {m : Nat} (hF : FnsOk P W m F) (hG : GOk G W) {ro : Option Nat} {θ0 : Nat → Ent} {σ0 : AW} {w0 : World} (hro : ∀ l, ro = some l → l < σ0.n) {listed : Array Bool} {i : Nat} {l : List (Nat × Option (List Nat))} {GL : List Gd} {D : List Rd} {θ : Nat → Ent} {σ : AW} {w : World} {d : List Mk}
    {X : Act → World → Prop} {Q : Exit → Act → World → Prop} (h : runPlan P G F ops ((i, none) :: l) D t σ K = true) (hmem : i ∈ Region.ready .any ops listed) (hR : Rel P W θ σ w) (hM : Mv θ0 σ0 w0 θ σ w) (hV : Vs θ σ.n t) (hd : DV θ σ.n d) (hK : ∀ g ∈ GL, g.on listed → Keeps P W θ σ D g w)
    (cont : ∀ (t1 : List AV) (σ1 : AW) (θ1 : Nat → Ent) (w1 : World) (D1 : List Rd), runPlan P G F ops l D1 t1 σ1 K = true → Rel P W θ1 σ1 w1 → Mv θ0 σ0 w0 θ1 σ1 w1 → Vs θ1 σ1.n t1 → DV θ1 σ1.n d → (∀ g ∈ GL, g.on (listed.setIfInBounds i true) → Keeps P W θ1 σ1 D1 g w1) → Mv θ σ w θ1 σ1 w1 → X (actOf θ1 t1 d) w1) :
    wpOpIn (fen θ0 ro) 0 P ops Q i (fun a' w' => (∀ g ∈ GL, g.on (listed.setIfInBounds i true) → g.S w') ∧ X a' w') (actOf θ t d) w := by
  obtain ⟨hlt, o, ho⟩ := ready_lt hmem
  simp only [runPlan, ho] at h
  have onr : ∀ g : Gd, g.on (listed.setIfInBounds i true) → i ∉ g.bh := fun g hon hi => by
    have := hon i hi
    simp [hlt] at this
  have hS : ∀ (θ : Nat → Ent) (σ : AW) (D : List Rd) (w : World) (g : Gd), Rel P W θ σ w → Keeps P W θ σ D g w → g.S w := fun θ σ D w g hR hk => by
    rcases hk with ⟨dd, _, _, _, _, q5, q6⟩ | q
    · exact q6 w q5
    · exact q θ σ w hR
  unfold wpOpIn
  simp only [ho, yielded_act]
  split at h
  · rename_i hw
    rw [if_pos hw]
    · · rw [← fen_ext hM hro]
        refine one_ok hF hG hR hV hd ro h fun θ1 w1 t1 σ1 h hR1 hM1 hV1 => ?_
        split at h
        case isFalse => cases h
        rename_i hkept
        have hk1 : ∀ g ∈ GL, g.on (listed.setIfInBounds i true) → Keeps P W θ1 σ1 (dropD i D) g w1 := fun g hg hon => by
          rcases hK g hg (on_mono hon) with ⟨dd, q1, q2, q3, q4, q5, q6⟩ | q
          · have hm := dropD_mem q1 (by rw [q2]; exact onr g hon)
            obtain ⟨cs, e, op, hr, hgr⟩ := keptD_mem hkept dd hm
            exact .inl ⟨dd, hm, q2, Nat.lt_of_lt_of_le q3 hM1.n, Vs_ext hM1.ext hM1.n _ q4, (hR1.cells hr hgr).2.2.2, fun w2 h2 => q6 w2 ((rdS_ext hM1.ext q3 q4 w2).1 h2)⟩
          · exact .inr q
        exact ⟨fun g hg hon => hS _ _ _ _ g hR1 (hk1 g hg hon), cont t1 σ1 θ1 w1 _ h hR1 (hM.trans hM1) hV1 (DV_ext hM1.ext hM1.n hd) hk1 hM1⟩
  · rename_i hw
    rw [if_neg hw]
    split at h
    · rename_i t1 hpt
      refine ⟨fun f _ => fen_fn θ0 ro f, fun g hg hon => hS _ _ _ _ g hR (hK g hg (on_mono hon)), ?_⟩
      rw [← undef_conc (θ := θ), put_act hpt]
      exact cont t1 σ θ w D h hR hM (put_V hpt hV (by simp [V, Vs])) hd (fun g hg hon => hK g hg (on_mono hon)) (Mv.refl (P := P) (W := W))
    · cases h

/-- what is still, or apart, does not mind a variable's pointer -/
theorem wpOpIn_unput {Fe : Fence} {n : Nat} {Q : Exit → Act → World → Prop} (hFn : ∀ f, Fe.fn f) {j : Nat} {oe oj : Oper} {v : Value} (hdj : ∀ c, oj.op ≠ .defer c) (hj : ops[j]? = some oj) (hap : oe.apart ops oj = true) (hsj : ∀ cs b, oj.op ≠ .select cs b)
    (hQ : ∀ c a w, ¬ Q (.panic c) a w) {K : Act → World → Prop} {a : Act} {w : World} (h : wpOpIn Fe n P ops Q j (fun a' w' => K (a'.put oe.dst v) w') a w) : wpOpIn Fe n P ops Q j K (a.put oe.dst v) w := by
  obtain ⟨h1, h2, h3⟩ := Oper.apart_spec hap
  unfold wpOpIn at *
  simp only [hj] at *
  rw [wanted_put oj a oe.dst v h1]
  split
  · rename_i hw
    simp only [hw, if_true] at h
    unfold Oper.wpIn at *
    refine ⟨fun f _ => hFn f, ?_⟩
    have h := h.2
    rw [Oper.semAt_eq _ _ _ hdj] at h
    rw [Oper.semAt_eq _ _ _ hdj, execOp_put oj hsj a oe.dst v h1]
    generalize (execOp a.eval oj).run P w = r at *
    cases r with
    | ok x w' =>
      cases x <;> simp only [Oper.uponIn] at h ⊢
      case value u => rw [Act.put_comm a v u h2]; exact h
      case skip => rw [Act.put_comm a v undef h2]; exact h
      case defer d =>
        rw [Act.put_defers, Act.put_comm _ v undef h2]
        exact h
      case enter f args =>
        refine ⟨h.1, CallsIn.mono h.2 fun e w'' he => ?_⟩
        cases e with
        | returned u => simp only at he ⊢; rw [Act.put_comm a v u h2]; exact he
        | panicked c => exact absurd he (hQ _ _ _)
        | outgrown => exact he
      case row row args => exact ⟨h.1, RowsIn.mono h.2 fun u w'' he => by rw [Act.put_comm a v u h2]; exact he⟩
      case round l f tmps assign body =>
        refine ⟨h.1, RoundIn.mono h.2 fun e w'' he => ?_⟩
        cases e with
        | returned u => simp only at he ⊢; rw [Act.put_comm a v u h2]; exact he
        | panicked c => exact absurd he (hQ _ _ _)
        | outgrown => exact he
    | halt x w' =>
      cases x <;> simp only [Oper.uponIn] at h ⊢
      case panic u => exact absurd h (hQ _ _ _)
  · rename_i hw
    simp only [hw] at h
    refine ⟨fun f _ => hFn f, ?_⟩
    rw [Act.put_comm a v undef h2]
    exact h.2


/-- a still operation: its value, and the guard under which it stays -/
theorem still_step (hG : GOk G W) {i : Nat} {o : Oper} {bh : List Nat} {l : List (Nat × Option (List Nat))} {D : List Rd} {θ : Nat → Ent} {w : World} {d : List Mk} (ho : ops[i]? = some o)
    (h : runPlan P G F ops ((i, some bh) :: l) D t σ K = true) (hR : Rel P W θ σ w) (hV : Vs θ σ.n t) :
    ∃ (v : AV) (t1 : List AV) (D1 : List Rd) (g : Gd), putT t o.dst v = some t1 ∧ V θ σ.n v ∧ YieldsS P ops o (conc θ v) g.S (actOf θ t d) ∧ g.S w ∧ (∀ j ∈ g.bh, j ∈ bh) ∧ runPlan P G F ops l D1 t1 σ K = true ∧ Keeps P W θ σ D1 g w ∧ ∀ dd ∈ D, dd ∈ D1 := by
  simp only [runPlan, ho] at h
  have plain : ∀ (v : AV) (t1 : List AV) (S : World → Prop), putT t o.dst v = some t1 → V θ σ.n v → YieldsS P ops o (conc θ v) S (actOf θ t d) → (∀ (θ : Nat → Ent) (σ : AW) (w : World), Rel P W θ σ w → S w) → runPlan P G F ops l D t1 σ K = true →
      ∃ (v : AV) (t1 : List AV) (D1 : List Rd) (g : Gd), putT t o.dst v = some t1 ∧ V θ σ.n v ∧ YieldsS P ops o (conc θ v) g.S (actOf θ t d) ∧ g.S w ∧ (∀ j ∈ g.bh, j ∈ bh) ∧ runPlan P G F ops l D1 t1 σ K = true ∧ Keeps P W θ σ D1 g w ∧ ∀ dd ∈ D, dd ∈ D1 :=
    fun v t1 S hpt hv hy hSa hrun => ⟨v, t1, D, ⟨[], S⟩, hpt, hv, hy, hSa θ σ w hR, by simp, hrun, .inr hSa, fun _ h => h⟩
  split at h
  · rename_i hw
    have hw' : Region.wanted o (yielded ops (actOf θ t d).tmps) = true := by rw [yielded_act]; exact hw
    split at h
    · rename_i v D' hst hrd
      split at h
      · rename_i t1 hpt
        -- which op
        unfold stillOp at hst
        unfold readsD at hrd
        split at hst
        · rename_i ty a hop
          rw [hop] at hrd
          simp only at hrd
          split at hst
          · rename_i hka
            split at hrd
            · rename_i r' o' hea
              rw [hea] at hst
              simp only [loadOp] at hst
              split at hrd
              · rename_i cs e op' hrow
                rw [hrow] at hst
                simp only at hst
                obtain ⟨vs, hv1, hv2, hv3⟩ := load_read (θ := θ) hst
                rw [hv1] at hrd
                cases hrd
                have hg : ∃ k, getRange cs o' k = some vs := by
                  unfold readP at hv1
                  split at hv1
                  · exact ⟨_, hv1⟩
                  · exact ⟨_, hv1⟩
                  · cases hv1
                obtain ⟨k, hk⟩ := hg
                obtain ⟨c1, c2, c3, c4⟩ := hR.cells hrow hk
                have hrlt := (hR.row hrow).1
                have hSw : rdS θ ⟨bh, r', o', vs⟩ w := c4
                refine ⟨v, t1, _, ⟨bh, rdS θ ⟨bh, r', o', vs⟩⟩, hpt, hv2 _ c1, .inl ⟨hw', fun w2 hw2 => ?_⟩, hSw, fun j hj => hj, h, .inl ⟨_, List.mem_append_left _ (List.mem_singleton.2 rfl), rfl, hrlt, c1, hSw, fun w h => h⟩, fun dd q1 => List.mem_append_right _ q1⟩
                have hev : (actOf θ t d).eval a = conc θ (.p r' o') := by rw [← hea]; exact eval_conc hka
                obtain ⟨dst, op, ty', pos, after, guard⟩ := o
                simp only at hop
                subst hop
                simp only [execOp, hev, conc]
                rw [Sem.run_bind]
                simp only [Instr.loadAt, Instr.sureAddr, Sem.run_bind, Sem.run_pure, Result.andThen_ok, hv3 _ w2 hw2]
              · cases hrd
            · rename_i hne
              cases hrd
              have hgl : ∃ g o', ev t a = .pg g o' := by
                cases hev : ev t a <;> rw [hev] at hst <;> simp only [loadOp] at hst <;> first | (cases hst; done) | exact ⟨_, _, rfl⟩ | (exact absurd hev (hne _ _))
              obtain ⟨g, o', hea⟩ := hgl
              have hst' : ∀ (θ2 : Nat → Ent) (σ2 : AW) (w2 : World), Rel P W θ2 σ2 w2 → (Instr.loadAt ty (conc θ (ev t a))).run P w2 = .ok (conc θ v) w2 := fun θ2 σ2 w2 hR2 => by
                have : loadOp P G ty (ev t a) σ2 = some v := by rw [hea] at hst ⊢; exact hst
                have h2 := (loadOp_ok hG hR2 this).2
                have hv0 : conc θ2 v = conc θ v := by
                  rw [hea] at hst
                  simp only [loadOp] at hst
                  split at hst
                  · rename_i cs hcs
                    exact glob_conc hst fun u hu => by
                      obtain ⟨j, hj⟩ := List.getElem?_of_mem hu
                      obtain ⟨x, hx, _⟩ := (hG g cs hcs).2 j u hj
                      exact ⟨x, hx⟩
                  · cases hst
                rw [hv0] at h2
                rw [hea] at h2 ⊢
                simpa [conc] using h2
              refine plain v t1 (fun w2 => (Instr.loadAt ty (conc θ (ev t a))).run P w2 = .ok (conc θ v) w2) hpt (loadOp_ok hG hR hst).1 (.inl ⟨hw', fun w2 hw2 => ?_⟩) hst' (by simpa using h)
              have hev : (actOf θ t d).eval a = conc θ (ev t a) := eval_conc hka
              obtain ⟨dst, op, ty', pos, after, guard⟩ := o
              simp only at hop
              subst hop
              simp only [execOp, hev]
              rw [Sem.run_bind, hw2]
              rfl
          · cases hst
        · rename_i hnl
          have hD' : D' = [] := by
            split at hrd
            · rename_i ty a hop; exact absurd hop (hnl _ _)
            · cases hrd; rfl
          subst hD'
          obtain ⟨q1, q2⟩ := pure_ok (θ := θ) (ds := marks θ d) hV hst
          exact plain v t1 (fun _ => True) hpt q1 (.inl ⟨hw', fun w2 _ => q2 w2⟩) (fun _ _ _ _ => trivial) (by simpa using h)
      · cases h
    · cases h
  · rename_i hw
    split at h
    · rename_i t1 hpt
      refine plain (.tup []) t1 (fun _ => True) hpt (by simp [V, Vs]) (.inr ⟨?_, undef_conc⟩) (fun _ _ _ _ => trivial) h
      rw [yielded_act]; simpa using hw
    · cases h

theorem Rel.garb {θ : Nat → Ent} {w : World} (h : Rel P W θ σ w) (O : Obj) : Rel P W θ σ (w.alloc O) ∧ Mv θ σ w θ σ (w.alloc O) := by
  have hold : ∀ k, k < w.heap.size → (w.alloc O).heap[k]? = w.heap[k]? := fun k hk => heap_alloc_old w O hk
  have hsz : (w.alloc O).heap.size = w.heap.size + 1 := by simp
  refine ⟨⟨⟨h.bel.os, h.bel.tape, h.bel.output, by rw [hsz]; have := h.bel.size; omega, fun k hk => (hold k (by have := h.bel.size; omega)).trans (h.bel.block k hk)⟩, fun r hr => ?_, fun r p hr => ?_, h.sep⟩, ?_⟩
  · rw [hsz]; have := h.blk r hr; omega
  · obtain ⟨a, b⟩ := h.obj r p hr
    exact ⟨a, b.kept (fun _ _ => rfl) (Nat.le_refl _) a (hold _ (h.blk r a).2)⟩
  · exact ⟨fun _ _ => rfl, Nat.le_refl _, by omega, fun k hk _ => hold k hk, fun r o h => .inl ⟨r, o, h, rfl⟩⟩

/-- a block that lies there already becomes an object -/
theorem Rel.adopt {θ : Nat → Ent} {w : World} {σ1 : AW} (h : Rel P W θ σ w) {o : AO} (hσ : σ.new o = some σ1) {b cap : Nat} (hb : W.heap.size ≤ b) (hlt : b < w.heap.size) (hap : ∀ r p, σ.t.get r = some p → (θ r).blk ≠ b)
    (ho : ObjOk P (upd θ σ.n ⟨b, cap⟩) (σ.n + 1) w σ.n o) : Rel P W (upd θ σ.n ⟨b, cap⟩) σ1 w := by
  obtain ⟨hn, hg⟩ := AW.get_new hσ
  have key : ∀ r p, σ1.t.get r = some p → (r = σ.n ∧ p = o) ∨ (r < σ.n ∧ σ.t.get r = some p) := fun r p hr => by
    rw [hg] at hr
    split at hr
    · rename_i e; cases hr; exact .inl ⟨e, rfl⟩
    · exact .inr ⟨(h.obj r p hr).1, hr⟩
  refine ⟨h.bel, fun r hr => ?_, fun r p hr => ?_, fun r s p q hr hs hne => ?_⟩
  · rw [hn] at hr
    rcases Nat.lt_or_ge r σ.n with hlt' | hge
    · rw [upd_lt hlt']; exact h.blk r hlt'
    · obtain rfl : r = σ.n := by omega
      rw [upd_self]; exact ⟨hb, hlt⟩
  · rw [hn]
    rcases key r p hr with ⟨rfl, rfl⟩ | ⟨hlt', hr⟩
    · exact ⟨Nat.lt_succ_self _, ho⟩
    · exact ⟨by omega, (h.obj r p hr).2.kept (fun r hr => upd_lt hr) (Nat.le_succ _) hlt' rfl⟩
  · rcases key r p hr with ⟨rfl, rfl⟩ | ⟨hlt1, hr⟩ <;> rcases key s q hs with ⟨rfl, rfl⟩ | ⟨hlt2, hs⟩
    · exact absurd rfl hne
    · rw [upd_self, upd_lt hlt2]; exact fun e => hap s q hs e.symm
    · rw [upd_self, upd_lt hlt1]; exact hap r p hr
    · rw [upd_lt hlt1, upd_lt hlt2]; exact h.sep r s p q hr hs hne

theorem float_spec {e : Nat} {o : Oper} (ho : ops[e]? = some o) (h : isFloat P ops e = true) : ∃ ty z, o.op = .alloc ty ∧ zeroP P ty = some z ∧ o.guard = none ∧ ∀ d ∈ o.after, Region.binds .any d = false := by
  unfold isFloat at h
  rw [ho] at h
  simp only [Bool.and_eq_true] at h
  obtain ⟨⟨⟨h1, h2⟩, _⟩, h3⟩ := h
  split at h1
  · rename_i ty hop
    obtain ⟨z, hz⟩ := Option.isSome_iff_exists.1 h1
    refine ⟨ty, z, hop, hz, by simpa using h2, fun d hd => ?_⟩
    have := List.all_eq_true.1 h3 d (by simpa using hd)
    simpa using this
  · cases h1

theorem float_ready {e : Nat} {o : Oper} {listed : Array Bool} (ho : ops[e]? = some o) (h : isFloat P ops e = true) (hun : listed.getD e true = false) : e ∈ Region.ready .any ops listed := by
  obtain ⟨_, _, _, _, _, h3⟩ := float_spec ho h
  exact mem_ready.2 ⟨hun, o, ho, fun d hd hb => by rw [h3 d hd] at hb; cases hb⟩

theorem float_mem {e : Nat} {o : Oper} {listed : Array Bool} (ho : ops[e]? = some o) (h : isFloat P ops e = true) (hun : listed.getD e true = false) : e ∈ floatsOf P ops listed := by
  unfold floatsOf
  rw [List.mem_filter, List.mem_range]
  exact ⟨(Array.getElem?_eq_some_iff.1 ho).1, by rw [hun, h]; rfl⟩

theorem set_false {listed : Array Bool} {i j : Nat} (h : listed.getD j true = false) (hij : i ≠ j) : (listed.setIfInBounds i true).getD j true = false := by
  rw [getD_set_ne true hij]; exact h

/-- the variable that was made ahead is taken up -/
theorem adopt_step {θ0 : Nat → Ent} {σ0 : AW} {w0 : World} {listed : Array Bool} {e b : Nat} {o : Oper} {l : List (Nat × Option (List Nat))} {GL : List Gd} {D : List Rd} {θ : Nat → Ent} {w : World} {d : List Mk}
    (h : runPlan P G F ops ((e, none) :: l) D t σ K = true) (hR : Rel P W θ σ w) (hM : Mv θ0 σ0 w0 θ σ w) (hV : Vs θ σ.n t) (hd : DV θ σ.n d) (hlt : e < listed.size)
    (hK : ∀ g ∈ GL, g.on listed → Keeps P W θ σ D g w) (hA : Ahead P W ops w0 θ σ w listed e o b) :
    ∃ (t1 : List AV) (σ1 : AW) (θ1 : Nat → Ent) (D1 : List Rd), runPlan P G F ops l D1 t1 σ1 K = true ∧ Rel P W θ1 σ1 w ∧ Mv θ0 σ0 w0 θ1 σ1 w ∧ Vs θ1 σ1.n t1 ∧ DV θ1 σ1.n d ∧
      (∀ g ∈ GL, g.on (listed.setIfInBounds e true) → Keeps P W θ1 σ1 D1 g w) ∧ (actOf θ t d).put o.dst (.pointer (some ⟨b, 0, none⟩)) = actOf θ1 t1 d := by
  obtain ⟨ho, hfl, hun, hbl, hown, hlow, ⟨ty, z, inf, v, hop, hi, hz, hofz, hzp, hat⟩, hap⟩ := hA
  obtain ⟨ty', z', hop', _, hgd, _⟩ := float_spec ho hfl
  simp only [runPlan, ho] at h
  rw [if_pos (by simp [Region.wanted, hgd])] at h
  have hmm : ∀ r, moreOp P o t σ = some r → (∀ x ∈ cellsOf z, one x = true) ∧ ∃ σ', σ.new (.row (cellsOf z) ty false) = some σ' ∧ r = (.v (.p σ.n 0), σ') := fun r hr => by
    unfold moreOp at hr
    rw [hop] at hr
    simp only [hzp] at hr
    split at hr
    · cases hr
    · exact made_some hr
  unfold oneOp at h
  split at h
  · rename_i u hst
    unfold stillOp pureOp at hst
    rw [hop] at hst
    simp at hst
  · unfold doMore at h
    have main : ∀ (σ1 : AW), (∀ x ∈ cellsOf z, one x = true) → σ.new (.row (cellsOf z) ty false) = some σ1 → (putK' t o.dst (.p σ.n 0) fun t => if keptD σ1 (dropD e D) then runPlan P G F ops l (dropD e D) t σ1 K else false) = true →
        ∃ (t1 : List AV) (σ1 : AW) (θ1 : Nat → Ent) (D1 : List Rd), runPlan P G F ops l D1 t1 σ1 K = true ∧ Rel P W θ1 σ1 w ∧ Mv θ0 σ0 w0 θ1 σ1 w ∧ Vs θ1 σ1.n t1 ∧ DV θ1 σ1.n d ∧
          (∀ g ∈ GL, g.on (listed.setIfInBounds e true) → Keeps P W θ1 σ1 D1 g w) ∧ (actOf θ t d).put o.dst (.pointer (some ⟨b, 0, none⟩)) = actOf θ1 t1 d := fun σ1 hone hnew h => by
            obtain ⟨t1, hpt, h⟩ := putK'_some h
            split at h
            case isFalse => cases h
            rename_i hkept
            have hVz := cellsOf_V (of_ofV hofz θ σ.n).2
            have hn := (AW.get_new hnew).1
            have hext : ∀ r, r < σ.n → upd θ σ.n ⟨b, 0⟩ r = θ r := fun r hr => upd_lt hr
            have hR1 : Rel P W (upd θ σ.n ⟨b, 0⟩) σ1 w := hR.adopt hnew hlow hbl hap ⟨fun v hv => ⟨V_ext hext (Nat.le_succ _) v (Vs_iff.1 hVz v hv), hone v hv⟩, (concs θ (cellsOf z)).toArray, (0, 0), by
              rw [upd_self, hat, cells_ofV (θ := θ) hofz], Or.inl rfl, fun j v hv => by
                rw [conc_ext hext v (Vs_iff.1 hVz v (List.mem_of_getElem? hv)), concs_map]
                simp [hv], fun ho => by cases ho⟩
            have hM1 : Mv θ0 σ0 w0 (upd θ σ.n ⟨b, 0⟩) σ1 w := ⟨fun r hr => (hext r (Nat.lt_of_lt_of_le hr hM.n)).trans (hM.ext r hr), by rw [hn]; exact Nat.le_succ_of_le hM.n, hM.size, hM.fr, fun r p hr => by
              rw [(AW.get_new hnew).2] at hr
              split at hr
              · rename_i e; subst e; rw [upd_self]; exact .inr hown
              · rw [hext r (hR.obj r p hr).1]; exact hM.own r p hr⟩
            refine ⟨t1, σ1, _, _, h, hR1, hM1, put_V hpt (Vs_ext hext (by omega) t hV) (by simp only [V]; omega), DV_ext hext (by omega) hd, fun g hg hon => ?_, ?_⟩
            · have heb : e ∉ g.bh := fun hi => by
                have := hon e hi
                simp [hlt] at this
              rcases hK g hg (on_mono hon) with ⟨dd, q1, q2, q3, q4, q5, q6⟩ | q
              · exact .inl ⟨dd, dropD_mem q1 (by rw [q2]; exact heb), q2, by omega, Vs_ext hext (by omega) _ q4, (rdS_ext hext q3 q4 w).2 q5, fun w2 h2 => q6 w2 ((rdS_ext hext q3 q4 w2).1 h2)⟩
              · exact .inr q
            · rw [← put_act hpt]
              have : actOf (upd θ σ.n ⟨b, 0⟩) t d = actOf θ t d := actOf_ext hext hV hd
              rw [this]
              simp [conc, upd_self]
    split at h
    · rename_i v2 σ3 hm2
      obtain ⟨h1, σ'', h2, h3⟩ := hmm _ hm2
      cases h3
      exact main _ h1 h2 h
    · rename_i σ3 hm2
      obtain ⟨h1, σ'', h2, h3⟩ := hmm _ hm2
      cases h3
    · rename_i f args σ3 hm2
      obtain ⟨h1, σ'', h2, h3⟩ := hmm _ hm2
      cases h3
    · rename_i f args σ3 hm2
      obtain ⟨h1, σ'', h2, h3⟩ := hmm _ hm2
      cases h3
    · split at h
      · rename_i q hq
        unfold nextK at hq
        rw [hop] at hq
        cases hq
      · cases h


theorem notpanic {θ0 : Nat → Ent} {σ0 : AW} {w0 : World} {d : List Mk} : ∀ c (a : Act) (w : World), ¬ PostN P W θ0 σ0 w0 d K (.panic c) a w := fun c a w hp => by
  cases hp.1

set_option maxHeartbeats 1000000 in
theorem planA_succ {m : Nat} (hF : FnsOk P W m F) (hG : GOk G W) {ro : Option Nat} {θ0 : Nat → Ent} {σ0 : AW} {w0 : World} (hro : ∀ l, ro = some l → l < σ0.n) (hsel : Region.noSelect ops = true) (hnd : ∀ (j : Nat) (o : Oper), ops[j]? = some o → ∀ c, o.op ≠ .defer c) {fuel : Nat}
    (ihA : PlanA P W G F ops ro θ0 σ0 w0 K fuel) (ihB : PlanB P W G F ops ro θ0 σ0 w0 K fuel) : PlanA P W G F ops ro θ0 σ0 w0 K (fuel + 1) := by
  have hFn : ∀ f, (fen θ0 ro).fn f := fun f => fen_fn θ0 ro f
  intro listed pl GL D θ σ w t d hp h hR hM hV hd hK hN
  have hS : ∀ g ∈ GL, g.on listed → g.S w := fun g hg ho => by
    rcases hK g hg ho with ⟨dd, _, _, _, _, q5, q6⟩ | q
    · exact q6 w q5
    · exact q θ σ w hR
  have hp0 := hp
  have h0 := h
  simp only [planGo] at hp
  split at hp
  · rename_i he
    cases hp
    simp only [runPlan] at h
    exact ⟨fun _ => ⟨rfl, θ, t, σ, h, hR, hM, hV, hd, rfl⟩, by rw [he]; simp⟩
  · rename_i r rs he
    split at hp
    · -- a still one
      rename_i i hfind
      have hmem : i ∈ Region.ready .any ops listed := by rw [he]; exact List.mem_of_find?_eq_some hfind
      have hprop := List.find?_some hfind
      simp only [Bool.and_eq_true] at hprop
      split at hp
      · rename_i bh l hbh hl
        cases hp
        obtain ⟨hlt, o, ho⟩ := ready_lt hmem
        obtain ⟨B, hB1, hB2, hB3, hB4⟩ := behindL_spec ho hbh
        have hstill : stillKind P o = true := by have := hprop.1; rw [ho] at this; simpa using this
        have hfree := Region.free_spec ho hprop.2
        have nob : ∀ g ∈ GL, i ∉ g.bh := fun g hg hi => by rw [hN g hg i hi o ho] at hstill; cases hstill
        obtain ⟨v, t1, D1, g0, hpt, hv, hy, hSw, hgb, hrun, hk0, hsub⟩ := still_step hG ho h hR hV
        refine wpAnyD_first hFn hnd (g0 := g0) ho (Region.noSelect_spec hsel) (fun c a w hp => absurd hp (notpanic c _ _)) B (fun j hj => hB1 j (hgb j hj)) (fun g hg => by
          rcases List.mem_cons.1 hg with rfl | hg
          · intro hi; rw [hB2 i (hgb i hi) o ho] at hstill; cases hstill
          · exact nob g hg) hB4 fuel listed _ w hfree hmem hB3 hy hSw hS ?_
        rw [put_act hpt]
        refine ihA _ l _ D1 θ σ w t1 d hl hrun hR hM (put_V hpt hV hv) hd (fun g hg ho' => ?_) (fun g hg => ?_)
        · rcases List.mem_cons.1 hg with rfl | hg
          · exact hk0
          · rcases hK g hg (on_mono ho') with ⟨dd, q1, q2⟩ | q
            · exact .inl ⟨dd, hsub dd q1, q2⟩
            · exact .inr q
        · rcases List.mem_cons.1 hg with rfl | hg
          · exact fun j hj => hB2 j (hgb j hj)
          · exact hN g hg
      · cases hp
    · -- the one that must come
      rename_i hnone
      have must : ∀ (i : Nat) (l : List (Nat × Option (List Nat))), i ∈ Region.ready .any ops listed → planGo P ops fuel (listed.setIfInBounds i true) = some l → pl = (i, none) :: l → wpOpIn (fen θ0 ro) 0 P ops (PostN P W θ0 σ0 w0 d K) i
          (fun a' w' => (∀ g ∈ GL, g.on (listed.setIfInBounds i true) → g.S w') ∧ wpAnyD (fen θ0 ro) 0 P ops (PostN P W θ0 σ0 w0 d K) GL fuel (listed.setIfInBounds i true) a' w') (actOf θ t d) w := fun i l hmem hl hpl =>
        must_ok hF hG hro (hpl ▸ h0) hmem hR hM hV hd hK (fun t1 σ1 θ1 w1 D1 h1 hR1 hM1 hV1 hd1 hk1 _ => ihA _ l GL D1 θ1 σ1 w1 t1 d hl h1 hR1 hM1 hV1 hd1 hk1 hN)
      have only : ∀ (i : Nat) (l : List (Nat × Option (List Nat))), Region.ready .any ops listed = [i] → planGo P ops fuel (listed.setIfInBounds i true) = some l → pl = (i, none) :: l → wpAnyD (fen θ0 ro) 0 P ops (PostN P W θ0 σ0 w0 d K) GL (fuel + 1) listed (actOf θ t d) w := fun i l hri hl hpl =>
        ⟨fun h0 => (by rw [hri] at h0; cases h0), fun j hj => by
          rw [hri] at hj
          obtain rfl : j = i := by simpa using hj
          exact must j l (by rw [hri]; simp) hl hpl⟩
      rw [fLs_eq] at hp
      split at hp
      · split at hp
        · rename_i hrs
          have hrs : rs = [] := by simpa using hrs
          subst hrs
          split at hp
          · rename_i l hl
            cases hp
            exact only r l he hl rfl
          · cases hp
        · cases hp
      · rename_i e hfl
        have hfl : floatsOf P ops listed = [e] := Option.some.inj hfl
        have he1 : e ∈ floatsOf P ops listed := by rw [hfl]; simp
        unfold floatsOf at he1
        rw [List.mem_filter, List.mem_range] at he1
        obtain ⟨he2, he3⟩ := he1
        simp only [Bool.and_eq_true, Bool.not_eq_true'] at he3
        obtain ⟨hun, hflt⟩ := he3
        obtain ⟨o, ho⟩ : ∃ o, ops[e]? = some o := ⟨ops[e], Array.getElem?_eq_getElem he2⟩
        have other : (if rs.isEmpty && decide (r = e) then (match planGo P ops fuel (listed.setIfInBounds e true) with | some l => some ((e, none) :: l) | none => none) else none) = some pl → wpAnyD (fen θ0 ro) 0 P ops (PostN P W θ0 σ0 w0 d K) GL (fuel + 1) listed (actOf θ t d) w := fun hq => by
          split at hq
          · rename_i hc
            simp only [Bool.and_eq_true, decide_eq_true_eq] at hc
            obtain ⟨hc1, rfl⟩ := hc
            have hrs : rs = [] := by simpa using hc1
            subst hrs
            split at hq
            · rename_i l hl
              cases hq
              exact only r l he hl rfl
            · cases hq
          · cases hq
        split at hp
        · rename_i i hri
          split at hp
          · exact other hp
          · rename_i hcnd
            simp only [Bool.or_eq_true, decide_eq_true_eq, Bool.not_eq_true', not_or, Bool.not_eq_true, Bool.not_eq_false] at hcnd
            obtain ⟨⟨⟨hie, hin⟩, hnf⟩, hap⟩ := hcnd
            split at hp
            · rename_i l hl
              have hpl : pl = (i, none) :: l := (Option.some.inj hp).symm
              have hin : i ∈ Region.ready .any ops listed := by rw [he]; simpa using hin
              refine ⟨fun h0 => (by rw [he] at h0; cases h0), fun j hj => ?_⟩
              by_cases hje : j = e
              · subst hje
                obtain ⟨ty, z, hop, hz, hgd, hbd⟩ := float_spec ho hflt
                obtain ⟨inf, v, hi, hx, hofz⟩ := zeroP_info hz
                have hw : Region.wanted o (yielded ops (actOf θ t d).tmps) = true := by simp [Region.wanted, hgd]
                have hrun : (execOp (actOf θ t d).eval o).run P w = .ok (.value (.pointer (some ⟨w.heap.size, 0, none⟩))) (w.alloc (.cells v.cells ty)) := by
                  obtain ⟨dst, op, ty', pos, after, guard⟩ := o
                  simp only at hop
                  subst hop
                  simp [execOp, Instr.alloc, zeroValue, typeInfo, hi, hx, newVar, newRow]
                obtain ⟨hRg, hMg⟩ := hR.garb (.cells v.cells ty)
                have hKg : ∀ g ∈ GL, g.on listed → Keeps P W θ σ D g (w.alloc (.cells v.cells ty)) := fun g hg hon => by
                  rcases hK g hg hon with ⟨dd, q1, q2, q3, q4, q5, q6⟩ | q
                  · refine .inl ⟨dd, q1, q2, q3, q4, fun k u hk => ?_, q6⟩
                    exact cell_kept (q5 k u hk) (World.grownBy_alloc w _ none) (fun r e => by cases e)
                  · exact .inr q
                unfold wpOpIn
                simp only [ho, hw, if_true, Oper.wpIn, Oper.semAt_eq _ _ _ (hnd _ _ ho), hrun, Oper.uponIn]
                refine ⟨fun f _ => hFn f, fun g hg hon => ?_, ?_⟩
                · rcases hKg g hg (on_mono hon) with ⟨dd, _, _, _, _, q5, q6⟩ | q
                  · exact q6 _ q5
                  · exact q θ σ _ hRg
                · refine ihB listed pl GL D θ σ _ t d j o w.heap.size hp0 h0 hRg (hM.trans hMg) hV hd hKg hN ⟨ho, hflt, hun, by simp, hM.size, hR.bel.size, ⟨ty, z, inf, v, hop, hi, hx, hofz, hz, heap_alloc_new w _⟩, fun r p hr => ?_⟩
                  have := (hR.blk r (hR.obj r p hr).1).2
                  omega
              · have : j ∈ Region.ready .any ops (listed.setIfInBounds e true) := ready_mono hj hje
                rw [hri] at this
                obtain rfl : j = i := by simpa using this
                exact must j l hin hl hpl
            · cases hp
        · exact other hp
      · cases hp

set_option maxHeartbeats 1000000 in
theorem planB_of {m : Nat} (hF : FnsOk P W m F) (hG : GOk G W) {ro : Option Nat} {θ0 : Nat → Ent} {σ0 : AW} {w0 : World} (hro : ∀ l, ro = some l → l < σ0.n) (hsel : Region.noSelect ops = true) (hnd : ∀ (j : Nat) (o : Oper), ops[j]? = some o → ∀ c, o.op ≠ .defer c) {fuel : Nat}
    (ihA : PlanA P W G F ops ro θ0 σ0 w0 K fuel) (ihB : ∀ k, fuel = k + 1 → PlanB P W G F ops ro θ0 σ0 w0 K k) : PlanB P W G F ops ro θ0 σ0 w0 K fuel := by
  have hFn : ∀ f, (fen θ0 ro).fn f := fun f => fen_fn θ0 ro f
  intro listed pl GL D θ σ w t d e o b hp h hR hM hV hd hK hN hA
  have hS : ∀ g ∈ GL, g.on listed → g.S w := fun g hg ho => by
    rcases hK g hg ho with ⟨dd, _, _, _, _, q5, q6⟩ | q
    · exact q6 w q5
    · exact q θ σ w hR
  have hp0 := hp
  have h0 := h
  have hoe := hA.op
  have hflt := hA.fl
  have hunE := hA.un
  obtain ⟨ety, ez, heop, hez, hegd, hebd⟩ := float_spec hoe hflt
  have her := float_ready hoe hflt hunE
  have hem := float_mem hoe hflt hunE
  have hltE := (ready_lt her).1
  -- the next is not e
  have nz : ∀ i l, i ≠ e → planGo P ops fuel (listed.setIfInBounds i true) = some l → ∃ k, fuel = k + 1 := fun i l hie hl => by
    cases fuel with
    | succ k => exact ⟨k, rfl⟩
    | zero =>
      simp only [planGo] at hl
      split at hl
      · rename_i hh
        have := float_ready hoe hflt (set_false hunE hie)
        have hh : Region.ready .any ops (listed.setIfInBounds i true) = [] := by simpa using hh
        rw [hh] at this
        cases this
      · cases hl
  -- e is next
  have fl : ∀ l, planGo P ops fuel (listed.setIfInBounds e true) = some l → pl = (e, none) :: l → wpAnyD (fen θ0 ro) 0 P ops (PostN P W θ0 σ0 w0 d K) GL fuel (listed.setIfInBounds e true) ((actOf θ t d).put o.dst (.pointer (some ⟨b, 0, none⟩))) w := fun l hl hpl => by
    obtain ⟨t1, σ1, θ1, D1, hrun, hR1, hM1, hV1, hd1, hK1, hact⟩ := adopt_step (hpl ▸ h0) hR hM hV hd hltE hK hA
    rw [hact]
    exact ihA _ l GL D1 θ1 σ1 w t1 d hl hrun hR1 hM1 hV1 hd1 hK1 hN
  simp only [planGo] at hp
  split at hp
  · rename_i he
    rw [he] at her
    cases her
  · rename_i r rs he
    split at hp
    · -- a still one
      rename_i i hfind
      have hmem : i ∈ Region.ready .any ops listed := by rw [he]; exact List.mem_of_find?_eq_some hfind
      have hprop := List.find?_some hfind
      simp only [Bool.and_eq_true] at hprop
      split at hp
      · rename_i bh l hbh hl
        cases hp
        obtain ⟨hlt, oi, hoi⟩ := ready_lt hmem
        obtain ⟨B, hB1, hB2, hB3, hB4⟩ := behindL_spec hoi hbh
        have hstill : stillKind P oi = true := by have := hprop.1; rw [hoi] at this; simpa using this
        have hie : i ≠ e := fun h => by
          subst h
          rw [hoe] at hoi
          cases hoi
          unfold stillKind at hstill
          rw [heop] at hstill
          cases hstill
        obtain ⟨k, rfl⟩ := nz i l hie hl
        have hfree := Region.free_spec hoi hprop.2
        have hap : oi.apart ops o = true := hfree e o hoe (Ne.symm hie) hunE (fun d hd hb => by rw [hebd d hd] at hb; cases hb)
        obtain ⟨a1, a2, a3⟩ := Oper.apart_spec hap
        have a2' : ∀ d, o.dst = some d → oi.dst ≠ some d := fun d hd hd' => a2 d hd' hd
        have nob : ∀ g ∈ GL, i ∉ g.bh := fun g hg hi => by rw [hN g hg i hi oi hoi] at hstill; cases hstill
        obtain ⟨v, t1, D1, g0, hpt, hv, hy, hSw, hgb, hrun, hk0, hsub⟩ := still_step hG hoi h hR hV
        have hsi := fun cs b => Region.noSelect_spec hsel i oi cs b hoi
        refine wpAnyD_first hFn hnd (g0 := g0) hoi (Region.noSelect_spec hsel) (fun c a w hp => absurd hp (notpanic c _ _)) B (fun j hj => hB1 j (hgb j hj)) (fun g hg => by
          rcases List.mem_cons.1 hg with rfl | hg
          · intro hi; rw [hB2 i (hgb i hi) oi hoi] at hstill; cases hstill
          · exact nob g hg) hB4 k (listed.setIfInBounds e true) _ w (fun j oj hj hji hun hno => ?_) (ready_mono hmem hie) (fun j hj => ?_) (hy.of_same (execOp_put oi hsi _ o.dst _ a3) (wanted_put oi _ o.dst _ a3)) hSw (fun g hg hon => hS g hg (on_mono hon)) ?_
        · refine hfree j oj hj hji ?_ hno
          by_cases hje : e = j
          · subst hje; exact hunE
          · rw [getD_set_ne true hje] at hun; exact hun
        · refine set_false (hB3 j hj) fun hej => ?_
          subst hej
          obtain ⟨oj, dd, q1, q2, q3, q4⟩ := hB4 e hj
          rw [hoe] at q1
          cases q1
          rw [hebd dd q2] at q3
          cases q3
        · rw [Act.put_comm _ _ _ a2', put_act hpt, Array.setIfInBounds_comm _ _ (Ne.symm hie)]
          refine ihB k rfl _ l _ D1 θ σ w t1 d e o b hl hrun hR hM (put_V hpt hV hv) hd (fun g hg ho' => ?_) (fun g hg => ?_) { hA with un := set_false hunE hie }
          · rcases List.mem_cons.1 hg with rfl | hg
            · exact hk0
            · rcases hK g hg (on_mono ho') with ⟨dd, q1, q2⟩ | q
              · exact .inl ⟨dd, hsub dd q1, q2⟩
              · exact .inr q
          · rcases List.mem_cons.1 hg with rfl | hg
            · exact fun j hj => hB2 j (hgb j hj)
            · exact hN g hg
      · cases hp
    · -- the one that must come
      rename_i hnone
      rw [fLs_eq] at hp
      split at hp
      · rename_i hfl
        have hfl : floatsOf P ops listed = [] := Option.some.inj hfl
        rw [hfl] at hem
        cases hem
      · rename_i e' hfl
        have hfl : floatsOf P ops listed = [e'] := Option.some.inj hfl
        rw [hfl] at hem
        obtain rfl : e = e' := by simpa using hem
        have other : (if rs.isEmpty && decide (r = e) then (match planGo P ops fuel (listed.setIfInBounds e true) with | some l => some ((e, none) :: l) | none => none) else none) = some pl → wpAnyD (fen θ0 ro) 0 P ops (PostN P W θ0 σ0 w0 d K) GL fuel (listed.setIfInBounds e true) ((actOf θ t d).put o.dst (.pointer (some ⟨b, 0, none⟩))) w := fun hq => by
          split at hq
          · split at hq
            · rename_i l hl
              exact fl l hl (Option.some.inj hq).symm
            · cases hq
          · cases hq
        split at hp
        · rename_i i hri
          split at hp
          · exact other hp
          · rename_i hcnd
            simp only [Bool.or_eq_true, decide_eq_true_eq, Bool.not_eq_true', not_or, Bool.not_eq_true, Bool.not_eq_false] at hcnd
            obtain ⟨⟨⟨hie, hin⟩, hnf⟩, hap⟩ := hcnd
            split at hp
            · rename_i l hl
              have hpl : pl = (i, none) :: l := (Option.some.inj hp).symm
              have hin : i ∈ Region.ready .any ops listed := by rw [he]; simpa using hin
              obtain ⟨hlt, oi, hoi⟩ := ready_lt hin
              obtain ⟨k, rfl⟩ := nz i l hie hl
              have hap2 : o.apart ops oi = true := by
                unfold apartB at hap
                rw [hoe, hoi] at hap
                exact hap
              refine ⟨fun h0 => (by rw [hri] at h0; cases h0), fun j hj => ?_⟩
              rw [hri] at hj
              obtain rfl : j = i := by simpa using hj
              refine wpOpIn_unput hFn (hnd j oi hoi) hoi hap2 (fun cs b => Region.noSelect_spec hsel j oi cs b hoi) notpanic ?_
              refine wpOpIn_mono (fun a' w' hk => ?_) (must_ok hF hG hro (hpl ▸ h0) hin hR hM hV hd hK (X := fun a' w' => wpAnyD (fen θ0 ro) 0 P ops (PostN P W θ0 σ0 w0 d K) GL k ((listed.setIfInBounds j true).setIfInBounds e true) (a'.put o.dst (.pointer (some ⟨b, 0, none⟩))) w') (fun t1 σ1 θ1 w1 D1 h1 hR1 hM1 hV1 hd1 hk1 hmv => ?_))
              · rw [Array.setIfInBounds_comm _ _ (Ne.symm hie)]
                exact ⟨fun g hg hon => hk.1 g hg (on_mono hon), hk.2⟩
              · refine ihB k rfl _ l GL D1 θ1 σ1 w1 t1 d e o b hl h1 hR1 hM1 hV1 hd1 hk1 hN ⟨hoe, hflt, set_false hunE hie, Nat.lt_of_lt_of_le hA.lt hmv.size, hA.own, hA.low, ?_, fun r p hr => ?_⟩
                · obtain ⟨ty, z, inf, v, q1, q2, q3, q4, q5, q6⟩ := hA.at_
                  exact ⟨ty, z, inf, v, q1, q2, q3, q4, q5, by rw [hmv.fr b hA.lt hA.apart]; exact q6⟩
                · rcases hmv.own r p hr with ⟨s, q, hs, hb⟩ | hb
                  · rw [← hb]; exact hA.apart s q hs
                  · have := hA.lt; omega
            · cases hp
        · exact other hp
      · cases hp

theorem plan_ok {m : Nat} (hF : FnsOk P W m F) (hG : GOk G W) {ro : Option Nat} {θ0 : Nat → Ent} {σ0 : AW} {w0 : World} (hro : ∀ l, ro = some l → l < σ0.n) (hsel : Region.noSelect ops = true) (hnd : ∀ (j : Nat) (o : Oper), ops[j]? = some o → ∀ c, o.op ≠ .defer c) :
    ∀ fuel, PlanA P W G F ops ro θ0 σ0 w0 K fuel ∧ PlanB P W G F ops ro θ0 σ0 w0 K fuel
  | 0 => ⟨planA_zero, planB_of hF hG hro hsel hnd planA_zero (fun k h => by cases h)⟩
  | fuel + 1 => by
    obtain ⟨hA, hB⟩ := plan_ok hF hG hro hsel hnd fuel
    have hA1 := planA_succ hF hG hro hsel hnd hA hB
    exact ⟨hA1, planB_of hF hG hro hsel hnd hA1 (fun k h => by cases h; exact hB)⟩

end
section
variable {P : Program} {W : World} {G : List (Nat × List AV)} {F : Fns}
theorem draw_ok {m : Nat} (hF : FnsOk P W m F) (hG : GOk G W) : DrawOk P W G F := by
  intro ro θ σ w id ops l t d K hR hV hd hro hp h
  unfold plan at hp
  split at hp
  · rename_i hc
    simp only [Bool.and_eq_true] at hc
    obtain ⟨⟨h1, h2⟩, h3⟩ := hc
    refine wpIn_region_any h3 (wpAnyIn_of_D (GL := []) _ _ _ _ ?_)
    have hD := hR.drew
    refine (plan_ok hF hG hro h1 (fun j o hj c hc => ?_) ops.size).1 _ l [] [] θ σ _ t d hp h hD.1 hD.2 hV hd (by simp) (by simp)
    have := Array.all_eq_true_iff_forall_mem.1 h2 o (Array.mem_of_getElem? hj)
    rw [hc] at this
    simp at this
  · cases hp

theorem evalF_ok (hG : GOk G W) : ∀ n, FnsOk P W n (evalF P G n)
  | 0 => botF_ok
  | n + 1 => stepF_ok (evalF_ok hG n) hG (draw_ok (evalF_ok hG n) hG)

/-- **A function without arguments that the run finds true answers true, whatever is drawn, in whatever memory.** -/
theorem closed_ok (hG : GOk G W) {n f : Nat} (h : closedB P G n f = true) : Calls P f #[] W fun e w' => e = .returned (.bool true) ∧ Below W.heap.size W w' := by
  unfold closedB at h
  have hR : Rel P W (fun _ => default) ⟨.e, 0⟩ W := ⟨Below.refl _ _, fun r hr => absurd hr (Nat.not_lt_zero _), fun r o hr => (by cases hr), fun r s o p hr => (by cases hr)⟩
  have := ((evalF_ok (P := P) hG n).call _ _ W f [] _ hR (by simp [Vs]) h).2
  refine (callsIn_wide.1 this).mono ?_
  rintro e w' ⟨θ', v, σ', hk, rfl, hR', _, _⟩
  unfold isTrue at hk
  split at hk
  · exact ⟨by simp [conc], hR'.bel⟩
  · cases hk
end
end Go.Proofs.YtdennekkbdlhdaaDoor.Ev
/-
  Functions that are told by a contract: the run takes them at their word.
-/
namespace Go.Proofs.YtdennekkbdlhdaaDoor.Ev
open Go.RowKit
set_option linter.unusedVariables false
set_option linter.unusedSimpArgs false

section
variable {P : Program} {W : World} {G : List (Nat × List AV)} {F : Fns} {θ : Nat → Ent} {σ σ' : AW} {w w' : World}

/-- what such functions answer and leave; none: it is run as it stands -/
abbrev Orc := FuncId → List AV → AW → Option (AV × AW)
/-- what such a call leaves: one answer, one memory -/
def CPost (P : Program) (W : World) (θ : Nat → Ent) (σ : AW) (w : World) (v : AV) (σ' : AW) : Ending → World → Prop := fun e w' =>
  ∃ θ', e = .returned (conc θ' v) ∧ Rel P W θ' σ' w' ∧ Mv θ σ w θ' σ' w' ∧ V θ' σ'.n v
def OrcOk (P : Program) (W : World) (O : Orc) : Prop := ∀ (θ : Nat → Ent) (σ : AW) (w : World) (f : FuncId) (args : List AV) (v : AV) (σ' : AW), Rel P W θ σ w → Vs θ σ.n args → O f args σ = some (v, σ') →
    (callFunc f (concs θ args).toArray).run P w = .ok (.enter f (concs θ args).toArray) w ∧ CallsIn Fence.wide 0 P f (concs θ args).toArray w (CPost P W θ σ w v σ')

noncomputable def callO (O : Orc) (F : Fns) : Fns := ⟨F.code, F.loop, fun f args σ K => match O f args σ with | some (v, σ') => K v σ' | none => F.call f args σ K, F.round⟩
noncomputable def evalO (P : Program) (G : List (Nat × List AV)) (O : Orc) (n : Nat) : Fns := Nat.rec botF (fun _ F => callO O (stepF P G F)) n
noncomputable def closedO (P : Program) (G : List (Nat × List AV)) (O : Orc) (n f : Nat) : Bool := (evalO P G O n).call f [] ⟨.e, 0⟩ isTrue

theorem callO_ok {O : Orc} {m : Nat} (hO : OrcOk P W O) (hF : FnsOk P W m F) : FnsOk P W m (callO O F) where
  code := hF.code
  loop := hF.loop
  call θ σ w f args K hR hV h := by
    have h : (match O f args σ with | some (v, σ') => K v σ' | none => F.call f args σ K) = true := h
    split at h
    · rename_i v σ' hr
      obtain ⟨a, b⟩ := hO θ σ w f args v σ' hR hV hr
      refine ⟨a, CallsIn.mono b ?_⟩
      rintro e w' ⟨θ', q⟩
      exact ⟨θ', v, σ', h, q⟩
    · exact hF.call θ σ w f args K hR hV h
  round := hF.round
theorem evalO_ok {O : Orc} (hO : OrcOk P W O) (hG : GOk G W) : ∀ n, FnsOk P W n (evalO P G O n)
  | 0 => botF_ok
  | n + 1 => callO_ok hO (stepF_ok (evalO_ok hO hG n) hG (draw_ok (evalO_ok hO hG n) hG))

/-- **As closed_ok, with functions that are told.** -/
theorem closedO_ok {O : Orc} (hO : OrcOk P W O) (hG : GOk G W) {n f : Nat} (h : closedO P G O n f = true) : Calls P f #[] W fun e w' => e = .returned (.bool true) ∧ Below W.heap.size W w' := by
  unfold closedO at h
  have hR : Rel P W (fun _ => default) ⟨.e, 0⟩ W := ⟨Below.refl _ _, fun r hr => absurd hr (Nat.not_lt_zero _), fun r o hr => (by cases hr), fun r s o p hr => (by cases hr)⟩
  have := ((evalO_ok (P := P) hO hG n).call _ _ W f [] _ hR (by simp [Vs]) h).2
  refine (callsIn_wide.1 this).mono ?_
  rintro e w' ⟨θ', v, σ', hk, rfl, hR', _, _⟩
  unfold isTrue at hk
  split at hk
  · exact ⟨by simp [conc], hR'.bel⟩
  · cases hk

/-! ### How a contract is told -/
theorem Rel.below (h : Rel P W θ σ w) (hb : Below w.heap.size w w') : Rel P W θ σ w' ∧ Mv θ σ w θ σ w' := by
  refine ⟨⟨h.bel.trans (hb.mono h.bel.size), fun r hr => ⟨(h.blk r hr).1, Nat.lt_of_lt_of_le (h.blk r hr).2 hb.size⟩, fun r o hr => ?_, h.sep⟩, ?_⟩
  · obtain ⟨a, b⟩ := h.obj r o hr
    exact ⟨a, b.kept (fun _ _ => rfl) (Nat.le_refl _) a (hb.block _ (h.blk r a).2)⟩
  · exact ⟨fun _ _ => rfl, Nat.le_refl _, hb.size, fun k hk _ => hb.block k hk, fun r o h => .inl ⟨r, o, h, rfl⟩⟩

theorem enter_run0 {f : FuncId} {fn : Func} (hf : P.funcs[f]? = some fn) (hb : fn.body.isNone = false) (hn : (fn.name == "runtime.NumGoroutine") = false) (args : Array Value) (w : World) :
    (callFunc f args).run P w = .ok (.enter f args) w := by
  cases hc : fn.body with
  | none => rw [hc] at hb; cases hb
  | some c =>
    unfold callFunc
    simp [hf, hc]
    simpa using hn

/-- a function that only makes memory, and answers a plain value -/
theorem orc_quiet (hR : Rel P W θ σ w) {f : FuncId} {args : Array Value} {v : AV} {u : Value} (hv : toV1 v = some u) (hc : Calls P f args w fun e w' => e = .returned u ∧ Below w.heap.size w w') :
    CallsIn Fence.wide 0 P f args w (CPost P W θ σ w v σ) := by
  refine callsIn_wide.2 (hc.mono ?_)
  rintro e w' ⟨rfl, hb⟩
  obtain ⟨a, b⟩ := hR.below hb
  exact ⟨θ, by rw [of_toV1 hv θ], a, b, toV1_V hv _⟩

/-- a function that turns one cell, and answers a plain value -/
theorem orc_cell (hR : Rel P W θ σ w) {f : FuncId} {args : Array Value} {v x : AV} {u : Value} {r o : Nat} {cs : List AV} {e : TypeId} {op : Bool} (hrow : rowOf σ r = some (cs, e, op)) (ho : o < cs.length)
    (hx : ∀ n, V θ n x) (hx1 : one x = true) (hσ : σ.put r (some (.row (cs.set o x) e op)) = some σ') (hv : toV1 v = some u)
    (hc : Calls P f args w fun e w' => e = .returned u ∧ w.setCell ⟨(θ r).blk, o, none⟩ (conc θ x) = w') :
    CallsIn Fence.wide 0 P f args w (CPost P W θ σ w v σ') := by
  refine callsIn_wide.2 (hc.mono ?_)
  rintro en w' ⟨rfl, rfl⟩
  obtain ⟨h1, h2, c, fz, h3, h4, h5, h6⟩ := hR.row hrow
  have hlt : o < c.size := (Array.getElem?_eq_some_iff.1 (h5 o cs[o] (List.getElem?_eq_getElem ho))).1
  have hT := hR.turn (w' := w.setCell ⟨(θ r).blk, o, none⟩ (conc θ x)) (rowOf_get hrow) hσ (by rw [setCell_setB h3]; exact setB_size _ _ _) (fun k hk => by rw [setCell_setB h3]; exact setB_other _ hk) (by rw [setCell_setB h3]; rfl) (by rw [setCell_setB h3]; rfl) (by rw [setCell_setB h3]; rfl) (by
      refine ⟨fun v hv => ?_, c.setIfInBounds o (conc θ x), fz, by rw [setCell_setB h3]; exact setB_same _ (Array.getElem?_eq_some_iff.1 h3).1, by simpa using h4, fun j v hj => ?_, fun hop => ?_⟩
      · rcases List.mem_or_eq_of_mem_set hv with hv | rfl
        · exact h2 v hv
        · exact ⟨hx _, hx1⟩
      · by_cases e : o = j
        · subst e
          rw [List.getElem?_set_self ho] at hj
          cases hj
          rw [Array.getElem?_setIfInBounds_self_of_lt hlt]
        · rw [List.getElem?_set_ne e] at hj
          rw [Array.getElem?_setIfInBounds_ne e]
          exact h5 j v hj
      · obtain ⟨a, b, i, hi, hs⟩ := h6 hop
        exact ⟨a, b, i, hi, by simpa using hs⟩)
  exact ⟨θ, by rw [of_toV1 hv θ], hT.1, hT.2, toV1_V hv _⟩
end
end Go.Proofs.YtdennekkbdlhdaaDoor.Ev
/-
  A package variable that reads as a datum of integers holds just these.
-/
namespace Go.Proofs.YtdennekkbdlhdaaDoor.Ev
open Go.RowKit Go.WideShapes Go.ChangeShapes
set_option linter.unusedVariables false
set_option linter.unusedSimpArgs false

mutual
def flatD {H : Type} : DataW H → List Value
  | .lit (.int k n) => [.int k n]
  | .agg ps => flatAll ps
  | _ => []
def flatAll {H : Type} : List (DataW H) → List Value
  | [] => []
  | d :: l => flatD d ++ flatAll l
end

section
variable {H : Type} {enc : TypeId × Value → H} {P : Program} {W : World} {base : Nat} {sp : Nat → Bool} {held : Bool}

/-- what is read at type t is the datum's own numbers -/
def Flat (enc : TypeId × Value → H) (P : Program) (W : World) (base : Nat) (sp : Nat → Bool) (held : Bool) (t : TypeId) : Prop :=
  ∀ fuel cs x, DataW.trod enc P W base sp held fuel t cs = some x → cs = flatD x.1

theorem flat_int {t : TypeId} {k : IntKind} (ht : P.underlying t = some (.int k)) : Flat enc P W base sp held t := fun fuel cs x h => by
  obtain ⟨n, rfl, rfl, _⟩ := DataW.trod_int ht h
  simp [flatD]

theorem chunks {c : Nat} : ∀ (xs : List (DataW H × List MemPlace)) (cs : List Value), cs.length = xs.length * c → (∀ i y, xs[i]? = some y → (cs.drop (i * c)).take c = flatD y.1) → cs = flatAll (xs.map (·.1))
  | [], cs, hl, _ => by simpa [flatAll] using hl
  | y :: xs, cs, hl, h => by
    have h0 := h 0 y rfl
    simp only [Nat.zero_mul, List.drop_zero] at h0
    have := chunks (c := c) xs (cs.drop c) (by simp [hl, Nat.succ_mul]) (fun i z hz => by
      have := h (i + 1) z (by simpa using hz)
      rw [List.drop_drop]
      rw [← this]
      congr 2
      rw [Nat.succ_mul]; omega)
    simp only [List.map_cons, flatAll, ← this, ← h0, List.take_append_drop]

theorem flat_array {t e : TypeId} {n : Nat} (ht : P.underlying t = some (.array n e)) (hc : P.cellsOf t = n * P.cellsOf e) (he : Flat enc P W base sp held e) : Flat enc P W base sp held t := fun fuel cs x h => by
  obtain ⟨xs, m, rfl, rfl, hl, hn, hel⟩ := DataW.trod_array ht h
  simp only [flatD]
  refine chunks (c := P.cellsOf e) xs cs (by rw [hl, hc, hn]) fun i y hy => ?_
  have hi : i < n := by
    have := (List.getElem?_eq_some_iff.1 hy).1
    omega
  exact he m _ y ((hel i hi).trans hy)

theorem flat_pair {t : TypeId} {fs : Array Field} {f0 f1 : Field} (ht : P.underlying t = some (.struct fs)) (hf : fs.toList = [f0, f1]) (h0 : f0.offset = 0) (h1 : f1.offset = P.cellsOf f0.type) (hc : P.cellsOf t = P.cellsOf f0.type + P.cellsOf f1.type)
    (a : Flat enc P W base sp held f0.type) (b : Flat enc P W base sp held f1.type) : Flat enc P W base sp held t := fun fuel cs x h => by
  cases fuel with
  | zero => simp [DataW.trod] at h
  | succ m =>
    unfold DataW.trod at h
    rw [ht] at h
    simp only at h
    split at h
    · rename_i hl
      rw [hf] at h
      obtain ⟨xs, hm, rfl⟩ := Option.map_eq_some_iff.1 h
      simp only [List.mapM_cons, List.mapM_nil, Option.bind_eq_bind, Option.bind_eq_some_iff, Option.pure_def, Option.some.injEq] at hm
      obtain ⟨y0, q0, z, ⟨y1, q1, z2, rfl, rfl⟩, rfl⟩ := hm
      have r0 := a m _ y0 q0
      have r1 := b m _ y1 q1
      rw [h0, List.drop_zero] at r0
      rw [h1] at r1
      simp only [List.map_cons, List.map_nil, flatD, flatAll, List.append_nil, ← r0, ← r1]
      rw [List.take_of_length_le (l := cs.drop _) (by rw [List.length_drop]; omega), List.take_append_drop]
    · cases h
end

theorem flat_pair' {H : Type} {enc : TypeId × Value → H} {P : Program} {W : World} {base : Nat} {sp : Nat → Bool} {held : Bool} {t a b : TypeId} {fs : Array Field} (ht : P.underlying t = some (.struct fs)) (hf : fs.toList.map (fun f => (f.type, f.offset)) = [(a, 0), (b, P.cellsOf a)])
    (hc : P.cellsOf t = P.cellsOf a + P.cellsOf b) (ha : Flat enc P W base sp held a) (hb : Flat enc P W base sp held b) : Flat enc P W base sp held t := by
  obtain ⟨f0, l, hl, e0, h1⟩ := List.map_eq_cons_iff.1 hf
  obtain ⟨f1, l', rfl, e1, h2⟩ := List.map_eq_cons_iff.1 h1
  obtain rfl := List.map_eq_nil_iff.1 h2
  simp only [Prod.mk.injEq] at e0 e1
  obtain ⟨rfl, e0⟩ := e0
  obtain ⟨rfl, e1⟩ := e1
  exact flat_pair ht hl e0 e1 hc ha hb

theorem toVs_at : ∀ {l : List AV} {m : List Value}, toVs l = some m → ∀ (j : Nat) (v : AV), l[j]? = some v → ∃ x : Value, toV1 v = some x ∧ m[j]? = some x
  | [], m, h, j, v, hv => by simp at hv
  | a :: l, m, h, j, v, hv => by
    simp only [toVs] at h
    split at h
    · rename_i y m' hy hm
      cases h
      cases j with
      | zero => simp only [List.getElem?_cons_zero, Option.some.injEq] at hv; subst hv; exact ⟨y, hy, by simp⟩
      | succ j => obtain ⟨x, h1, h2⟩ := toVs_at hm j v (by simpa using hv); exact ⟨x, h1, by simpa using h2⟩
    · cases h

/-- one listed variable, of integers alone -/
theorem gok_one {P : Program} {W : World} {n : String} {cs : Array Value} {g : Nat} {l : List AV} (hg : P.globalNamed n = some g) (hvar : W.var? P n = some cs) (h : toVs l = some cs.toList) :
    g < W.heap.size ∧ ∀ j v, l[j]? = some v → ∃ x, toV1 v = some x ∧ W.cell? ⟨g, j, none⟩ = some x := by
  refine ⟨?_, fun j v hv => ?_⟩
  · simp only [World.var?, hg, Option.bind_some] at hvar
    split at hvar
    · rename_i hh; exact (Array.getElem?_eq_some_iff.1 hh).1
    · cases hvar
  · obtain ⟨x, h1, h2⟩ := toVs_at h j v hv
    exact ⟨x, h1, by rw [World.var?_cell hg hvar j]; simpa using h2⟩

theorem gok_nil {W : World} : GOk [] W := fun g cs h => by simp [readG] at h

theorem gok_cons {W : World} {g : Nat} {l : List AV} {G : List (Nat × List AV)} (h : g < W.heap.size ∧ ∀ j v, l[j]? = some v → ∃ x, toV1 v = some x ∧ W.cell? ⟨g, j, none⟩ = some x) (hG : GOk G W) : GOk ((g, l) :: G) W := fun g' cs h' => by
  simp only [readG] at h'
  split at h'
  · rename_i he
    cases h'
    subst he
    exact h
  · exact hG g' cs h'
end Go.Proofs.YtdennekkbdlhdaaDoor.Ev
