/-
  Ranges over functions: what a body that holds one must achieve, and what a range may count on. (Of no seat's own functions.)
-/
import Derived.Test.YtdennekkbdlhdaaDoorMB
import Derived.Test.YtdennekkbdlhdaaDoorPlC
import Derived.WalkKit
import Derived.Below
import Derived.RangeFuncLeaves
import Derived.RangeFuncIn
import Derived.RangeFuncRecord
import Derived.RangeFuncSeq
import Derived.RangeFuncNested
import Derived.RangeFuncBound
import Derived.RangeFuncBox
import Derived.RangeFuncCalls
import Derived.TacticsInMore
import Derived.TacticsIn
import Derived.LoopNIn
import Derived.LoopIn
import Derived.Shelf.Abstract
import Derived.OwnWalkIn
namespace Go.Proofs.YtdennekkbdlhdaaDoor
open Go.RowKit
attribute [local go_sem] Oper.semAt_some
set_option linter.unusedVariables false

theorem wp_range1 {g : Operand} {ps : Array Tmp} {assign body : Code} {Q : Exit → Act → World → Prop} {a : Act} {w : World} {gf : Nat} {lb : Array Value}
    (hg : a.eval g = .func (.func gf) #[] lb) (eg : ∀ args w, (callFunc gf args).run Tryd.prog w = .ok (.enter gf args) w)
    (hcall : ∀ fn, CallsIn Fence.wide 1 Tryd.prog gf (#[.func (.yield (w.heap.size + 1)) #[] #[]] ++ lb) ((w.alloc (.deferred (some []))).alloc (.loop { state := .ready, pending := none, fn := fn, tmps := a.tmps, params := ps, assign := assign, body := body, defers := w.heap.size })) fun e w3 =>
      (∃ v, e = .returned v) ∧ ∃ r : Loop, w3.heap[w.heap.size + 1]? = some (.loop r) ∧ r.state ≠ .busy ∧
        (match r.pending with
          | none => Q .normal { a with defers := { target := .collected w.heap.size, args := #[] } :: a.defers } (w3.putObj (w.heap.size + 1) (.loop { r with state := .exhausted }))
          | some c => c.wp Tryd.prog Q { a with defers := { target := .collected w.heap.size, args := #[] } :: a.defers } (w3.putObj (w.heap.size + 1) (.loop { r with state := .exhausted })))) :
    (Code.rangeFunc g ps assign body).wp Tryd.prog Q a w := by
  refine (wpIn_wide (n := 2)).1 (wpIn_rangeFunc fun fn _ => ?_)
  have hcall := hcall fn
  have he := run_enterLoop_outer (P := Tryd.prog) (w := w) fn a.tmps ps assign body
  obtain ⟨W1, hW1⟩ : ∃ W1, (w.alloc (.deferred (some []))).alloc (.loop { state := .ready, pending := none, fn := fn, tmps := a.tmps, params := ps, assign := assign, body := body, defers := w.heap.size }) = W1 := ⟨_, rfl⟩
  rw [hW1] at hcall he
  have hres : (resolve a.eval (rangeCall g (w.heap.size + 1)) 0).run Tryd.prog W1 = .ok { target := .fn (.func gf) lb, args := #[Value.func (.yield (w.heap.size + 1)) #[] #[]] } W1 := by
    simp only [resolve, Sem.run_pure, hg, Deferred.ofValue]
    simp [Act.eval]
  have hinv : (invoke (.fn (.func gf) lb) #[Value.func (.yield (w.heap.size + 1)) #[] #[]]).run Tryd.prog W1 = .ok (.enter gf (#[Value.func (.yield (w.heap.size + 1)) #[] #[]] ++ lb)) W1 := by
    simp only [invoke]
    exact eg _ _
  clear hW1
  refine ⟨w.heap.size + 1, [{ target := .collected w.heap.size, args := #[] }], W1, { target := .fn (.func gf) lb, args := #[Value.func (.yield (w.heap.size + 1)) #[] #[]] }, W1, gf, _, W1, he, hres, (fun f' _ => trivial), hinv, (fun _ => by omega), ?_⟩
  refine CallsIn.mono hcall ?_
  intro e w3 h3
  obtain ⟨⟨v, rfl⟩, r, hr, hb, hq⟩ := h3
  refine ⟨r.pending, w3.putObj (w.heap.size + 1) (.loop { r with state := .exhausted }), run_endLoop hr hb, ?_⟩
  generalize w3.putObj (w.heap.size + 1) (.loop { r with state := .exhausted }) = w4 at hq
  cases hp : r.pending with
  | none => rw [hp] at hq; exact hq
  | some c => rw [hp] at hq; exact (wpIn_wide (n := 2)).2 hq

/-- the same, the world and the record by what is known of them -/
theorem wp_range2 {g : Operand} {ps : Array Tmp} {assign body : Code} {Q : Exit → Act → World → Prop} {a : Act} {w : World} {gf : Nat} {lb : Array Value}
    (hg : a.eval g = .func (.func gf) #[] lb) (eg : ∀ args w, (callFunc gf args).run Tryd.prog w = .ok (.enter gf args) w)
    (hcall : ∀ (W : World) (r : Loop), W.heap[w.heap.size + 1]? = some (.loop r) → W.heap[w.heap.size]? = some (.deferred (some [])) → Below w.heap.size w W → w.heap.size + 2 ≤ W.heap.size →
      r.state = .ready → r.pending = none → r.tmps = a.tmps → r.params = ps → r.assign = assign → r.body = body →
      CallsIn Fence.wide 1 Tryd.prog gf (#[.func (.yield (w.heap.size + 1)) #[] #[]] ++ lb) W fun e w3 =>
      (∃ v, e = .returned v) ∧ ∃ r : Loop, w3.heap[w.heap.size + 1]? = some (.loop r) ∧ r.state ≠ .busy ∧
        (match r.pending with
          | none => Q .normal { a with defers := { target := .collected w.heap.size, args := #[] } :: a.defers } (w3.putObj (w.heap.size + 1) (.loop { r with state := .exhausted }))
          | some c => c.wp Tryd.prog Q { a with defers := { target := .collected w.heap.size, args := #[] } :: a.defers } (w3.putObj (w.heap.size + 1) (.loop { r with state := .exhausted })))) :
    (Code.rangeFunc g ps assign body).wp Tryd.prog Q a w :=
  wp_range1 hg eg fun fn => hcall _ _ (heap_alloc2_new w _ _) (heap_alloc2_old w _ _) (((Below.refl _ _).alloc (Nat.le_refl _) _).alloc (by simp) _) (by simp) rfl rfl rfl rfl rfl rfl

/-- how a body's way out is noted in the loop's record -/
def jumpOf : Exit → Option (Option Code)
  | .normal => some none
  | .ret => some (some .ret)
  | .exit id => some (some (.exit id))
  | .goto t => some (some (.goto t))
  | _ => none
/-- a round that is asked for: the loop's left sides, then its body -/
theorem yield_at {m l : Nat} {r : Loop} {args : Array Value} {W : World} {R : Ending → World → Prop} (h : W.heap[l]? = some (.loop r)) (hs : args.size = r.params.size)
    (hb : r.assign.wpIn (Fence.wide.inRound l) m Tryd.prog (Exit.then (fun a₁ w₁ => ∃ r₁ : Loop, w₁.heap[l]? = some (.loop r₁) ∧ r₁.state = .ready ∧
      r.body.wpIn (Fence.wide.inRound l) m Tryd.prog (fun e _ w₂ => ∃ (j : Option Code) (r₂ : Loop), jumpOf e = some j ∧ w₂.heap[l]? = some (.loop r₂) ∧
        R (.returned (.bool j.isNone)) (w₂.putObj l (.loop { r₂ with state := if j.isNone then .ready else .done, pending := j }))) a₁ (w₁.putObj l (.loop { r₁ with state := .busy }))) (fun _ _ _ => False))
      { tmps := (r.params.zip args).foldl (fun t (p, v) => t.setIfInBounds p v) r.tmps, defers := [] } W) : YieldAt Fence.wide m Tryd.prog l args W R := by
  refine ⟨r.fn, _, r.assign, r.body, run_yield h hs, roundIn_of_wpIn trivial (wpIn_mono hb ?_)⟩
  intro e a w he
  cases e with
  | normal =>
    obtain ⟨r₁, h1, h2, h3⟩ := he
    refine ⟨_, run_beginRound h1 h2, wpIn_mono h3 ?_⟩
    rintro e a w ⟨j, r₂, hj, h4, h5⟩
    cases e <;> simp only [jumpOf] at hj <;> first | (cases hj; done) | (cases hj; exact ⟨_, _, run_endRound _ h4, h5⟩)
  | _ => exact he.elim
/-- the way out of a body that held some of them -/
def marked (Ds : List Nat) : List Deferred := Ds.map fun D => { target := .collected D, args := #[] }
theorem leaves_marked {fn : Func} {R : Ending → World → Prop} {tm : Array Value} : ∀ (Ds : List Nat) (W : World), (∀ D ∈ Ds, W.heap[D]? = some (.deferred (some []))) → Ds.Nodup →
    (∀ W' : World, W'.os = W.os → W'.tape = W.tape → W'.output = W.output → W'.heap.size = W.heap.size → (∀ k, k ∉ Ds → W'.heap[k]? = W.heap[k]?) → ∃ v, (results fn tm).run Tryd.prog W' = .ok v W' ∧ R (.returned v) W') →
    LeavesInM Fence.wide 2 Tryd.prog fn tm R (marked Ds) .returning W := by
  intro Ds
  induction Ds with
  | nil => intro W _ _ h; obtain ⟨v, h1, h2⟩ := h W rfl rfl rfl rfl fun _ _ => rfl; exact ⟨v, h1, h2⟩
  | cons D Ds ih =>
    intro W hD hN h
    have h0 := hD D (List.mem_cons_self ..)
    refine ⟨by simp, .inl ⟨D, W.putObj D (.deferred none), rfl, run_takeDeferred h0, ih _ ?_ (List.nodup_cons.1 hN).2 ?_⟩⟩
    · intro E hE
      rw [World.putObj_heap_other (show E ≠ D from fun e => (List.nodup_cons.1 hN).1 (e ▸ hE))]
      exact hD E (List.mem_cons_of_mem _ hE)
    · intro W' o1 o2 o3 o4 o5
      refine h W' o1 o2 o3 (by rw [o4]; simp) fun k hk => ?_
      simp only [List.mem_cons, not_or] at hk
      rw [o5 k hk.2, World.putObj_heap_other hk.1]
end Go.Proofs.YtdennekkbdlhdaaDoor
