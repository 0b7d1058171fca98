/-
  The walk of FrameApart: two frames that may be sent have the same bytes just if they are the same.
-/
import Derived.Test.YtecmpkbpngnpbaaBack
import Derived.Test.YtecmpkbpngnpbaaRight
import Derived.Orders
import Derived.RegionTactic
import Derived.Shelf.Abstract
import Derived.ControlIn
import Derived.Deep.Quiet
import Derived.BigQuiet
namespace Go.Proofs.Ytecmpkbpngnpbaa
open Go.RowKit Go.Shelf Go.BigFrame
set_option linter.unusedVariables false

/-- a whole frame loaded, as one step of a region that draws -/
theorem step_load {ops : Array Oper} {o : Oper} {a : Act} {w : World} {K : Act → World → Prop} {Q : Exit → Act → World → Prop} {E : Prop}
    (hgd : o.guard = none) (x : Operand) (ho : o.op = .load 27 x) (g : Nat) (hx : a.eval x = .pointer (some ⟨g, 0, none⟩)) (cs : Array Value) (hg : w.heap[g]? = some (.cells cs 27 (0, 0))) (hs : cs.size = 67)
    (h : K (a.put o.dst (.agg cs)) w) : if Region.wanted o (yielded ops a.tmps) = true then Oper.wp Try.prog o a w K Q else E := by
  have hw : Region.wanted o (yielded ops a.tmps) = true := by simp [Region.wanted, hgd]
  rw [if_pos hw]
  exact wp_load_row _ x ho g hx _ cs _ _ hg Try.underlying27 rfl (fr_info hs) h
/-- a call of one argument, as one step of a region that draws -/
theorem step_call {ops : Array Oper} {o : Oper} {a : Act} {w : World} {K : Act → World → Prop} {Q : Exit → Act → World → Prop} {E : Prop} {R : Ending → World → Prop}
    (hgd : o.guard = none) (f i : Nat) (ts : Array TypeId) (ho : o.op = .call { callee := .value (.func f), args := #[.tmp i], argTypes := ts }) (v : Value) (hx : a.tmps.getD i undef = v)
    (eg : ∀ args w, (callFunc f args).run Try.prog w = .ok (.enter f args) w) (hcall : Calls Try.prog f #[v] w R)
    (h : ∀ e w', R e w' → ∃ r, e = .returned r ∧ K (a.put o.dst r) w') : if Region.wanted o (yielded ops a.tmps) = true then Oper.wp Try.prog o a w K Q else E := by
  have hw : Region.wanted o (yielded ops a.tmps) = true := by simp [Region.wanted, hgd]
  rw [if_pos hw]
  unfold Oper.wp
  have hx' : a.tmps[i]?.getD undef = v := by simpa using hx
  simp [execOp, ho, resolve, invoke, Act.eval, eg, Oper.upon, go_sem, hx']
  refine hcall.mono fun e w' hr => ?_
  obtain ⟨r, rfl, hk⟩ := h e w' hr
  exact hk

/-- what a piece of code leaves, said once for all its ways -/
theorem wp_cut {c : Code} {Q : Exit → Act → World → Prop} {a : Act} {w : World} (I : Act → World → Prop) (h1 : c.wp Try.prog (fun e a w => e = .normal ∧ I a w) a w) (h2 : ∀ a w, I a w → Q .normal a w) : c.wp Try.prog Q a w :=
  (wpIn_wide (n := 0)).1 (wpIn_mono ((wpIn_wide (n := 0)).2 h1) fun e a w h => by obtain ⟨rfl, h⟩ := h; exact h2 a w h)
/-- where two frames stand in their boxes -/
structure Two (w : World) (B : Nat) (F G : Array Value) (W : World) : Prop where
  one : W.heap[B]? = some (.cells F 27 (0, 0))
  two : W.heap[B + 1]? = some (.cells G 27 (0, 0))
  bel : Below w.heap.size w W
  siz : B + 1 < W.heap.size
theorem Two.later {w W W' : World} {B : Nat} {F G : Array Value} (h : Two w B F G W) (hb : Below W.heap.size W W') (hB : w.heap.size ≤ B) : Two w B F G W' :=
  ⟨(hb.block B (by have := h.siz; omega)).trans h.one, (hb.block (B + 1) h.siz).trans h.two, h.bel.trans (hb.mono h.bel.size), by have := hb.size; have := h.siz; omega⟩
theorem Two.set1 {w W : World} {B : Nat} {F G : Array Value} (h : Two w B F G W) (hB : w.heap.size ≤ B) (F' : Array Value) : Two w B F' G (W.setRow B F') :=
  ⟨setRow_heap _ _ _ _ _ _ h.one, (setRow_other _ _ _ _ (by omega)).trans h.two, below_setRow h.bel hB _, by have := h.siz; simpa using this⟩
theorem Two.set2 {w W : World} {B : Nat} {F G : Array Value} (h : Two w B F G W) (hB : w.heap.size ≤ B) (G' : Array Value) : Two w B F G' (W.setRow (B + 1) G') :=
  ⟨(setRow_other _ _ _ _ (by omega)).trans h.one, setRow_heap _ _ _ _ _ _ h.two, below_setRow h.bel (by omega) _, by have := h.siz; simpa using this⟩
theorem Two.drew {w W : World} {B : Nat} {F G : Array Value} (h : Two w B F G W) : Two w B F G { W with drawn := W.drawn + 1 } := ⟨h.one, h.two, below_drewN h.bel 1, h.siz⟩

/-- a region that draws, by what holds at each set of operations that are done -/
theorem wpAny_inv {md : Region.Mode} {ops : Array Oper} {Q : Exit → Act → World → Prop} (I : Nat → Array Bool → Act → World → Prop)
    (h0 : ∀ l a W, I 0 l a W → Region.ready md ops l = [] ∧ Q .normal a W)
    (hs : ∀ n l a W, I (n + 1) l a W → (Region.ready md ops l = [] → Q .normal a W) ∧ ∀ i ∈ Region.ready md ops l, wpOp Try.prog ops Q i (I n (l.setIfInBounds i true)) a W) :
    ∀ n l a W, I n l a W → wpAny Try.prog md ops Q n l a W
  | 0, l, a, W, h => h0 l a W h
  | n + 1, l, a, W, h => ⟨(hs n l a W h).1, fun i hi => wpOp_mono (fun a w h => wpAny_inv I h0 hs n _ a w h) ((hs n l a W h).2 i hi)⟩
theorem inv_next {md : Region.Mode} {ops : Array Oper} {l : Array Bool} {X : Prop} {P : Nat → Prop} {rs : List Nat} (hr : Region.ready md ops l = rs) (hne : rs ≠ []) (h : ∀ i ∈ rs, P i) :
    (Region.ready md ops l = [] → X) ∧ ∀ i ∈ Region.ready md ops l, P i := ⟨fun h0 => absurd (hr ▸ h0) hne, hr ▸ h⟩
theorem op_step {ops : Array Oper} {Q : Exit → Act → World → Prop} {i : Nat} {o : Oper} {K : Act → World → Prop} {a : Act} {w : World} (ho : ops[i]? = some o)
    (h : if Region.wanted o (yielded ops a.tmps) = true then Oper.wp Try.prog o a w K Q else K (a.put o.dst undef) w) : wpOp Try.prog ops Q i K a w := by
  unfold wpOp
  rw [ho]
  by_cases hw : Region.wanted o (yielded ops a.tmps) = true
  · simp only [hw, if_true] at h ⊢; exact .inl h
  · simp only [hw] at h ⊢; exact h
/-- the states of the region that makes both frames right -/
inductive Bet (w : World) (F G F' G' : Array Value) : Nat → Array Bool → Act → World → Prop
  | s {W : World} (T : Two w w.heap.size F G W) : Bet w F G F' G' 6 #[false, false, false, false, false, false] ({ tmps := #[.agg F, .agg G, .pointer (some ⟨w.heap.size, 0, none⟩), .pointer (some ⟨w.heap.size + 1, 0, none⟩), .bool false, .bool true, undef, undef, undef, undef, .bool true, undef, undef, undef, undef, undef, undef, undef, undef, undef, undef, undef, undef, undef, undef, undef, undef, undef, undef, undef, undef, undef, undef, undef, undef, undef, undef, undef, undef, undef, undef, undef, undef, undef, undef], defers := [] }) W
  | s0 {W : World} (T : Two w w.heap.size F G W) : Bet w F G F' G' 5 #[true, false, false, false, false, false] ({ tmps := #[.agg F, .agg G, .pointer (some ⟨w.heap.size, 0, none⟩), .pointer (some ⟨w.heap.size + 1, 0, none⟩), .bool false, .bool true, undef, undef, undef, undef, .bool true, .agg F, undef, undef, undef, undef, undef, undef, undef, undef, undef, undef, undef, undef, undef, undef, undef, undef, undef, undef, undef, undef, undef, undef, undef, undef, undef, undef, undef, undef, undef, undef, undef, undef, undef], defers := [] }) W
  | s2 {W : World} (T : Two w w.heap.size F G W) : Bet w F G F' G' 5 #[false, false, true, false, false, false] ({ tmps := #[.agg F, .agg G, .pointer (some ⟨w.heap.size, 0, none⟩), .pointer (some ⟨w.heap.size + 1, 0, none⟩), .bool false, .bool true, undef, undef, undef, undef, .bool true, undef, undef, .agg G, undef, undef, undef, undef, undef, undef, undef, undef, undef, undef, undef, undef, undef, undef, undef, undef, undef, undef, undef, undef, undef, undef, undef, undef, undef, undef, undef, undef, undef, undef, undef], defers := [] }) W
  | s01 {W : World} (T : Two w w.heap.size F G W) : Bet w F G F' G' 4 #[true, true, false, false, false, false] ({ tmps := #[.agg F, .agg G, .pointer (some ⟨w.heap.size, 0, none⟩), .pointer (some ⟨w.heap.size + 1, 0, none⟩), .bool false, .bool true, undef, undef, undef, undef, .bool true, .agg F, .agg F', undef, undef, undef, undef, undef, undef, undef, undef, undef, undef, undef, undef, undef, undef, undef, undef, undef, undef, undef, undef, undef, undef, undef, undef, undef, undef, undef, undef, undef, undef, undef, undef], defers := [] }) W
  | s02 {W : World} (T : Two w w.heap.size F G W) : Bet w F G F' G' 4 #[true, false, true, false, false, false] ({ tmps := #[.agg F, .agg G, .pointer (some ⟨w.heap.size, 0, none⟩), .pointer (some ⟨w.heap.size + 1, 0, none⟩), .bool false, .bool true, undef, undef, undef, undef, .bool true, .agg F, undef, .agg G, undef, undef, undef, undef, undef, undef, undef, undef, undef, undef, undef, undef, undef, undef, undef, undef, undef, undef, undef, undef, undef, undef, undef, undef, undef, undef, undef, undef, undef, undef, undef], defers := [] }) W
  | s012 {W : World} (T : Two w w.heap.size F G W) : Bet w F G F' G' 3 #[true, true, true, false, false, false] ({ tmps := #[.agg F, .agg G, .pointer (some ⟨w.heap.size, 0, none⟩), .pointer (some ⟨w.heap.size + 1, 0, none⟩), .bool false, .bool true, undef, undef, undef, undef, .bool true, .agg F, .agg F', .agg G, undef, undef, undef, undef, undef, undef, undef, undef, undef, undef, undef, undef, undef, undef, undef, undef, undef, undef, undef, undef, undef, undef, undef, undef, undef, undef, undef, undef, undef, undef, undef], defers := [] }) W
  | s0123 {W : World} (T : Two w w.heap.size F G W) : Bet w F G F' G' 2 #[true, true, true, true, false, false] ({ tmps := #[.agg F, .agg G, .pointer (some ⟨w.heap.size, 0, none⟩), .pointer (some ⟨w.heap.size + 1, 0, none⟩), .bool false, .bool true, undef, undef, undef, undef, .bool true, .agg F, .agg F', .agg G, .agg G', undef, undef, undef, undef, undef, undef, undef, undef, undef, undef, undef, undef, undef, undef, undef, undef, undef, undef, undef, undef, undef, undef, undef, undef, undef, undef, undef, undef, undef, undef], defers := [] }) W
  | s01234 {W : World} (T : Two w w.heap.size F' G W) : Bet w F G F' G' 1 #[true, true, true, true, true, false] ({ tmps := #[.agg F, .agg G, .pointer (some ⟨w.heap.size, 0, none⟩), .pointer (some ⟨w.heap.size + 1, 0, none⟩), .bool false, .bool true, undef, undef, undef, undef, .bool true, .agg F, .agg F', .agg G, .agg G', undef, undef, undef, undef, undef, undef, undef, undef, undef, undef, undef, undef, undef, undef, undef, undef, undef, undef, undef, undef, undef, undef, undef, undef, undef, undef, undef, undef, undef, undef], defers := [] }) W
  | s012345 {W : World} (T : Two w w.heap.size F' G' W) : Bet w F G F' G' 0 #[true, true, true, true, true, true] ({ tmps := #[.agg F, .agg G, .pointer (some ⟨w.heap.size, 0, none⟩), .pointer (some ⟨w.heap.size + 1, 0, none⟩), .bool false, .bool true, undef, undef, undef, undef, .bool true, .agg F, .agg F', .agg G, .agg G', undef, undef, undef, undef, undef, undef, undef, undef, undef, undef, undef, undef, undef, undef, undef, undef, undef, undef, undef, undef, undef, undef, undef, undef, undef, undef, undef, undef, undef, undef], defers := [] }) W
theorem Bet.like {w : World} {F G F' G' : Array Value} {n : Nat} {l l' : Array Bool} {a a' : Act} {W : World} (h : Bet w F G F' G' n l' a' W) (hl : l = l') (ha : a = a') : Bet w F G F' G' n l a W := hl ▸ ha ▸ h
section
variable {o : Oper} {a : Act} {C : World → Prop} {K : Act → Prop}
theorem q_at {ops : Array Oper} {l : List Oper} {a a' : Act} (h : a = a') (hk : wpQuiet Try.prog ops C K l a') : wpQuiet Try.prog ops C K l a := h ▸ hk
theorem q_is (v : Value) (h : ∀ w, C w → (execOp a.eval o).run Try.prog w = .ok (.value v) w) (hk : K (a.put o.dst v)) : o.quiet Try.prog a C K := ⟨v, fun w hw => by unfold Oper.quietAt; rw [h w hw]; exact ⟨rfl, rfl⟩, hk⟩
theorem q_convert (s t : TypeId) (x : Operand) (ho : o.op = .convert s t x) (u v : Value) (hx : a.eval x = u) (h : ∀ w, C w → (convert s t u).run Try.prog w = .ok v w) (hk : K (a.put o.dst v)) : o.quiet Try.prog a C K :=
  q_is v (fun w hw => by unfold execOp; simp only [ho, hx, Sem.run_bind, h w hw, Result.andThen_ok, Sem.run_pure]) hk
theorem q_load (x : Operand) (ho : o.op = .load 27 x) (g : Nat) (hx : a.eval x = .pointer (some ⟨g, 0, none⟩)) (cs : Array Value) (hs : cs.size = 67)
    (h : ∀ w, C w → w.heap[g]? = some (.cells cs 27 (0, 0))) (hk : K (a.put o.dst (.agg cs))) : o.quiet Try.prog a C K :=
  q_is _ (fun w hw => by
    unfold execOp
    simp only [ho, hx, Instr.loadAt, Instr.sureAddr, Sem.run_bind, Sem.run_pure, Result.andThen_ok, run_loadVar_row w g 27 27 cs (0, 0) _ (h w hw) Try.underlying27 rfl (fr_info hs)]) hk
theorem q_eq_str (t r : TypeId) (x y : Operand) (ho : o.op = .binOp .eql t x y r) (p q : ByteArray) (hx : a.eval x = .string p) (hy : a.eval y = .string q) (b : Bool) (hb : (p.toList == q.toList) = b) (hk : K (a.put o.dst (.bool b))) : o.quiet Try.prog a C K :=
  q_is _ (fun w hw => by
    subst hb
    unfold execOp
    simp only [ho, hx, hy]
    simp [eqGuard, binOp, Op.stringOp, go_sem]) hk
theorem q_eq_agg (t r : TypeId) (x y : Operand) (ho : o.op = .binOp .eql t x y r) (p q : Array Value) (hx : a.eval x = .agg p) (hy : a.eval y = .agg q) (hm : Try.prog.eqGuardType Try.prog.depth t = false) (b : Bool) (hb : ∀ w, (Op.equalIn 10000 t (.agg p) (.agg q)).run Try.prog w = .ok b w) (hk : K (a.put o.dst (.bool b))) : o.quiet Try.prog a C K :=
  q_is _ (fun w hw => by
    unfold execOp
    simp only [ho, hx, hy, Sem.run_bind, run_eqGuard_agg w .eql t x y p q hm, run_eql_struct, hb, Result.andThen_ok, Sem.run_pure]) hk
theorem q_eq_bool (t r : TypeId) (x y : Operand) (ho : o.op = .binOp .eql t x y r) (p q : Bool) (hx : a.eval x = .bool p) (hy : a.eval y = .bool q) (hu : Try.prog.underlying t = some .bool) (hk : K (a.put o.dst (.bool (p == q)))) : o.quiet Try.prog a C K :=
  q_is _ (fun w hw => by
    unfold execOp
    simp only [ho, hx, hy]
    simp [eqGuard, binOp, Op.equal, Op.maxDepth, go_sem, run_equalIn_bool' _ _ _ _ _ hu]) hk
end


theorem same_iff (o o' : Nat) (s m s' m' : Int) (p p' : List Nat) (hp : p.length = 64) (hp' : p'.length = 64) (h0 : 0 ≤ s) (h1 : s ≤ 2147483647) (h0' : 0 ≤ s') (h1' : s' ≤ 2147483647) (hm : (Lit.int .u16 m).wf = true) (hm' : (Lit.int .u16 m').wf = true) :
    (decide (enc (o : Int) s m p = enc (o' : Int) s' m' p') == decide (((o : Nat) : Int) = (o' : Nat) ∧ (s = s' ∧ m = m') ∧ p = p')) = true := by
  have h : enc (o : Int) s m p = enc (o' : Int) s' m' p' ↔ (((o : Nat) : Int) = (o' : Nat) ∧ (s = s' ∧ m = m') ∧ p = p') := by
    constructor
    · intro h
      refine ⟨?_, ⟨?_, ?_⟩, ?_⟩
      · rw [← enc_own o s m p, h, enc_own]
      · rw [← enc_slot o s m p h0 h1, h, enc_slot o' s' m' p' h0' h1']
      · rw [← enc_mem o s m p hm, h, enc_mem o' s' m' p' hm']
      · rw [← enc_pay o s m p hp, h, enc_pay o' s' m' p' hp']
    · rintro ⟨h1, ⟨h2, h3⟩, h4⟩
      subst h2 h3 h4
      rw [h1]
  rw [beq_iff_eq]
  exact decide_eq_decide.2 h
set_option maxRecDepth 100000 in
set_option maxHeartbeats 4000000 in
theorem apart_any (o s m o' s' m' : Int) (p p' : List Nat) (w : World) (hp : p.length = 64) (hp' : p'.length = 64) (hpl : ∀ c ∈ p, c < 256) (hpl' : ∀ c ∈ p', c < 256) (hm : (Lit.int .u16 m).wf = true) (hm' : (Lit.int .u16 m').wf = true) :
    Calls Try.prog 10 #[.agg (frv o s m p), .agg (frv o' s' m' p')] w fun e w' => e = .returned (.bool true) ∧ Below w.heap.size w w' := by
  have hz := (zero_of_info info_fr).1
  have henc1 := fun W => enc_ok (ro o) (rs s) m p W hp hpl (ro_lt o) (rs_lo s) (rs_hi s) hm
  have henc2 := fun W => enc_ok (ro o') (rs s') m' p' W hp' hpl' (ro_lt o') (rs_lo s') (rs_hi s') hm'
  have hBF := back_facts (ro o) (rs s) m p hp hpl (ro_lt o) (rs_lo s) (rs_hi s) hm
  have hBG := back_facts (ro o') (rs s') m' p' hp' hpl' (ro_lt o') (rs_lo s') (rs_hi s') hm'
  have heg : Try.prog.eqGuardType Try.prog.depth 27 = false := by kernel_rfl
  have heq := fun W => eq_fr (ro o) (rs s) m (ro o') (rs s') m' p p' W hp hp' hpl hpl'
  have hsame : (decide (enc (ro o : Int) (rs s) m p = enc (ro o' : Int) (rs s') m' p') == decide (((ro o : Nat) : Int) = (ro o' : Nat) ∧ (rs s = rs s' ∧ m = m') ∧ p = p')) = true := same_iff _ _ _ _ _ _ _ _ hp hp' (rs_lo s) (rs_hi s) (rs_lo s') (rs_hi s') hm hm'
  have hr1 := fun W => right_any o s m p W hp
  have hr2 := fun W => right_any o' s' m' p' W hp'
  obtain ⟨F, hF⟩ : ∃ F, frv o s m p = F := ⟨_, rfl⟩
  obtain ⟨G, hG⟩ : ∃ G, frv o' s' m' p' = G := ⟨_, rfl⟩
  have hFs : F.size = 67 := by rw [← hF, frv_size, hp]
  have hGs : G.size = 67 := by rw [← hG, frv_size, hp']
  rw [hF] at hr1 ⊢
  rw [hG] at hr2 ⊢
  obtain ⟨F', hF'⟩ : ∃ F', frv (ro o : Nat) (rs s) m p = F' := ⟨_, rfl⟩
  obtain ⟨G', hG'⟩ : ∃ G', frv (ro o' : Nat) (rs s') m' p' = G' := ⟨_, rfl⟩
  have hF's : F'.size = 67 := by rw [← hF', frv_size, hp]
  have hG's : G'.size = 67 := by rw [← hG', frv_size, hp']
  have hF'1 : F'.all (·.oneCell') = true := by rw [← hF']; exact frv_one _ _ _ _
  have hG'1 : G'.all (·.oneCell') = true := by rw [← hG']; exact frv_one _ _ _ _
  rw [hF'] at hr1
  rw [hG'] at hr2
  simp only [hF', hG'] at henc1 henc2 heq hBF hBG
  obtain ⟨b2, hb2⟩ : ∃ b2, decide (((ro o : Nat) : Int) = (ro o' : Nat) ∧ (rs s = rs s' ∧ m = m') ∧ p = p') = b2 := ⟨_, rfl⟩
  simp only [hb2] at heq hsame
  obtain ⟨E, hE⟩ : ∃ E, enc (ro o : Int) (rs s) m p = E := ⟨_, rfl⟩
  obtain ⟨E', hE'⟩ : ∃ E', enc (ro o' : Int) (rs s') m' p' = E' := ⟨_, rfl⟩
  simp only [hE, hE'] at henc1 henc2 hBF hBG hsame
  have hst := fun W g (h : Buf W g 75 E) => str_of W (some ⟨g, 0, none⟩) 75 75 E (h.bytes (by rw [hBF.len]; omega) hBF.lt) hBF.len
  have hst' := fun W g (h : Buf W g 75 E') => str_of W (some ⟨g, 0, none⟩) 75 75 E' (h.bytes (by rw [hBG.len]; omega) hBG.lt) hBG.len
  have hse := str_eq hBF.lt hBG.lt
  have EQ := hide heq; have HST := hide hst; have HST' := hide hst'
  clear heq hst hst'
  have SF := hide hFs; have SG := hide hGs; have SF' := hide hF's; have SG' := hide hG's; have OF := hide hF'1; have OG := hide hG'1
  have h0 : Two w w.heap.size F G ((w.alloc (.cells F 27)).alloc (.cells G 27)) := ⟨heap_alloc2_old w _ _, heap_alloc2_new w _ _, (bal w _).alloc (by simp) _, by simp⟩
  have H0 := hide h0
  have eg : ∀ args W, (callFunc 21 args).run Try.prog W = .ok (.enter 21 args) W := enters_of Try.func21 (by kernel_rfl) rfl
  have EG := hide eg
  clear hF hG hFs hGs hF's hG's hF'1 hG'1 h0 eg
  go_enter Try.func10, Try.ntmps10
  go_wp2_with fail
  refine (alive_any _).mono ?_
  rintro e w1 ⟨rfl, hb1⟩
  have H1 := hide (H0.out.later hb1 (Nat.le_refl _))
  clear hb1
  go_wp2_with fail
  refine wp_cut (fun a W => a = { tmps := #[.agg F, .agg G, .pointer (some ⟨w.heap.size, 0, none⟩), .pointer (some ⟨w.heap.size + 1, 0, none⟩), .bool false, .bool true, undef, undef, undef, undef, .bool true, .agg F, .agg F', .agg G, .agg G', undef, undef, undef, undef, undef, undef, undef, undef, undef, undef, undef, undef, undef, undef, undef, undef, undef, undef, undef, undef, undef, undef, undef, undef, undef, undef, undef, undef, undef, undef], defers := [] } ∧ Two w w.heap.size F' G' W) ?_ ?_
  · refine wp_region_any (by kernel_rfl) ?_
    have SF := SF.out; have SG := SG.out; have SF' := SF'.out; have SG' := SG'.out; have OF := OF.out; have OG := OG.out; have eg := EG.out
    refine wpAny_inv (Bet w F G F' G') ?_ ?_ _ _ _ _ ((Bet.s H1.out.drew).like (by kernel_rfl) (by kernel_rfl))
    · intro l a W h
      cases h with
      | s012345 T => exact ⟨by kernel_rfl, rfl, rfl, T⟩
    intro n l a W h
    cases h with
    | s T =>
      refine inv_next (rs := [0, 2]) (by kernel_rfl) (by simp) ?_
      intro i hi
      rcases List.mem_cons.1 hi with rfl | hi
      · refine op_step rfl ?_
        refine step_load rfl (.tmp 2) rfl w.heap.size rfl F T.one SF ?_
        exact (Bet.s0 T).like (by kernel_rfl) (by kernel_rfl)
      · obtain rfl := List.mem_singleton.1 hi
        refine op_step rfl ?_
        refine step_load rfl (.tmp 3) rfl (w.heap.size + 1) rfl G T.two SG ?_
        exact (Bet.s2 T).like (by kernel_rfl) (by kernel_rfl)
    | s0 T =>
      refine inv_next (rs := [1, 2]) (by kernel_rfl) (by simp) ?_
      intro i hi
      rcases List.mem_cons.1 hi with rfl | hi
      · refine op_step rfl ?_
        refine step_call rfl 21 11 _ rfl (.agg F) rfl eg (hr1 _) ?_
        rintro e W' ⟨rfl, hbW⟩
        refine ⟨_, rfl, ?_⟩
        exact (Bet.s01 (T.later hbW (Nat.le_refl _))).like (by kernel_rfl) (by kernel_rfl)
      · obtain rfl := List.mem_singleton.1 hi
        refine op_step rfl ?_
        refine step_load rfl (.tmp 3) rfl (w.heap.size + 1) rfl G T.two SG ?_
        exact (Bet.s02 T).like (by kernel_rfl) (by kernel_rfl)
    | s2 T =>
      refine inv_next (rs := [0]) (by kernel_rfl) (by simp) ?_
      intro i hi
      obtain rfl := List.mem_singleton.1 hi
      refine op_step rfl ?_
      refine step_load rfl (.tmp 2) rfl w.heap.size rfl F T.one SF ?_
      exact (Bet.s02 T).like (by kernel_rfl) (by kernel_rfl)
    | s01 T =>
      refine inv_next (rs := [2]) (by kernel_rfl) (by simp) ?_
      intro i hi
      obtain rfl := List.mem_singleton.1 hi
      refine op_step rfl ?_
      refine step_load rfl (.tmp 3) rfl (w.heap.size + 1) rfl G T.two SG ?_
      exact (Bet.s012 T).like (by kernel_rfl) (by kernel_rfl)
    | s02 T =>
      refine inv_next (rs := [1]) (by kernel_rfl) (by simp) ?_
      intro i hi
      obtain rfl := List.mem_singleton.1 hi
      refine op_step rfl ?_
      refine step_call rfl 21 11 _ rfl (.agg F) rfl eg (hr1 _) ?_
      rintro e W' ⟨rfl, hbW⟩
      refine ⟨_, rfl, ?_⟩
      exact (Bet.s012 (T.later hbW (Nat.le_refl _))).like (by kernel_rfl) (by kernel_rfl)
    | s012 T =>
      refine inv_next (rs := [3]) (by kernel_rfl) (by simp) ?_
      intro i hi
      obtain rfl := List.mem_singleton.1 hi
      refine op_step rfl ?_
      refine step_call rfl 21 13 _ rfl (.agg G) rfl eg (hr2 _) ?_
      rintro e W' ⟨rfl, hbW⟩
      refine ⟨_, rfl, ?_⟩
      exact (Bet.s0123 (T.later hbW (Nat.le_refl _))).like (by kernel_rfl) (by kernel_rfl)
    | s0123 T =>
      refine inv_next (rs := [4]) (by kernel_rfl) (by simp) ?_
      intro i hi
      obtain rfl := List.mem_singleton.1 hi
      refine op_step rfl ?_
      refine step_store_row rfl 27 (.tmp 2) (.tmp 12) rfl w.heap.size F' rfl rfl 27 F T.one (fr_info SF') (by rw [SF, SF']) OF ?_
      exact (Bet.s01234 (T.set1 (Nat.le_refl _) F')).like (by kernel_rfl) (by kernel_rfl)
    | s01234 T =>
      refine inv_next (rs := [5]) (by kernel_rfl) (by simp) ?_
      intro i hi
      obtain rfl := List.mem_singleton.1 hi
      refine op_step rfl ?_
      refine step_store_row rfl 27 (.tmp 3) (.tmp 14) rfl (w.heap.size + 1) G' rfl rfl 27 G T.two (fr_info SG') (by rw [SG, SG']) OG ?_
      exact (Bet.s012345 (T.set2 (Nat.le_refl _) G')).like (by kernel_rfl) (by kernel_rfl)
  rintro a W ⟨rfl, hT⟩
  clear H0 H1 hr1 hr2
  have R1 := hide hT.one; have R2 := hide hT.two; have hw2 := hT.bel; have hz2 := hT.siz
  clear hT
  go_wp2_with (first
    | (refine wpList_load_row rfl 27 (.tmp 2) rfl w.heap.size rfl 27 F' (0, 0) _ R1.out Try.underlying27 rfl (fr_info SF'.out) ?_))
  refine (henc1 _).mono ?_
  rintro e w3 ⟨g, rfl, hbuf, hg, hb3⟩
  have R3 := hide ((hb3.block w.heap.size (by omega)).trans R1.out)
  have Q3 := hide ((hb3.block (w.heap.size + 1) (by omega)).trans R2.out)
  have B3 := hide hbuf
  have hgs := hbuf.1
  have hz3 := hb3.size
  have hw3 : Below w.heap.size w w3 := hw2.trans (hb3.mono (by omega))
  clear hb3 hbuf henc1
  go_wp2_with (first
    | (refine wpList_load_row rfl 27 (.tmp 3) rfl (w.heap.size + 1) rfl 27 G' (0, 0) _ Q3.out Try.underlying27 rfl (fr_info SG'.out) ?_))
  refine (henc2 _).mono ?_
  rintro e w4 ⟨g', rfl, hbuf, hg', hb4⟩
  have C4 : Two w w.heap.size F' G' w4 ∧ Buf w4 g 75 E ∧ Buf w4 g' 75 E' :=
    ⟨⟨(hb4.block w.heap.size (by omega)).trans R3.out, (hb4.block (w.heap.size + 1) (by omega)).trans Q3.out, hw3.trans (hb4.mono (by omega)), by have := hb4.size; omega⟩, B3.out.of_block (hb4.block g hgs), hbuf⟩
  clear hb4 hbuf henc2 R3 Q3 R1 R2 B3
  go_wp2_with fail
  refine wp_cut (fun a W => a = { tmps := #[.agg F, .agg G, .pointer (some ⟨w.heap.size, 0, none⟩), .pointer (some ⟨w.heap.size + 1, 0, none⟩), (.bool (decide (E = E') == b2)), .bool true, Value.slice (some ⟨g, 0, none⟩) 75 75, .int .i64 0, Value.slice (some ⟨g', 0, none⟩) 75 75, .int .i64 0, .bool true, .agg F, .agg F', .agg G, .agg G', .tuple #[Value.slice (some ⟨g, 0, none⟩) 75 75, .int .i64 0], .agg F', .tuple #[Value.slice (some ⟨g, 0, none⟩) 75 75, .int .i64 0], Value.slice (some ⟨g, 0, none⟩) 75 75, .int .i64 0, .tuple #[Value.slice (some ⟨g', 0, none⟩) 75 75, .int .i64 0], .agg G', .tuple #[Value.slice (some ⟨g', 0, none⟩) 75 75, .int .i64 0], Value.slice (some ⟨g', 0, none⟩) 75 75, .int .i64 0, .bool true, .bool true, .int .i64 0, .bool true, .bool true, .bool true, .int .i64 0, .bool true, .bool true, .bool true, Value.slice (some ⟨g, 0, none⟩) 75 75, .string (str E), Value.slice (some ⟨g', 0, none⟩) 75 75, (.string (str E')), (.bool (decide (E = E'))), .agg F', .agg G', .bool b2, (.bool (decide (E = E') == b2)), (.bool (decide (E = E') == b2))], defers := [] } ∧ Below w.heap.size w W) ?_ ?_
  · refine wp_region_quiet (C := fun W => Two w w.heap.size F' G' W ∧ Buf W g 75 E ∧ Buf W g' 75 E') (by kernel_rfl) (by kernel_rfl) ⟨C4.1.drew, C4.2.1.of_block rfl, C4.2.2.of_block rfl⟩ ?_
    refine wpQuiet_want (by kernel_rfl) (fun K hK => ?_)
    refine q_is (.bool true) (fun w _ => by kernel_rfl) (hK _ ?_); clear hK K; refine q_at (a' := { tmps := #[.agg F, .agg G, .pointer (some ⟨w.heap.size, 0, none⟩), .pointer (some ⟨w.heap.size + 1, 0, none⟩), .bool false, .bool true, Value.slice (some ⟨g, 0, none⟩) 75 75, .int .i64 0, Value.slice (some ⟨g', 0, none⟩) 75 75, .int .i64 0, .bool true, .agg F, .agg F', .agg G, .agg G', .tuple #[Value.slice (some ⟨g, 0, none⟩) 75 75, .int .i64 0], .agg F', .tuple #[Value.slice (some ⟨g, 0, none⟩) 75 75, .int .i64 0], Value.slice (some ⟨g, 0, none⟩) 75 75, .int .i64 0, .tuple #[Value.slice (some ⟨g', 0, none⟩) 75 75, .int .i64 0], .agg G', .tuple #[Value.slice (some ⟨g', 0, none⟩) 75 75, .int .i64 0], Value.slice (some ⟨g', 0, none⟩) 75 75, .int .i64 0, .bool true, undef, undef, undef, undef, undef, undef, undef, undef, undef, undef, undef, undef, undef, undef, undef, undef, undef, undef, undef], defers := [] }) (by kernel_rfl) ?_
    refine wpQuiet_want (by kernel_rfl) (fun K hK => ?_)
    refine q_is (.bool true) (fun w _ => by kernel_rfl) (hK _ ?_); clear hK K; refine q_at (a' := { tmps := #[.agg F, .agg G, .pointer (some ⟨w.heap.size, 0, none⟩), .pointer (some ⟨w.heap.size + 1, 0, none⟩), .bool false, .bool true, Value.slice (some ⟨g, 0, none⟩) 75 75, .int .i64 0, Value.slice (some ⟨g', 0, none⟩) 75 75, .int .i64 0, .bool true, .agg F, .agg F', .agg G, .agg G', .tuple #[Value.slice (some ⟨g, 0, none⟩) 75 75, .int .i64 0], .agg F', .tuple #[Value.slice (some ⟨g, 0, none⟩) 75 75, .int .i64 0], Value.slice (some ⟨g, 0, none⟩) 75 75, .int .i64 0, .tuple #[Value.slice (some ⟨g', 0, none⟩) 75 75, .int .i64 0], .agg G', .tuple #[Value.slice (some ⟨g', 0, none⟩) 75 75, .int .i64 0], Value.slice (some ⟨g', 0, none⟩) 75 75, .int .i64 0, .bool true, .bool true, undef, undef, undef, undef, undef, undef, undef, undef, undef, undef, undef, undef, undef, undef, undef, undef, undef, undef], defers := [] }) (by kernel_rfl) ?_
    refine wpQuiet_want (by kernel_rfl) (fun K hK => ?_)
    refine q_is (.int .i64 0) (fun w _ => by kernel_rfl) (hK _ ?_); clear hK K; refine q_at (a' := { tmps := #[.agg F, .agg G, .pointer (some ⟨w.heap.size, 0, none⟩), .pointer (some ⟨w.heap.size + 1, 0, none⟩), .bool false, .bool true, Value.slice (some ⟨g, 0, none⟩) 75 75, .int .i64 0, Value.slice (some ⟨g', 0, none⟩) 75 75, .int .i64 0, .bool true, .agg F, .agg F', .agg G, .agg G', .tuple #[Value.slice (some ⟨g, 0, none⟩) 75 75, .int .i64 0], .agg F', .tuple #[Value.slice (some ⟨g, 0, none⟩) 75 75, .int .i64 0], Value.slice (some ⟨g, 0, none⟩) 75 75, .int .i64 0, .tuple #[Value.slice (some ⟨g', 0, none⟩) 75 75, .int .i64 0], .agg G', .tuple #[Value.slice (some ⟨g', 0, none⟩) 75 75, .int .i64 0], Value.slice (some ⟨g', 0, none⟩) 75 75, .int .i64 0, .bool true, .bool true, .int .i64 0, undef, undef, undef, undef, undef, undef, undef, undef, undef, undef, undef, undef, undef, undef, undef, undef, undef], defers := [] }) (by kernel_rfl) ?_
    refine wpQuiet_want (by kernel_rfl) (fun K hK => ?_)
    refine q_is (.bool true) (fun w _ => by kernel_rfl) (hK _ ?_); clear hK K; refine q_at (a' := { tmps := #[.agg F, .agg G, .pointer (some ⟨w.heap.size, 0, none⟩), .pointer (some ⟨w.heap.size + 1, 0, none⟩), .bool false, .bool true, Value.slice (some ⟨g, 0, none⟩) 75 75, .int .i64 0, Value.slice (some ⟨g', 0, none⟩) 75 75, .int .i64 0, .bool true, .agg F, .agg F', .agg G, .agg G', .tuple #[Value.slice (some ⟨g, 0, none⟩) 75 75, .int .i64 0], .agg F', .tuple #[Value.slice (some ⟨g, 0, none⟩) 75 75, .int .i64 0], Value.slice (some ⟨g, 0, none⟩) 75 75, .int .i64 0, .tuple #[Value.slice (some ⟨g', 0, none⟩) 75 75, .int .i64 0], .agg G', .tuple #[Value.slice (some ⟨g', 0, none⟩) 75 75, .int .i64 0], Value.slice (some ⟨g', 0, none⟩) 75 75, .int .i64 0, .bool true, .bool true, .int .i64 0, .bool true, undef, undef, undef, undef, undef, undef, undef, undef, undef, undef, undef, undef, undef, undef, undef, undef], defers := [] }) (by kernel_rfl) ?_
    refine wpQuiet_want (by kernel_rfl) (fun K hK => ?_)
    refine q_is (.bool true) (fun w _ => by kernel_rfl) (hK _ ?_); clear hK K; refine q_at (a' := { tmps := #[.agg F, .agg G, .pointer (some ⟨w.heap.size, 0, none⟩), .pointer (some ⟨w.heap.size + 1, 0, none⟩), .bool false, .bool true, Value.slice (some ⟨g, 0, none⟩) 75 75, .int .i64 0, Value.slice (some ⟨g', 0, none⟩) 75 75, .int .i64 0, .bool true, .agg F, .agg F', .agg G, .agg G', .tuple #[Value.slice (some ⟨g, 0, none⟩) 75 75, .int .i64 0], .agg F', .tuple #[Value.slice (some ⟨g, 0, none⟩) 75 75, .int .i64 0], Value.slice (some ⟨g, 0, none⟩) 75 75, .int .i64 0, .tuple #[Value.slice (some ⟨g', 0, none⟩) 75 75, .int .i64 0], .agg G', .tuple #[Value.slice (some ⟨g', 0, none⟩) 75 75, .int .i64 0], Value.slice (some ⟨g', 0, none⟩) 75 75, .int .i64 0, .bool true, .bool true, .int .i64 0, .bool true, .bool true, undef, undef, undef, undef, undef, undef, undef, undef, undef, undef, undef, undef, undef, undef, undef], defers := [] }) (by kernel_rfl) ?_
    refine wpQuiet_want (by kernel_rfl) (fun K hK => ?_)
    refine q_is (.bool true) (fun w _ => by kernel_rfl) (hK _ ?_); clear hK K; refine q_at (a' := { tmps := #[.agg F, .agg G, .pointer (some ⟨w.heap.size, 0, none⟩), .pointer (some ⟨w.heap.size + 1, 0, none⟩), .bool false, .bool true, Value.slice (some ⟨g, 0, none⟩) 75 75, .int .i64 0, Value.slice (some ⟨g', 0, none⟩) 75 75, .int .i64 0, .bool true, .agg F, .agg F', .agg G, .agg G', .tuple #[Value.slice (some ⟨g, 0, none⟩) 75 75, .int .i64 0], .agg F', .tuple #[Value.slice (some ⟨g, 0, none⟩) 75 75, .int .i64 0], Value.slice (some ⟨g, 0, none⟩) 75 75, .int .i64 0, .tuple #[Value.slice (some ⟨g', 0, none⟩) 75 75, .int .i64 0], .agg G', .tuple #[Value.slice (some ⟨g', 0, none⟩) 75 75, .int .i64 0], Value.slice (some ⟨g', 0, none⟩) 75 75, .int .i64 0, .bool true, .bool true, .int .i64 0, .bool true, .bool true, .bool true, undef, undef, undef, undef, undef, undef, undef, undef, undef, undef, undef, undef, undef, undef], defers := [] }) (by kernel_rfl) ?_
    refine wpQuiet_want (by kernel_rfl) (fun K hK => ?_)
    refine q_is (.int .i64 0) (fun w _ => by kernel_rfl) (hK _ ?_); clear hK K; refine q_at (a' := { tmps := #[.agg F, .agg G, .pointer (some ⟨w.heap.size, 0, none⟩), .pointer (some ⟨w.heap.size + 1, 0, none⟩), .bool false, .bool true, Value.slice (some ⟨g, 0, none⟩) 75 75, .int .i64 0, Value.slice (some ⟨g', 0, none⟩) 75 75, .int .i64 0, .bool true, .agg F, .agg F', .agg G, .agg G', .tuple #[Value.slice (some ⟨g, 0, none⟩) 75 75, .int .i64 0], .agg F', .tuple #[Value.slice (some ⟨g, 0, none⟩) 75 75, .int .i64 0], Value.slice (some ⟨g, 0, none⟩) 75 75, .int .i64 0, .tuple #[Value.slice (some ⟨g', 0, none⟩) 75 75, .int .i64 0], .agg G', .tuple #[Value.slice (some ⟨g', 0, none⟩) 75 75, .int .i64 0], Value.slice (some ⟨g', 0, none⟩) 75 75, .int .i64 0, .bool true, .bool true, .int .i64 0, .bool true, .bool true, .bool true, .int .i64 0, undef, undef, undef, undef, undef, undef, undef, undef, undef, undef, undef, undef, undef], defers := [] }) (by kernel_rfl) ?_
    refine wpQuiet_want (by kernel_rfl) (fun K hK => ?_)
    refine q_is (.bool true) (fun w _ => by kernel_rfl) (hK _ ?_); clear hK K; refine q_at (a' := { tmps := #[.agg F, .agg G, .pointer (some ⟨w.heap.size, 0, none⟩), .pointer (some ⟨w.heap.size + 1, 0, none⟩), .bool false, .bool true, Value.slice (some ⟨g, 0, none⟩) 75 75, .int .i64 0, Value.slice (some ⟨g', 0, none⟩) 75 75, .int .i64 0, .bool true, .agg F, .agg F', .agg G, .agg G', .tuple #[Value.slice (some ⟨g, 0, none⟩) 75 75, .int .i64 0], .agg F', .tuple #[Value.slice (some ⟨g, 0, none⟩) 75 75, .int .i64 0], Value.slice (some ⟨g, 0, none⟩) 75 75, .int .i64 0, .tuple #[Value.slice (some ⟨g', 0, none⟩) 75 75, .int .i64 0], .agg G', .tuple #[Value.slice (some ⟨g', 0, none⟩) 75 75, .int .i64 0], Value.slice (some ⟨g', 0, none⟩) 75 75, .int .i64 0, .bool true, .bool true, .int .i64 0, .bool true, .bool true, .bool true, .int .i64 0, .bool true, undef, undef, undef, undef, undef, undef, undef, undef, undef, undef, undef, undef], defers := [] }) (by kernel_rfl) ?_
    refine wpQuiet_want (by kernel_rfl) (fun K hK => ?_)
    refine q_is (.bool true) (fun w _ => by kernel_rfl) (hK _ ?_); clear hK K; refine q_at (a' := { tmps := #[.agg F, .agg G, .pointer (some ⟨w.heap.size, 0, none⟩), .pointer (some ⟨w.heap.size + 1, 0, none⟩), .bool false, .bool true, Value.slice (some ⟨g, 0, none⟩) 75 75, .int .i64 0, Value.slice (some ⟨g', 0, none⟩) 75 75, .int .i64 0, .bool true, .agg F, .agg F', .agg G, .agg G', .tuple #[Value.slice (some ⟨g, 0, none⟩) 75 75, .int .i64 0], .agg F', .tuple #[Value.slice (some ⟨g, 0, none⟩) 75 75, .int .i64 0], Value.slice (some ⟨g, 0, none⟩) 75 75, .int .i64 0, .tuple #[Value.slice (some ⟨g', 0, none⟩) 75 75, .int .i64 0], .agg G', .tuple #[Value.slice (some ⟨g', 0, none⟩) 75 75, .int .i64 0], Value.slice (some ⟨g', 0, none⟩) 75 75, .int .i64 0, .bool true, .bool true, .int .i64 0, .bool true, .bool true, .bool true, .int .i64 0, .bool true, .bool true, undef, undef, undef, undef, undef, undef, undef, undef, undef, undef, undef], defers := [] }) (by kernel_rfl) ?_
    refine wpQuiet_want (by kernel_rfl) (fun K hK => ?_)
    refine q_is (.bool true) (fun w _ => by kernel_rfl) (hK _ ?_); clear hK K; refine q_at (a' := { tmps := #[.agg F, .agg G, .pointer (some ⟨w.heap.size, 0, none⟩), .pointer (some ⟨w.heap.size + 1, 0, none⟩), .bool false, .bool true, Value.slice (some ⟨g, 0, none⟩) 75 75, .int .i64 0, Value.slice (some ⟨g', 0, none⟩) 75 75, .int .i64 0, .bool true, .agg F, .agg F', .agg G, .agg G', .tuple #[Value.slice (some ⟨g, 0, none⟩) 75 75, .int .i64 0], .agg F', .tuple #[Value.slice (some ⟨g, 0, none⟩) 75 75, .int .i64 0], Value.slice (some ⟨g, 0, none⟩) 75 75, .int .i64 0, .tuple #[Value.slice (some ⟨g', 0, none⟩) 75 75, .int .i64 0], .agg G', .tuple #[Value.slice (some ⟨g', 0, none⟩) 75 75, .int .i64 0], Value.slice (some ⟨g', 0, none⟩) 75 75, .int .i64 0, .bool true, .bool true, .int .i64 0, .bool true, .bool true, .bool true, .int .i64 0, .bool true, .bool true, .bool true, undef, undef, undef, undef, undef, undef, undef, undef, undef, undef], defers := [] }) (by kernel_rfl) ?_
    refine wpQuiet_want (by kernel_rfl) (fun K hK => ?_)
    refine q_is (Value.slice (some ⟨g, 0, none⟩) 75 75) (fun w _ => by kernel_rfl) (hK _ ?_); clear hK K; refine q_at (a' := { tmps := #[.agg F, .agg G, .pointer (some ⟨w.heap.size, 0, none⟩), .pointer (some ⟨w.heap.size + 1, 0, none⟩), .bool false, .bool true, Value.slice (some ⟨g, 0, none⟩) 75 75, .int .i64 0, Value.slice (some ⟨g', 0, none⟩) 75 75, .int .i64 0, .bool true, .agg F, .agg F', .agg G, .agg G', .tuple #[Value.slice (some ⟨g, 0, none⟩) 75 75, .int .i64 0], .agg F', .tuple #[Value.slice (some ⟨g, 0, none⟩) 75 75, .int .i64 0], Value.slice (some ⟨g, 0, none⟩) 75 75, .int .i64 0, .tuple #[Value.slice (some ⟨g', 0, none⟩) 75 75, .int .i64 0], .agg G', .tuple #[Value.slice (some ⟨g', 0, none⟩) 75 75, .int .i64 0], Value.slice (some ⟨g', 0, none⟩) 75 75, .int .i64 0, .bool true, .bool true, .int .i64 0, .bool true, .bool true, .bool true, .int .i64 0, .bool true, .bool true, .bool true, Value.slice (some ⟨g, 0, none⟩) 75 75, undef, undef, undef, undef, undef, undef, undef, undef, undef], defers := [] }) (by kernel_rfl) ?_
    refine wpQuiet_want (by kernel_rfl) (fun K hK => ?_)
    refine q_convert 28 9 (.tmp 35) rfl _ (.string (str E)) rfl (fun W hC => HST.out W g hC.2.1) (hK _ ?_); clear hK K; refine q_at (a' := { tmps := #[.agg F, .agg G, .pointer (some ⟨w.heap.size, 0, none⟩), .pointer (some ⟨w.heap.size + 1, 0, none⟩), .bool false, .bool true, Value.slice (some ⟨g, 0, none⟩) 75 75, .int .i64 0, Value.slice (some ⟨g', 0, none⟩) 75 75, .int .i64 0, .bool true, .agg F, .agg F', .agg G, .agg G', .tuple #[Value.slice (some ⟨g, 0, none⟩) 75 75, .int .i64 0], .agg F', .tuple #[Value.slice (some ⟨g, 0, none⟩) 75 75, .int .i64 0], Value.slice (some ⟨g, 0, none⟩) 75 75, .int .i64 0, .tuple #[Value.slice (some ⟨g', 0, none⟩) 75 75, .int .i64 0], .agg G', .tuple #[Value.slice (some ⟨g', 0, none⟩) 75 75, .int .i64 0], Value.slice (some ⟨g', 0, none⟩) 75 75, .int .i64 0, .bool true, .bool true, .int .i64 0, .bool true, .bool true, .bool true, .int .i64 0, .bool true, .bool true, .bool true, Value.slice (some ⟨g, 0, none⟩) 75 75, .string (str E), undef, undef, undef, undef, undef, undef, undef, undef], defers := [] }) (by kernel_rfl) ?_
    refine wpQuiet_want (by kernel_rfl) (fun K hK => ?_)
    refine q_is (Value.slice (some ⟨g', 0, none⟩) 75 75) (fun w _ => by kernel_rfl) (hK _ ?_); clear hK K; refine q_at (a' := { tmps := #[.agg F, .agg G, .pointer (some ⟨w.heap.size, 0, none⟩), .pointer (some ⟨w.heap.size + 1, 0, none⟩), .bool false, .bool true, Value.slice (some ⟨g, 0, none⟩) 75 75, .int .i64 0, Value.slice (some ⟨g', 0, none⟩) 75 75, .int .i64 0, .bool true, .agg F, .agg F', .agg G, .agg G', .tuple #[Value.slice (some ⟨g, 0, none⟩) 75 75, .int .i64 0], .agg F', .tuple #[Value.slice (some ⟨g, 0, none⟩) 75 75, .int .i64 0], Value.slice (some ⟨g, 0, none⟩) 75 75, .int .i64 0, .tuple #[Value.slice (some ⟨g', 0, none⟩) 75 75, .int .i64 0], .agg G', .tuple #[Value.slice (some ⟨g', 0, none⟩) 75 75, .int .i64 0], Value.slice (some ⟨g', 0, none⟩) 75 75, .int .i64 0, .bool true, .bool true, .int .i64 0, .bool true, .bool true, .bool true, .int .i64 0, .bool true, .bool true, .bool true, Value.slice (some ⟨g, 0, none⟩) 75 75, .string (str E), Value.slice (some ⟨g', 0, none⟩) 75 75, undef, undef, undef, undef, undef, undef, undef], defers := [] }) (by kernel_rfl) ?_
    refine wpQuiet_want (by kernel_rfl) (fun K hK => ?_)
    refine q_convert 28 9 (.tmp 37) rfl _ (.string (str E')) rfl (fun W hC => HST'.out W g' hC.2.2) (hK _ ?_); clear hK K; refine q_at (a' := { tmps := #[.agg F, .agg G, .pointer (some ⟨w.heap.size, 0, none⟩), .pointer (some ⟨w.heap.size + 1, 0, none⟩), .bool false, .bool true, Value.slice (some ⟨g, 0, none⟩) 75 75, .int .i64 0, Value.slice (some ⟨g', 0, none⟩) 75 75, .int .i64 0, .bool true, .agg F, .agg F', .agg G, .agg G', .tuple #[Value.slice (some ⟨g, 0, none⟩) 75 75, .int .i64 0], .agg F', .tuple #[Value.slice (some ⟨g, 0, none⟩) 75 75, .int .i64 0], Value.slice (some ⟨g, 0, none⟩) 75 75, .int .i64 0, .tuple #[Value.slice (some ⟨g', 0, none⟩) 75 75, .int .i64 0], .agg G', .tuple #[Value.slice (some ⟨g', 0, none⟩) 75 75, .int .i64 0], Value.slice (some ⟨g', 0, none⟩) 75 75, .int .i64 0, .bool true, .bool true, .int .i64 0, .bool true, .bool true, .bool true, .int .i64 0, .bool true, .bool true, .bool true, Value.slice (some ⟨g, 0, none⟩) 75 75, .string (str E), Value.slice (some ⟨g', 0, none⟩) 75 75, (.string (str E')), undef, undef, undef, undef, undef, undef], defers := [] }) (by kernel_rfl) ?_
    refine wpQuiet_want (by kernel_rfl) (fun K hK => ?_)
    refine q_eq_str _ _ (.tmp 36) (.tmp 38) rfl (str E) (str E') rfl rfl _ hse (hK _ ?_); clear hK K; refine q_at (a' := { tmps := #[.agg F, .agg G, .pointer (some ⟨w.heap.size, 0, none⟩), .pointer (some ⟨w.heap.size + 1, 0, none⟩), .bool false, .bool true, Value.slice (some ⟨g, 0, none⟩) 75 75, .int .i64 0, Value.slice (some ⟨g', 0, none⟩) 75 75, .int .i64 0, .bool true, .agg F, .agg F', .agg G, .agg G', .tuple #[Value.slice (some ⟨g, 0, none⟩) 75 75, .int .i64 0], .agg F', .tuple #[Value.slice (some ⟨g, 0, none⟩) 75 75, .int .i64 0], Value.slice (some ⟨g, 0, none⟩) 75 75, .int .i64 0, .tuple #[Value.slice (some ⟨g', 0, none⟩) 75 75, .int .i64 0], .agg G', .tuple #[Value.slice (some ⟨g', 0, none⟩) 75 75, .int .i64 0], Value.slice (some ⟨g', 0, none⟩) 75 75, .int .i64 0, .bool true, .bool true, .int .i64 0, .bool true, .bool true, .bool true, .int .i64 0, .bool true, .bool true, .bool true, Value.slice (some ⟨g, 0, none⟩) 75 75, .string (str E), Value.slice (some ⟨g', 0, none⟩) 75 75, (.string (str E')), (.bool (decide (E = E'))), undef, undef, undef, undef, undef], defers := [] }) (by kernel_rfl) ?_
    refine wpQuiet_want (by kernel_rfl) (fun K hK => ?_)
    refine q_load (.tmp 2) rfl w.heap.size rfl F' SF'.out (fun W hC => hC.1.one) (hK _ ?_); clear hK K; refine q_at (a' := { tmps := #[.agg F, .agg G, .pointer (some ⟨w.heap.size, 0, none⟩), .pointer (some ⟨w.heap.size + 1, 0, none⟩), .bool false, .bool true, Value.slice (some ⟨g, 0, none⟩) 75 75, .int .i64 0, Value.slice (some ⟨g', 0, none⟩) 75 75, .int .i64 0, .bool true, .agg F, .agg F', .agg G, .agg G', .tuple #[Value.slice (some ⟨g, 0, none⟩) 75 75, .int .i64 0], .agg F', .tuple #[Value.slice (some ⟨g, 0, none⟩) 75 75, .int .i64 0], Value.slice (some ⟨g, 0, none⟩) 75 75, .int .i64 0, .tuple #[Value.slice (some ⟨g', 0, none⟩) 75 75, .int .i64 0], .agg G', .tuple #[Value.slice (some ⟨g', 0, none⟩) 75 75, .int .i64 0], Value.slice (some ⟨g', 0, none⟩) 75 75, .int .i64 0, .bool true, .bool true, .int .i64 0, .bool true, .bool true, .bool true, .int .i64 0, .bool true, .bool true, .bool true, Value.slice (some ⟨g, 0, none⟩) 75 75, .string (str E), Value.slice (some ⟨g', 0, none⟩) 75 75, (.string (str E')), (.bool (decide (E = E'))), .agg F', undef, undef, undef, undef], defers := [] }) (by kernel_rfl) ?_
    refine wpQuiet_want (by kernel_rfl) (fun K hK => ?_)
    refine q_load (.tmp 3) rfl (w.heap.size + 1) rfl G' SG'.out (fun W hC => hC.1.two) (hK _ ?_); clear hK K; refine q_at (a' := { tmps := #[.agg F, .agg G, .pointer (some ⟨w.heap.size, 0, none⟩), .pointer (some ⟨w.heap.size + 1, 0, none⟩), .bool false, .bool true, Value.slice (some ⟨g, 0, none⟩) 75 75, .int .i64 0, Value.slice (some ⟨g', 0, none⟩) 75 75, .int .i64 0, .bool true, .agg F, .agg F', .agg G, .agg G', .tuple #[Value.slice (some ⟨g, 0, none⟩) 75 75, .int .i64 0], .agg F', .tuple #[Value.slice (some ⟨g, 0, none⟩) 75 75, .int .i64 0], Value.slice (some ⟨g, 0, none⟩) 75 75, .int .i64 0, .tuple #[Value.slice (some ⟨g', 0, none⟩) 75 75, .int .i64 0], .agg G', .tuple #[Value.slice (some ⟨g', 0, none⟩) 75 75, .int .i64 0], Value.slice (some ⟨g', 0, none⟩) 75 75, .int .i64 0, .bool true, .bool true, .int .i64 0, .bool true, .bool true, .bool true, .int .i64 0, .bool true, .bool true, .bool true, Value.slice (some ⟨g, 0, none⟩) 75 75, .string (str E), Value.slice (some ⟨g', 0, none⟩) 75 75, (.string (str E')), (.bool (decide (E = E'))), .agg F', .agg G', undef, undef, undef], defers := [] }) (by kernel_rfl) ?_
    refine wpQuiet_want (by kernel_rfl) (fun K hK => ?_)
    refine q_eq_agg 27 _ (.tmp 40) (.tmp 41) rfl F' G' rfl rfl heg b2 EQ.out (hK _ ?_); clear hK K; refine q_at (a' := { tmps := #[.agg F, .agg G, .pointer (some ⟨w.heap.size, 0, none⟩), .pointer (some ⟨w.heap.size + 1, 0, none⟩), .bool false, .bool true, Value.slice (some ⟨g, 0, none⟩) 75 75, .int .i64 0, Value.slice (some ⟨g', 0, none⟩) 75 75, .int .i64 0, .bool true, .agg F, .agg F', .agg G, .agg G', .tuple #[Value.slice (some ⟨g, 0, none⟩) 75 75, .int .i64 0], .agg F', .tuple #[Value.slice (some ⟨g, 0, none⟩) 75 75, .int .i64 0], Value.slice (some ⟨g, 0, none⟩) 75 75, .int .i64 0, .tuple #[Value.slice (some ⟨g', 0, none⟩) 75 75, .int .i64 0], .agg G', .tuple #[Value.slice (some ⟨g', 0, none⟩) 75 75, .int .i64 0], Value.slice (some ⟨g', 0, none⟩) 75 75, .int .i64 0, .bool true, .bool true, .int .i64 0, .bool true, .bool true, .bool true, .int .i64 0, .bool true, .bool true, .bool true, Value.slice (some ⟨g, 0, none⟩) 75 75, .string (str E), Value.slice (some ⟨g', 0, none⟩) 75 75, (.string (str E')), (.bool (decide (E = E'))), .agg F', .agg G', .bool b2, undef, undef], defers := [] }) (by kernel_rfl) ?_
    refine wpQuiet_want (by kernel_rfl) (fun K hK => ?_)
    refine q_eq_bool 4 _ (.tmp 39) (.tmp 42) rfl (decide (E = E')) b2 rfl rfl Try.underlying4 (hK _ ?_); clear hK K; refine q_at (a' := { tmps := #[.agg F, .agg G, .pointer (some ⟨w.heap.size, 0, none⟩), .pointer (some ⟨w.heap.size + 1, 0, none⟩), .bool false, .bool true, Value.slice (some ⟨g, 0, none⟩) 75 75, .int .i64 0, Value.slice (some ⟨g', 0, none⟩) 75 75, .int .i64 0, .bool true, .agg F, .agg F', .agg G, .agg G', .tuple #[Value.slice (some ⟨g, 0, none⟩) 75 75, .int .i64 0], .agg F', .tuple #[Value.slice (some ⟨g, 0, none⟩) 75 75, .int .i64 0], Value.slice (some ⟨g, 0, none⟩) 75 75, .int .i64 0, .tuple #[Value.slice (some ⟨g', 0, none⟩) 75 75, .int .i64 0], .agg G', .tuple #[Value.slice (some ⟨g', 0, none⟩) 75 75, .int .i64 0], Value.slice (some ⟨g', 0, none⟩) 75 75, .int .i64 0, .bool true, .bool true, .int .i64 0, .bool true, .bool true, .bool true, .int .i64 0, .bool true, .bool true, .bool true, Value.slice (some ⟨g, 0, none⟩) 75 75, .string (str E), Value.slice (some ⟨g', 0, none⟩) 75 75, (.string (str E')), (.bool (decide (E = E'))), .agg F', .agg G', .bool b2, (.bool (decide (E = E') == b2)), undef], defers := [] }) (by kernel_rfl) ?_
    refine wpQuiet_want (by kernel_rfl) (fun K hK => ?_)
    refine q_is (.bool (decide (E = E') == b2)) (fun w _ => by kernel_rfl) (hK _ ?_); clear hK K; refine q_at (a' := { tmps := #[.agg F, .agg G, .pointer (some ⟨w.heap.size, 0, none⟩), .pointer (some ⟨w.heap.size + 1, 0, none⟩), .bool false, .bool true, Value.slice (some ⟨g, 0, none⟩) 75 75, .int .i64 0, Value.slice (some ⟨g', 0, none⟩) 75 75, .int .i64 0, .bool true, .agg F, .agg F', .agg G, .agg G', .tuple #[Value.slice (some ⟨g, 0, none⟩) 75 75, .int .i64 0], .agg F', .tuple #[Value.slice (some ⟨g, 0, none⟩) 75 75, .int .i64 0], Value.slice (some ⟨g, 0, none⟩) 75 75, .int .i64 0, .tuple #[Value.slice (some ⟨g', 0, none⟩) 75 75, .int .i64 0], .agg G', .tuple #[Value.slice (some ⟨g', 0, none⟩) 75 75, .int .i64 0], Value.slice (some ⟨g', 0, none⟩) 75 75, .int .i64 0, .bool true, .bool true, .int .i64 0, .bool true, .bool true, .bool true, .int .i64 0, .bool true, .bool true, .bool true, Value.slice (some ⟨g, 0, none⟩) 75 75, .string (str E), Value.slice (some ⟨g', 0, none⟩) 75 75, (.string (str E')), (.bool (decide (E = E'))), .agg F', .agg G', .bool b2, (.bool (decide (E = E') == b2)), (.bool (decide (E = E') == b2))], defers := [] }) (by kernel_rfl) ?_
    refine wpQuiet_want (by kernel_rfl) (fun K hK => ?_)
    refine q_is (.bool (decide (E = E') == b2)) (fun w _ => by kernel_rfl) (hK _ ?_); clear hK K; refine q_at (a' := { tmps := #[.agg F, .agg G, .pointer (some ⟨w.heap.size, 0, none⟩), .pointer (some ⟨w.heap.size + 1, 0, none⟩), (.bool (decide (E = E') == b2)), .bool true, Value.slice (some ⟨g, 0, none⟩) 75 75, .int .i64 0, Value.slice (some ⟨g', 0, none⟩) 75 75, .int .i64 0, .bool true, .agg F, .agg F', .agg G, .agg G', .tuple #[Value.slice (some ⟨g, 0, none⟩) 75 75, .int .i64 0], .agg F', .tuple #[Value.slice (some ⟨g, 0, none⟩) 75 75, .int .i64 0], Value.slice (some ⟨g, 0, none⟩) 75 75, .int .i64 0, .tuple #[Value.slice (some ⟨g', 0, none⟩) 75 75, .int .i64 0], .agg G', .tuple #[Value.slice (some ⟨g', 0, none⟩) 75 75, .int .i64 0], Value.slice (some ⟨g', 0, none⟩) 75 75, .int .i64 0, .bool true, .bool true, .int .i64 0, .bool true, .bool true, .bool true, .int .i64 0, .bool true, .bool true, .bool true, Value.slice (some ⟨g, 0, none⟩) 75 75, .string (str E), Value.slice (some ⟨g', 0, none⟩) 75 75, (.string (str E')), (.bool (decide (E = E'))), .agg F', .agg G', .bool b2, (.bool (decide (E = E') == b2)), (.bool (decide (E = E') == b2))], defers := [] }) (by kernel_rfl) ?_
    refine wpQuiet_nil ?_
    intro W hC
    exact ⟨rfl, by kernel_rfl, hC.1.bel⟩
  rintro a W ⟨rfl, hb⟩
  go_wp2_with fail
  go_ret
  exact ⟨by rw [hsame]; rfl, hb⟩
end Go.Proofs.Ytecmpkbpngnpbaa
