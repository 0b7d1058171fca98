/-
  A demand with fewer streams, and with less memory and fewer windows of a task: it has a plan where the first one has.
-/
import Derived.Test.YtdennekkbdlhdaaDoorMK
namespace Go.Proofs.YtdennekkbdlhdaaDoor
open Go.RowKit Go.Shelf
set_option linter.unusedVariables false
set_option linter.unusedSimpArgs false
set_option maxRecDepth 100000

def lessT (t : Tk) : Tk := ⟨t.node, t.mem / 2, t.share / 2⟩
def lessD (d : Dm) (n i : Nat) : Dm := { d with tasks := d.tasks.set i (lessT (d.tasks.getD i default)), streams := d.streams.take n }

theorem okd_may {d : Dm} {N : Nat} (h : Okd d N) : mayD d = true := by
  have a := h.hN
  have b := h.n4
  have e := h.n16
  have h1 : numB d = true := by
    unfold numB
    simp only [Bool.and_eq_true, inD_iff]
    exact ⟨⟨by omega, by omega⟩, h.dr, h.re, h.rj, h.qu⟩
  have h2 : tasksB d = true := by
    unfold tasksB
    simp only [Bool.and_eq_true, decide_eq_true_eq, List.all_eq_true]
    refine ⟨h.tl, fun t ht => ?_⟩
    unfold tkB
    simp only [Bool.and_eq_true, decide_eq_true_eq, inD_iff]
    obtain ⟨x, y, z⟩ := h.tk t ht
    exact ⟨x, y, z⟩
  have h3 : streamsB d = true := by
    unfold streamsB
    simp only [Bool.and_eq_true, decide_eq_true_eq, List.all_eq_true]
    refine ⟨h.sl, fun s hs => ?_, h.pn⟩
    obtain ⟨x, y, z, u⟩ := h.sm s hs
    unfold smB toB
    simp only [Bool.and_eq_true, decide_eq_true_eq, inD_iff, Bool.not_eq_true', List.isEmpty_eq_false_iff]
    exact ⟨x, y, z, u⟩
  unfold mayD
  rw [h1, h2, h3]; rfl
theorem portN_tk : ∀ (l : List Sm) (n : Nat), portN (l.take n) ≤ portN l
  | [], n => by simp [portN]
  | s :: l, 0 => by simp [portN]
  | s :: l, n + 1 => by
    have := portN_tk l n
    simp only [List.take_succ_cons, portN]; omega
theorem sumI_set {f : Tk → Int} : ∀ (l : List Tk) (i : Nat) (a : Tk), f a ≤ f (l.getD i default) → sumI f (l.set i a) ≤ sumI f l
  | [], i, a, h => by simp [sumI]
  | b :: l, 0, a, h => by
    simp only [List.set_cons_zero, sumI]
    have : f a ≤ f b := h
    omega
  | b :: l, i + 1, a, h => by
    have := sumI_set l i a (by simpa using h)
    simp only [List.set_cons_succ, sumI]; omega
theorem mem_set {l : List Tk} {i : Nat} {t a : Tk} (h : t ∈ l.set i a) : t ∈ l ∨ (i < l.length ∧ t = a) := by
  rcases Nat.lt_or_ge i l.length with hi | hi
  · rcases List.mem_or_eq_of_mem_set h with h | h
    · exact .inl h
    · exact .inr ⟨hi, h⟩
  · rw [List.set_eq_of_length_le hi] at h
    exact .inl h
theorem less_okd {d : Dm} {N : Nat} (h : Okd d N) (n i : Nat) : Okd (lessD d n i) N := by
  refine ⟨h.hN, h.n4, h.n16, h.dr, h.re, h.rj, h.qu, ?_, ?_, ?_, ?_, ?_⟩
  · show (d.tasks.set i _).length ≤ 32
    rw [List.length_set]; exact h.tl
  · intro t ht
    rcases mem_set ht with ht | ⟨hi, rfl⟩
    · exact h.tk t ht
    · obtain ⟨x, y, z⟩ := h.tk _ (getD_mem (l := d.tasks) (d := default) hi)
      refine ⟨x, ?_, ?_⟩
      · show 0 ≤ (d.tasks.getD i default).mem / 2 ∧ (d.tasks.getD i default).mem / 2 ≤ 256
        omega
      · show 0 ≤ (d.tasks.getD i default).share / 2 ∧ (d.tasks.getD i default).share / 2 ≤ d.nodes
        omega
  · show (d.streams.take n).length ≤ 64
    have := h.sl
    rw [List.length_take]; omega
  · intro s hs
    have := h.sm s (List.mem_of_mem_take hs)
    show (0 ≤ s.src ∧ s.src < ((d.tasks.set i _).length : Int)) ∧ (riseB (d.tasks.set i _).length (-1) s.dests = true ∧ s.dests ≠ []) ∧ _ ∧ _
    rw [List.length_set]
    exact this
  · exact Nat.le_trans (portN_tk _ _) h.pn
theorem nodeOf_set (ts : List Tk) (i : Nat) (s : Sm) : nodeOf (ts.set i (lessT (ts.getD i default))) s = nodeOf ts s := by
  unfold nodeOf
  rw [List.getD_eq_getElem?_getD, List.getElem?_set]
  by_cases h : i = s.src.toNat
  · rw [if_pos h]
    split
    · rw [← h]; rfl
    · rename_i hl
      rw [List.getD_eq_getElem?_getD, List.getElem?_eq_none (by omega)]
  · rw [if_neg h, ← List.getD_eq_getElem?_getD]
theorem less_err {d : Dm} (h : errF d = 0) (n i : Nat) : errF (lessD d n i) = 0 := by
  cases hm : mayD d with
  | false => unfold errF at h; rw [hm] at h; simp at h
  | true =>
    have hz := errF_zero hm
    rw [h] at hz
    have hz : (fitM d && (fitS d && fitL d)) = true := by rw [← hz]; rfl
    rw [Bool.and_eq_true, Bool.and_eq_true] at hz
    obtain ⟨h1, h2, h3⟩ := hz
    obtain ⟨N, ho⟩ := okd_of hm
    have ho' := less_okd ho n i
    have key : ∀ (f : Tk → Int), (∀ t, 0 ≤ t.mem → 0 ≤ t.share → f (lessT t) ≤ f t) → sumI f (lessD d n i).tasks ≤ sumI f d.tasks := fun f hf => by
      rcases Nat.lt_or_ge i d.tasks.length with hi | hi
      · obtain ⟨_, x, y⟩ := ho.tk _ (getD_mem (l := d.tasks) (d := default) hi)
        exact sumI_set _ _ _ (hf _ x.1 y.1)
      · show sumI f (d.tasks.set i _) ≤ _
        rw [List.set_eq_of_length_le hi]
        exact Int.le_refl _
    have g1 : fitM (lessD d n i) = true := by
      unfold fitM
      refine List.all_eq_true.2 fun z hz => decide_eq_true ?_
      have hz : z < N := by have := List.mem_range.1 hz; rw [ho'.toNat] at this; exact this
      refine Int.le_trans (key (memOf (z : Int)) fun t a b => ?_) (ho.mem h1 (z := (z : Int)) (by omega) (by have := ho.hN; omega))
      unfold memOf lessT
      dsimp only
      split <;> omega
    have g2 : fitS (lessD d n i) = true := by
      unfold fitS
      refine List.all_eq_true.2 fun z hz => decide_eq_true ?_
      have hz : z < N := by have := List.mem_range.1 hz; rw [ho'.toNat] at this; exact this
      refine Int.le_trans (key (shareOf (z : Int)) fun t a b => ?_) (ho.shr h2 (z := (z : Int)) (by omega) (by have := ho.hN; omega))
      unfold shareOf lessT
      dsimp only
      split <;> omega
    have g3 : fitL (lessD d n i) = true := by
      unfold fitL
      refine List.all_eq_true.2 fun z hz => decide_eq_true ?_
      have hz : z < N := by have := List.mem_range.1 hz; rw [ho'.toNat] at this; exact this
      have he : loadN (lessD d n i).tasks (z : Int) (lessD d n i).streams = sumI (loadOf d.tasks (z : Int)) (d.streams.take n) := by
        unfold loadN
        have : loadOf (lessD d n i).tasks (z : Int) = loadOf d.tasks (z : Int) := funext fun s => by
          unfold loadOf
          rw [show nodeOf (lessD d n i).tasks s = nodeOf d.tasks s from nodeOf_set _ _ _]
        rw [this]; rfl
      rw [he]
      exact Int.le_trans (sumI_take (ho.loadOf0 _) n) (ho.load h3 (z := (z : Int)) (by omega) (by have := ho.hN; omega))
    have := errF_zero (okd_may ho')
    rw [g1, g2, g3] at this
    exact of_decide_eq_true this

/-! ### tasks of one's own -/
theorem info_task : (Tryd.prog.info? 43).map (fun i => (i.zero, i.size, i.bytes)) = some (some (.agg #[.int .i64 0, .int .i64 0, .int .i64 0]), 3, 24) := by kernel_rfl
theorem under_tasks : Tryd.prog.underlying 22 = some (.slice 43) := Tryd.underlying22
def flatT (l : List Tk) : List Value := l.flatMap fun t => [.int .i64 t.node, .int .i64 t.mem, .int .i64 t.share]
theorem flatT_len : ∀ l : List Tk, (flatT l).length = l.length * 3
  | [] => rfl
  | a :: l => by
    have := flatT_len l
    unfold flatT at *
    simp only [List.flatMap_cons, List.length_append, List.length_cons, List.length_nil]
    omega
theorem flatT_get : ∀ (l : List Tk) (k : Nat), k < l.length → (flatT l)[k * 3]? = some (.int .i64 (l.getD k default).node) ∧ (flatT l)[k * 3 + 1]? = some (.int .i64 (l.getD k default).mem) ∧ (flatT l)[k * 3 + 2]? = some (.int .i64 (l.getD k default).share)
  | [], k, h => by simp at h
  | a :: l, 0, _ => ⟨rfl, rfl, rfl⟩
  | a :: l, k + 1, h => by
    obtain ⟨h1, h2, h3⟩ := flatT_get l k (by simpa using h)
    have e : (k + 1) * 3 = k * 3 + 1 + 1 + 1 := by omega
    unfold flatT at *
    rw [e]
    exact ⟨h1, h2, h3⟩
theorem flatT_one (l : List Tk) : ∀ u ∈ flatT l, u.oneCell' = true := by
  intro u hu
  unfold flatT at hu
  obtain ⟨a, _, h⟩ := List.mem_flatMap.1 hu
  simp at h
  rcases h with rfl | rfl | rfl <;> rfl
theorem flatT_at {w : World} {b off : Nat} {l : List Tk} (h : Tks w (some ⟨b, off, none⟩) l) : ∀ (j : Nat) (u : Value), (flatT l)[j]? = some u → w.cell? ⟨b, off + j, none⟩ = some u := by
  intro j u hj
  have hlt : j < l.length * 3 := by
    rw [← flatT_len]
    exact (List.getElem?_eq_some_iff.1 hj).1
  obtain ⟨b', off', e, _, c0, c1, c2⟩ := h.at (k := j / 3) (by omega)
  obtain ⟨rfl, rfl⟩ : b = b' ∧ off = off' := by cases e; exact ⟨rfl, rfl⟩
  obtain ⟨g0, g1, g2⟩ := flatT_get l (j / 3) (by omega)
  have hm : j % 3 = 0 ∨ j % 3 = 1 ∨ j % 3 = 2 := by omega
  rcases hm with hm | hm | hm
  · have ej : j / 3 * 3 = j := by omega
    rw [ej] at c0 g0
    rw [c0, ← g0, hj]
  · have ej : j / 3 * 3 + 1 = j := by omega
    rw [Nat.add_assoc, ej] at c1
    rw [ej] at g1
    rw [c1, ← g1, hj]
  · have ej : j / 3 * 3 + 2 = j := by omega
    rw [Nat.add_assoc, ej] at c2
    rw [ej] at g2
    rw [c2, ← g2, hj]
abbrev OwnT (W : World) (B : Nat) (h : Value) (l : List Tk) : Prop := W.ownsRow B 43 3 h l.length (flatT l)
/-- a block of one's own that holds tasks, or none where there are none -/
def TkB (W : World) (B : Nat) (A : Option Addr) (c : Nat) (l : List Tk) : Prop :=
  l.length ≤ c ∧ c ≤ maxLen ∧ (l = [] ∨ ∃ g, A = some ⟨g, 0, none⟩ ∧ B ≤ g ∧ g < W.heap.size ∧ (∀ o, W.frozen? ⟨g, o, none⟩ = false) ∧ ∀ k, k < l.length → W.cell? ⟨g, k * 3, none⟩ = some (.int .i64 (l.getD k default).node) ∧ W.cell? ⟨g, k * 3 + 1, none⟩ = some (.int .i64 (l.getD k default).mem) ∧ W.cell? ⟨g, k * 3 + 2, none⟩ = some (.int .i64 (l.getD k default).share))
theorem own_tasks {W : World} {B : Nat} {h : Value} {l : List Tk} (x : OwnT W B h l) : ∃ A c, h = .slice A l.length c ∧ TkB W B A c l := by
  rcases x.2 with ⟨rfl, h0⟩ | ⟨g, cap, cur, rfl, hg, hh, hc1, hc2, _, ht⟩
  · exact ⟨_, _, by rw [h0], by omega, by simp, .inl (List.length_eq_zero_iff.1 h0)⟩
  · refine ⟨_, cap, rfl, hc1, hc2, .inr ⟨g, rfl, hg, (Array.getElem?_eq_some_iff.1 hh).1, fun o => by simp [World.frozen?, hh], fun i hi => ?_⟩⟩
    obtain ⟨g0, g1, g2⟩ := flatT_get l i hi
    rw [← ht, List.getElem?_take] at g0 g1 g2
    refine ⟨?_, ?_, ?_⟩
    · rw [cell_of_row _ _ _ _ _ _ hh]
      split at g0
      · simpa using g0
      · cases g0
    · rw [cell_of_row _ _ _ _ _ _ hh]
      split at g1
      · simpa using g1
      · cases g1
    · rw [cell_of_row _ _ _ _ _ _ hh]
      split at g2
      · simpa using g2
      · cases g2
/-- append to nothing of one's own of whatever tasks a slice has -/
theorem wpList_tasks {ops : Array Oper} {rest : List Oper} {o : Oper} {a : Act} {Q : Exit → Act → World → Prop} (w : World) (hgd : o.guard = none) (s x : Operand)
    (ho : o.op = .call { callee := .builtin .append, args := #[s, x], argTypes := #[22, 22] }) (B : Nat) (v0 : Value) (hs : a.eval s = v0) (hO : w.ownsRow B 43 3 v0 0 []) (hB : B ≤ w.heap.size)
    (A : Option Addr) (l : List Tk) (c N : Nat) (hN : N = l.length) (hx : a.eval x = .slice A N c) (hI : Tks w A l) (hl : l.length ≤ 100000)
    (h : ∀ v w', OwnT w' B v l → w.grownBy w' v0.ownBlock → wpList Tryd.prog ops Q rest (a.put o.dst v) w') :
    wpList Tryd.prog ops Q (o :: rest) a w := by
  subst hN
  have hi := info_task
  rcases hi' : Tryd.prog.info? 43 with _ | i
  · rw [hi'] at hi; cases hi
  rw [hi'] at hi
  simp only [Option.map_some, Option.some.injEq, Prod.mk.injEq] at hi
  obtain ⟨hz, hs1, hb⟩ := hi
  rcases A with _ | ad
  · have h0 : l = [] := by
      rcases hI.2 with h | ⟨b, off, e, _⟩
      · exact List.length_eq_zero_iff.1 h
      · cases e
    subst h0
    refine wpList_plain hgd fun K hK => ?_
    have hrun : (Builtin.append_ #[22, 22] o.type #[v0, .slice none 0 c]).run Tryd.prog w = .ok v0 w := by
      rcases hO.2 with ⟨rfl, _⟩ | ⟨g, cap, cur, rfl, _⟩
      · simp [Builtin.append_, run_underlying under_tasks, sizeOf, typeInfo, hi', Builtin.lenOf, Builtin.firstCells, storeCells]
      · simp [Builtin.append_, run_underlying under_tasks, sizeOf, typeInfo, hi', Builtin.lenOf, Builtin.firstCells, storeCells]
    unfold Oper.wp execOp
    simp only [ho, resolve, invoke, builtin, Sem.run_bind, Sem.run_pure, Result.andThen_ok, List.map_toArray, List.map_cons, List.map_nil, hs, hx, List.length_nil, hrun]
    exact hK _ _ (h _ w hO ⟨rfl, rfl, rfl, Nat.le_refl _, fun _ _ _ => rfl⟩)
  · refine wpList_append_own_at w hgd s x _ ho B 43 i _ 3 24 under_tasks hi' hz hs1 hb rfl (by decide) _ 0 [] hs hO ad l.length c (flatT l) hx (flatT_len l) ?_ (flatT_one l) (by simp only [maxLen]; omega) (by omega) hB ?_
    · intro j u hu
      have hj : j < l.length * 3 := by rw [← flatT_len]; exact (List.getElem?_eq_some_iff.1 hu).1
      obtain ⟨b, off, e, _, _⟩ := hI.at (k := j / 3) (by omega)
      obtain rfl := Option.some.inj e
      rw [plain_add]
      exact flatT_at hI j u hu
    · intro v' w' hown hg _ _
      refine h v' w' ?_ hg
      rw [Nat.zero_add, List.nil_append] at hown
      exact hown
end Go.Proofs.YtdennekkbdlhdaaDoor
