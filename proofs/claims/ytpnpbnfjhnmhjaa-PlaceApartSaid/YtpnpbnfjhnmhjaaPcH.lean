/-
  The iterator over what is free: what it counts on, and what a range over it may count on.
-/
import Derived.Test.YtpnpbnfjhnmhjaaPcG
namespace Go.Proofs.Ytpnpbnfjhnmhjaa
open Go.RowKit Go.Shelf
attribute [local go_sem] Oper.semAt_some
set_option linter.unusedVariables false
set_option linter.unusedSimpArgs false
set_option maxRecDepth 100000

theorem free_mk (A : Option Addr) (n c : Nat) (L : Int) (w : World) :
    Calls Try.prog 24 #[.slice A n c, .int .i64 L] w fun e w' => e = .returned (.func (.func 31) #[] #[.pointer (some ⟨w.heap.size, 0, none⟩), .pointer (some ⟨w.heap.size + 1, 0, none⟩)]) ∧
      w' = (w.alloc (.cells #[.slice A n c] 22)).alloc (.cells #[.int .i64 L] 3) := by
  go_enter Try.func24, Try.ntmps24
  go_wp2
  go_ret
  exact ⟨rfl, rfl⟩

/-- where the list lies that a cell holds -/
def lbQ (gl ol : Nat) (W : World) : Option Nat := match W.cell? ⟨gl, ol, none⟩ with
  | some (.slice (some a) _ _) => some a.block
  | _ => none
/-- what a round keeps: all but m boxes from b0 on, and the list -/
structure Kq (b0 m gl ol : Nat) (W W' : World) : Prop where
  sz : W.heap.size ≤ W'.heap.size
  lb : ∀ a, lbQ gl ol W' = some a → lbQ gl ol W = some a ∨ (W.heap.size ≤ a ∧ a < W'.heap.size)
  kp : ∀ k cs t fr, W.heap[k]? = some (.cells cs t fr) → ¬ (b0 ≤ k ∧ k < b0 + m) → lbQ gl ol W ≠ some k → W'.heap[k]? = some (.cells cs t fr)
theorem Kq.trans {b0 m gl ol : Nat} {A B C : World} (h1 : Kq b0 m gl ol A B) (h2 : Kq b0 m gl ol B C) : Kq b0 m gl ol A C := by
  have s1 := h1.sz
  have s2 := h2.sz
  refine ⟨Nat.le_trans s1 s2, fun a h => ?_, fun k cs t fr hk hb hl => ?_⟩
  · rcases h2.lb a h with h3 | h3
    · rcases h1.lb a h3 with h4 | h4
      · exact .inl h4
      · exact .inr ⟨h4.1, by omega⟩
    · exact .inr ⟨by omega, h3.2⟩
  · refine h2.kp k cs t fr (h1.kp k cs t fr hk hb hl) hb fun h => ?_
    rcases h1.lb k h with h3 | h3
    · exact hl h3
    · have := (Array.getElem?_eq_some_iff.1 hk).1; omega
theorem Kq.put {b0 m gl ol : Nat} {W : World} {l : Nat} {o o' : Obj} (hl : gl < l) (h : W.heap[l]? = some o) (hc : o.isCells = false) : Kq b0 m gl ol W (W.putObj l o') := by
  have hcell : (W.putObj l o').cell? ⟨gl, ol, none⟩ = W.cell? ⟨gl, ol, none⟩ := by
    unfold World.cell?; dsimp only; rw [World.putObj_heap_other (show gl ≠ l by omega)]
  refine ⟨by simp, fun a ha => .inl ?_, fun k cs t fr hk _ _ => ?_⟩
  · unfold lbQ at ha ⊢; rw [hcell] at ha; exact ha
  · rw [World.putObj_heap_other (fun e => by subst e; rw [h] at hk; cases hk; cases hc)]; exact hk
theorem lbQ_same {gl ol : Nat} {W W' : World} (h : W'.heap[gl]? = W.heap[gl]?) : lbQ gl ol W' = lbQ gl ol W := by
  unfold lbQ World.cell?; dsimp only; rw [h]
theorem Kq.new {b0 m gl ol : Nat} {W W' : World} (h : Below W.heap.size W W') (hb : gl < W.heap.size) : Kq b0 m gl ol W W' := by
  refine ⟨h.size, fun a ha => .inl ?_, fun k cs t fr hk _ _ => (h.block k (Array.getElem?_eq_some_iff.1 hk).1).trans hk⟩
  rw [lbQ_same (h.block _ hb)] at ha; exact ha
/-- what a round keeps, said of less: of a span in a block its first number may be turned -/
structure Kz (b0 m gl ol : Nat) (W W' : World) : Prop where
  sz : W.heap.size ≤ W'.heap.size
  lb : ∀ a, lbQ gl ol W' = some a → lbQ gl ol W = some a ∨ (W.heap.size ≤ a ∧ a < W'.heap.size)
  kp : ∀ k cs t fr, W.heap[k]? = some (.cells cs t fr) → ¬ (b0 ≤ k ∧ k < b0 + m) → lbQ gl ol W ≠ some k → ∃ cs', W'.heap[k]? = some (.cells cs' t fr) ∧ (t ≠ 37 → cs' = cs) ∧ ∀ j, 1 ≤ j → cs'[j]? = cs[j]?
theorem Kq.toZ {b0 m gl ol : Nat} {W W' : World} (h : Kq b0 m gl ol W W') : Kz b0 m gl ol W W' := ⟨h.sz, h.lb, fun k cs t fr h1 h2 h3 => ⟨cs, h.kp k cs t fr h1 h2 h3, fun _ => rfl, fun _ _ => rfl⟩⟩
theorem Kz.trans {b0 m gl ol : Nat} {A B C : World} (h1 : Kz b0 m gl ol A B) (h2 : Kz b0 m gl ol B C) : Kz b0 m gl ol A C := by
  have s1 := h1.sz
  have s2 := h2.sz
  refine ⟨Nat.le_trans s1 s2, fun a h => ?_, fun k cs t fr hk hb hl => ?_⟩
  · rcases h2.lb a h with h3 | h3
    · rcases h1.lb a h3 with h4 | h4
      · exact .inl h4
      · exact .inr ⟨h4.1, by omega⟩
    · exact .inr ⟨by omega, h3.2⟩
  · obtain ⟨c1, e1, f1, g1⟩ := h1.kp k cs t fr hk hb hl
    obtain ⟨c2, e2, f2, g2⟩ := h2.kp k c1 t fr e1 hb fun h => by
      rcases h1.lb k h with h3 | h3
      · exact hl h3
      · have := (Array.getElem?_eq_some_iff.1 hk).1; omega
    exact ⟨c2, e2, fun h => (f2 h).trans (f1 h), fun j hj => (g2 j hj).trans (g1 j hj)⟩
theorem Kz.put {b0 m gl ol : Nat} {W : World} {l : Nat} {o o' : Obj} (hl : gl < l) (h : W.heap[l]? = some o) (hc : o.isCells = false) : Kz b0 m gl ol W (W.putObj l o') := (Kq.put hl h hc).toZ
theorem Kq.refl (b0 m gl ol : Nat) (W : World) : Kq b0 m gl ol W W := ⟨Nat.le_refl _, fun a h => .inl h, fun _ _ _ _ h _ _ => h⟩
/-- a block that a round does not touch -/
def Ap (b0 m gl ol k : Nat) (W : World) : Prop := ¬ (b0 ≤ k ∧ k < b0 + m) ∧ lbQ gl ol W ≠ some k
def Lb (b0 m gl ol : Nat) (W : World) : Prop := b0 + m ≤ W.heap.size ∧ gl < W.heap.size ∧ ∀ a, lbQ gl ol W = some a → a < W.heap.size
section
variable {b0 m gl ol k : Nat} {W W' : World}
theorem Ap.new (h : Ap b0 m gl ol k W) (hL : Lb b0 m gl ol W) (hb : Below W.heap.size W W') : Ap b0 m gl ol k W' :=
  ⟨h.1, by rw [lbQ_same (hb.block _ hL.2.1)]; exact h.2⟩
theorem Ap.kept (h : Ap b0 m gl ol k W) (hk : k < W.heap.size) (hq : Kz b0 m gl ol W W') : Ap b0 m gl ol k W' :=
  ⟨h.1, fun e => by
    rcases hq.lb k e with h1 | h1
    · exact h.2 h1
    · omega⟩
theorem Lb.new (h : Lb b0 m gl ol W) (hb : Below W.heap.size W W') : Lb b0 m gl ol W' := by
  have := hb.size
  refine ⟨by have := h.1; omega, by have := h.2.1; omega, fun a ha => ?_⟩
  rw [lbQ_same (hb.block _ h.2.1)] at ha
  have := h.2.2 a ha; omega
theorem Lb.kept (h : Lb b0 m gl ol W) (hq : Kz b0 m gl ol W W') : Lb b0 m gl ol W' := by
  have := hq.sz
  refine ⟨by have := h.1; omega, by have := h.2.1; omega, fun a ha => ?_⟩
  rcases hq.lb a ha with h1 | h1
  · have := h.2.2 a h1; omega
  · exact h1.2
theorem Ap.fresh (h : Lb b0 m gl ol W) (hb : Below W.heap.size W W') (hk : W.heap.size ≤ k) : Ap b0 m gl ol k W' :=
  ⟨fun e => by have := h.1; omega, fun e => by
    rw [lbQ_same (hb.block _ h.2.1)] at e
    have := h.2.2 k e; omega⟩
end
theorem cells_of_cell {W : World} {g o : Nat} {v : Value} (h : W.cell? ⟨g, o, none⟩ = some v) : ∃ cs t fr, W.heap[g]? = some (.cells cs t fr) := by
  unfold World.cell? at h
  dsimp only at h
  split at h
  · rename_i hc; exact ⟨_, _, _, hc⟩
  · cases h
/-- a stretch, as it is told -/
abbrev PG := { x : Nat × Nat // x.1 ≤ x.2 ∧ x.2 ≤ 1048576 }
def pg (l : List PG) : List (Nat × Nat) := l.map (·.1)
theorem pg_snoc (l : List PG) (x : PG) : pg (l ++ [x]) = pg l ++ [x.1] := by simp [pg]
theorem pg_len (l : List PG) : (pg l).length = l.length := by simp [pg]
def pgEnc (x : PG) : Array Value := #[.agg #[.int .i64 (x.1.1 : Nat), .int .i64 (x.1.2 : Nat)]]

/-- how far it has come, behind k of them -/
def atK (S : List Ai) (L k : Nat) : List (Nat × Nat) := freeTo (tkn S) (min (atF (S.take k)).toNat L)
theorem atK_pre {S : List Ai} {L : Nat} (hs : S.Pairwise fun a b => a.1 ≤ b.1) (hk : ∀ s ∈ S, keepB L s = true) : ∀ d k, k + d = S.length → ∃ R, freeTo (tkn S) L = atK S L k ++ R
  | 0, k, h => by
    obtain rfl : k = S.length := by omega
    have := free_end hk
    unfold atK
    rw [List.take_length]
    split at this
    · exact ⟨_, this⟩
    · exact ⟨[], by rw [List.append_nil]; exact this⟩
  | d + 1, k, h => by
    obtain ⟨R, hR⟩ := atK_pre hs hk d (k + 1) (by omega)
    have := (free_step hs hk (k := k) (by omega)).2
    unfold atK at hR ⊢
    rw [this] at hR
    split at hR
    · exact ⟨_, by rw [hR, List.append_assoc]⟩
    · exact ⟨_, hR⟩
theorem atK_take {S : List Ai} {L k : Nat} (hs : S.Pairwise fun a b => a.1 ≤ b.1) (hk : ∀ s ∈ S, keepB L s = true) (h : k ≤ S.length) : ∃ j, j ≤ (freeTo (tkn S) L).length ∧ atK S L k = (freeTo (tkn S) L).take j := by
  obtain ⟨R, hR⟩ := atK_pre hs hk (S.length - k) k (by omega)
  exact ⟨(atK S L k).length, by rw [hR, List.length_append]; omega, by rw [hR, List.take_left']; rfl⟩
theorem abides_new {β : Type} {B : Nat} {J : β → World → Prop} (hJ : AbidesFrom B J) {x : β} {W W' : World} (h : J x W) (hb : Below W.heap.size W W') : J x W' :=
  hJ x W W' none h ⟨hb.os, hb.tape, hb.output, hb.size, fun k hk _ => hb.block k hk⟩ (fun r e => by cases e)

/-- what the iterator counts on while it goes on: those from the k'th on lie as they lay -/
structure It (b0 m gl ol bL L : Nat) (A : Option Addr) (S : List Ai) (k : Nat) (W : World) : Prop where
  lb : Lb b0 m gl ol W
  cl : W.heap[bL]? = some (.cells #[.int .i64 (L : Nat)] 3 (0, 0))
  al : Ap b0 m gl ol bL W
  sp : ∀ i, k ≤ i → i < S.length → ∃ b, A = some ⟨b, 0, none⟩ ∧ b < W.heap.size ∧ W.cell? ⟨b, i * 2, none⟩ = some (.int .i64 (S.getD i (0, 0)).1) ∧ W.cell? ⟨b, i * 2 + 1, none⟩ = some (.int .i64 (S.getD i (0, 0)).2)
  asp : ∀ a, A = some a → a.block < W.heap.size → Ap b0 m gl ol a.block W
theorem It.new {b0 m gl ol bL L : Nat} {A : Option Addr} {S : List Ai} {k : Nat} {W W' : World} (h : It b0 m gl ol bL L A S k W) (hA : ∀ a, A = some a → a.block < W.heap.size) (hb : Below W.heap.size W W') : It b0 m gl ol bL L A S k W' where
  lb := h.lb.new hb
  cl := (hb.block _ (Array.getElem?_eq_some_iff.1 h.cl).1).trans h.cl
  al := h.al.new h.lb hb
  sp := fun i h1 h2 => by
    obtain ⟨b, e, hlt, c0, c1⟩ := h.sp i h1 h2
    exact ⟨b, e, by have := hb.size; omega, (bcl hb hlt).trans c0, (bcl hb hlt).trans c1⟩
  asp := fun a e _ => (h.asp a e (hA a e)).new h.lb hb
theorem It.kept {b0 m gl ol bL L : Nat} {A : Option Addr} {S : List Ai} {k : Nat} {W W' : World} (h : It b0 m gl ol bL L A S k W) (hA : ∀ a, A = some a → a.block < W.heap.size) (hk : Kz b0 m gl ol W W') : It b0 m gl ol bL L A S (k + 1) W' where
  lb := h.lb.kept hk
  cl := by
    obtain ⟨cs', e, f, _⟩ := hk.kp _ _ _ _ h.cl h.al.1 h.al.2
    rw [f (by decide)] at e
    exact e
  al := h.al.kept (Array.getElem?_eq_some_iff.1 h.cl).1 hk
  sp := fun i h1 h2 => by
    obtain ⟨b, e, hlt, c0, c1⟩ := h.sp i (by omega) h2
    obtain ⟨cs, t, fr, hc⟩ := cells_of_cell c0
    have hap := h.asp _ e hlt
    obtain ⟨cs', e', f', g'⟩ := hk.kp _ _ _ _ hc hap.1 hap.2
    refine ⟨b, e, (Array.getElem?_eq_some_iff.1 e').1, ?_, ?_⟩
    · rw [← c0]
      unfold World.cell?
      dsimp only
      rw [e', hc]
      dsimp only
      rw [g' _ (by omega)]
    · rw [← c1]
      unfold World.cell?
      dsimp only
      rw [e', hc]
      dsimp only
      rw [g' _ (by omega)]
  asp := fun a e _ => (h.asp a e (hA a e)).kept (hA a e) hk
end Go.Proofs.Ytpnpbnfjhnmhjaa
