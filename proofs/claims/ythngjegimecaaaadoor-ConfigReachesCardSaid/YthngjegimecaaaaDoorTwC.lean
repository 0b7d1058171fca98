/-
  Twin's memory, step by step.
-/
import Derived.Test.YthngjegimecaaaaDoorTwB
namespace Go.Proofs.YthngjegimecaaaaDoor
open Go.RowKit Go.Deep
set_option linter.unusedVariables false
set_option linter.unusedSimpArgs false

def zc : Array Value := #[.int .i64 0, .slice none 0 0, .int .i64 0, .int .i64 0, .int .i64 0, .int .i64 0, .int .i64 0, .int .i64 0, .slice none 0 0, .slice none 0 0, .slice none 0 0, .slice none 0 0]

/-- the function's own three blocks: what came in, the result, and what becomes it -/
structure TwX (w W : World) (c : Conf) (d : Ad) (out : List Value) : Prop where
  bel : Below w.heap.size w W
  x1 : Boxed W w.heap.size c d
  x2 : W.heap[w.heap.size + 1]? = some (.cells zc 28 (0, 0))
  x3 : W.heap[w.heap.size + 1 + 1]? = some (.cells out.toArray 28 (0, 0))
  sz : w.heap.size + 1 + 1 + 1 ≤ W.heap.size
  ol : out.length = 12

section
variable {w W : World} {c : Conf} {d : Ad} {out : List Value}
theorem TwX.first (h : ConfAt w c d) : TwX w (((w.alloc (.cells (c.cells d) 28)).alloc (.cells zc 28)).alloc (.cells (c.cells d) 28)) c d (c.cells d).toList := by
  have s1 : (w.alloc (.cells (c.cells d) 28)).heap.size = w.heap.size + 1 := Array.size_push _
  have s2 : ((w.alloc (.cells (c.cells d) 28)).alloc (.cells zc 28)).heap.size = w.heap.size + 1 + 1 := by rw [show ((w.alloc (.cells (c.cells d) 28)).alloc (.cells zc 28)).heap.size = (w.alloc (.cells (c.cells d) 28)).heap.size + 1 from Array.size_push _, s1]
  have s3 : (((w.alloc (.cells (c.cells d) 28)).alloc (.cells zc 28)).alloc (.cells (c.cells d) 28)).heap.size = w.heap.size + 1 + 1 + 1 := by rw [show (((w.alloc (.cells (c.cells d) 28)).alloc (.cells zc 28)).alloc (.cells (c.cells d) 28)).heap.size = ((w.alloc (.cells (c.cells d) 28)).alloc (.cells zc 28)).heap.size + 1 from Array.size_push _, s2]
  have b1 := (Below.refl w.heap.size w).alloc (Nat.le_refl _) (.cells (c.cells d) 28)
  have b2 := (Below.refl (w.heap.size + 1) (w.alloc (.cells (c.cells d) 28))).alloc (by omega) (.cells zc 28)
  have b3 := (Below.refl (w.heap.size + 1 + 1) ((w.alloc (.cells (c.cells d) 28)).alloc (.cells zc 28))).alloc (by omega) (.cells (c.cells d) 28)
  have hx := boxed_new w c d 28
  refine ⟨b1.trans ((b2.mono (by omega)).trans (b3.mono (by omega))), (hx.below b2 (by omega)).below b3 (by omega), (b3.block _ (by omega)).trans ?_, ?_, by omega, rfl⟩
  · have := heap_alloc_new (w.alloc (.cells (c.cells d) 28)) (.cells zc 28)
    rwa [s1] at this
  · have := heap_alloc_new ((w.alloc (.cells (c.cells d) 28)).alloc (.cells zc 28)) (.cells (c.cells d) 28)
    rwa [s2] at this
theorem TwX.below {W' : World} (h : TwX w W c d out) (hb : Below (w.heap.size + 1 + 1 + 1) W W') : TwX w W' c d out := by
  have hk : ∀ (o : Nat) (u : Value), W.cell? ⟨w.heap.size, o, none⟩ = some u → W'.cell? ⟨w.heap.size, o, none⟩ = some u := fun o u e => (hb.cell (p := ⟨w.heap.size, o, none⟩) (by show w.heap.size < _; omega)).trans e
  exact ⟨h.bel.trans (hb.mono (by omega)), ⟨Nat.lt_of_lt_of_le h.x1.lt hb.size, hk _ _ h.x1.c0, hk _ _ h.x1.c1, hk _ _ h.x1.c2, hk _ _ h.x1.c3, hk _ _ h.x1.c4, hk _ _ h.x1.c5, hk _ _ h.x1.c6, hk _ _ h.x1.c7, hk _ _ h.x1.c8, hk _ _ h.x1.c9, hk _ _ h.x1.c10, hk _ _ h.x1.c11⟩,
    (hb.block _ (by omega)).trans h.x2, (hb.block _ (by omega)).trans h.x3, Nat.le_trans h.sz hb.size, h.ol⟩
theorem setCell_size (W : World) (a : Addr) (v : Value) : (W.setCell a v).heap.size = W.heap.size := by
  show (W.heap.modify _ _).size = _
  rw [Array.size_modify]
theorem TwX.put (h : TwX w W c d out) (k : Nat) (v : Value) : TwX w (W.setCell ⟨w.heap.size + 1 + 1, k, none⟩ v) c d (out.set k v) := by
  have hb : Below (w.heap.size + 1 + 1) W (W.setCell ⟨w.heap.size + 1 + 1, k, none⟩ v) := Below.setCell (p := ⟨w.heap.size + 1 + 1, k, none⟩) (Below.refl (w.heap.size + 1 + 1) W) (Nat.le_refl _) v
  have hk : ∀ (o : Nat) (u : Value), W.cell? ⟨w.heap.size, o, none⟩ = some u → (W.setCell ⟨w.heap.size + 1 + 1, k, none⟩ v).cell? ⟨w.heap.size, o, none⟩ = some u := fun o u e => (hb.cell (p := ⟨w.heap.size, o, none⟩) (by show w.heap.size < _; omega)).trans e
  refine ⟨h.bel.trans (hb.mono (by omega)), ⟨Nat.lt_of_lt_of_le h.x1.lt hb.size, hk _ _ h.x1.c0, hk _ _ h.x1.c1, hk _ _ h.x1.c2, hk _ _ h.x1.c3, hk _ _ h.x1.c4, hk _ _ h.x1.c5, hk _ _ h.x1.c6, hk _ _ h.x1.c7, hk _ _ h.x1.c8, hk _ _ h.x1.c9, hk _ _ h.x1.c10, hk _ _ h.x1.c11⟩,
    (hb.block _ (by omega)).trans h.x2, ?_, by rw [setCell_size]; exact h.sz, by rw [List.length_set]; exact h.ol⟩
  show (W.heap.modify (w.heap.size + 1 + 1) _)[w.heap.size + 1 + 1]? = _
  rw [Array.getElem?_modify, if_pos rfl, h.x3]
  simp
theorem TwX.cell (h : TwX w W c d out) {k : Nat} {v : Value} (hv : out[k]? = some v) : W.cell? ⟨w.heap.size + 1 + 1, k, none⟩ = some v := by
  rw [cell_of_row _ _ _ _ _ _ h.x3]
  simpa using hv
theorem TwX.free (h : TwX w W c d out) (k : Nat) : W.frozen? ⟨w.heap.size + 1 + 1, k, none⟩ = false := by simp [World.frozen?, h.x3]
end

/-- behind the first three lists, while the windows are laid -/
structure Tw1 (w W : World) (c : Conf) (d : Ad) (out : List Value) (b0 b1 gO cO gP cP gQ cQ k : Nat) (vs : List Value) (v : Value) : Prop where
  s0 : w.heap.size + 1 + 1 + 1 ≤ b0
  x : TwX w W c d (out.set 9 v)
  o : Own W b0 3 1 gO c.owners.length cO (c.owners.flatMap inC)
  p : Own W b0 44 3 gP c.parts.length cP (c.parts.flatMap ptC)
  q : Own W b0 46 6 gQ c.ports.length cQ (c.ports.flatMap poC)
  w : WinS W b1 c.windows k vs v
  o1 : gO < b1
  p1 : gP < b1
  q1 : gQ < b1
  s1 : b1 ≤ W.heap.size
  s2 : b0 ≤ b1

theorem grown_block {W W' : World} {row : Option Nat} (h : W.grownBy W' row) {k : Nat} (hk : k < W.heap.size) (hne : row ≠ some k) : W'.heap[k]? = W.heap[k]? := h.block k hk (fun e => hne e.symm)

theorem Tw1.step {w W W1 W2 W3 : World} {c : Conf} {d : Ad} {out : List Value} {b0 b1 gO cO gP cP gQ cQ k g n cj : Nat} {vs : List Value} {v v' : Value} (h : Tw1 w W c d out b0 b1 gO cO gP cP gQ cQ k vs v) (hl : vs.length = k)
    (hn : n = (c.windows.getD k []).length) (hO : Own W1 W.heap.size 3 1 g n cj ((c.windows.getD k []).flatMap inC)) (hb1 : Below W.heap.size W W1) (hb2 : Below W1.heap.size W1 W2)
    (how : W3.ownsRow b1 22 1 v' (k + 1) (vs ++ [.slice (some ⟨g, 0, none⟩) n cj])) (hg : W2.grownBy W3 v.ownBlock) :
    Tw1 w (W3.setCell ⟨w.heap.size + 1 + 1, 9, none⟩ v') c d out b0 b1 gO cO gP cP gQ cQ (k + 1) (vs ++ [.slice (some ⟨g, 0, none⟩) n cj]) v' := by
  subst hn
  have hs := h.s0; have hs1 := h.s1; have hs2 := h.s2
  have z1 := hb1.size; have z2 := hb2.size; have z3 := hg.size
  have hvb : ∀ r, v.ownBlock = some r → b1 ≤ r ∧ r < W.heap.size := fun r hr => by
    obtain ⟨a, cur, e⟩ := ownsRow.blk h.w.own hr
    exact ⟨a, (Array.getElem?_eq_some_iff.1 e).1⟩
  have h3 : ∀ r, r < W.heap.size → v.ownBlock ≠ some r → W3.heap[r]? = W.heap[r]? := fun r hr hne =>
    (grown_block hg (by omega) hne).trans ((hb2.block r (by omega)).trans (hb1.block r hr))
  have h4 : ∀ r, r < W.heap.size → v.ownBlock ≠ some r → r ≠ w.heap.size + 1 + 1 → (W3.setCell ⟨w.heap.size + 1 + 1, 9, none⟩ v').heap[r]? = W.heap[r]? := fun r hr hne hn =>
    (setCell_other hn).trans (h3 r hr hne)
  have hlow : ∀ r, r < b1 → v.ownBlock ≠ some r := fun r hr e => by have := (hvb r e).1; omega
  have hx3 : TwX w W3 c d (out.set 9 v) := h.x.below ((hb1.mono (by omega)).trans ((hb2.mono (by omega)).trans ((Below.refl _ _).grown hg (by omega) (fun r e => by have := (hvb r e).1; omega))))
  have hx4 := hx3.put 9 v'
  rw [List.set_set] at hx4
  refine { x := hx4, o := h.o.kept (h4 _ h.o.lt (hlow _ h.o1) (by have := h.o.low; omega)), p := h.p.kept (h4 _ h.p.lt (hlow _ h.p1) (by have := h.p.low; omega)), q := h.q.kept (h4 _ h.q.lt (hlow _ h.q1) (by have := h.q.low; omega)), w := ?_, o1 := h.o1, p1 := h.p1, q1 := h.q1, s1 := by rw [setCell_size]; omega, s0 := hs, s2 := hs2 }
  have hgl := hO.low
  have hglt := hO.lt
  refine ⟨ownsRow.kept how fun r hr => setCell_other (by have := (ownsRow.blk how hr).1; omega), fun j hj => ?_, fun i j gi gj ni nj pi pj hij hi hj => ?_⟩
  · rcases Nat.lt_succ_iff_lt_or_eq.1 hj with hj | rfl
    · obtain ⟨gj, cj', a, o⟩ := h.w.each j hj
      obtain ⟨cur, e, _⟩ := o.blk
      refine ⟨gj, cj', by rw [List.getElem?_append_left (by omega)]; exact a, o.kept (h4 gj o.lt (fun e2 => ?_) (by have := o.low; omega))⟩
      obtain ⟨_, cur2, e3⟩ := ownsRow.blk h.w.own e2
      exact ne_of_type e e3 (by decide) rfl
    · refine ⟨g, cj, by rw [List.getElem?_append_right (by omega), hl]; simp, ?_⟩
      have hO2 : Own W3 W.heap.size 3 1 g (c.windows.getD j []).length cj ((c.windows.getD j []).flatMap inC) := hO.kept ((grown_block hg (by omega) (fun e => by have := (hvb g e).2; omega)).trans (hb2.block g hglt))
      have hO3 := hO2.kept (W' := W3.setCell ⟨w.heap.size + 1 + 1, 9, none⟩ v') (setCell_other (by omega))
      exact { hO3 with low := by omega }
  · have hi2 : i < vs.length := by
      have := (List.getElem?_eq_some_iff.1 hj).1
      simp at this; omega
    rw [List.getElem?_append_left hi2] at hi
    rcases Nat.lt_or_ge j vs.length with hj2 | hj2
    · rw [List.getElem?_append_left hj2] at hj
      exact h.w.apart i j _ _ _ _ _ _ hij hi hj
    · have hjk : j = vs.length := by
        have := (List.getElem?_eq_some_iff.1 hj).1
        simp at this; omega
      subst hjk
      rw [List.getElem?_append_right (Nat.le_refl _)] at hj
      simp at hj
      obtain ⟨gi', ci', a, o⟩ := h.w.each i (by omega)
      rw [hi] at a
      injection a with a
      injection a with a1
      injection a1 with a1
      injection a1 with a1
      have := o.lt
      omega

/-- while the links are laid -/
structure Tw2 (w W : World) (c : Conf) (d : Ad) (out : List Value) (b0 b1 b2 gO cO gP cP gQ cQ k : Nat) (vs : List Value) (vW : Value) (xs : List Value) (v : Value) : Prop where
  s0 : w.heap.size + 1 + 1 + 1 ≤ b0
  x : TwX w W c d (out.set 11 v)
  o : Own W b0 3 1 gO c.owners.length cO (c.owners.flatMap inC)
  p : Own W b0 44 3 gP c.parts.length cP (c.parts.flatMap ptC)
  q : Own W b0 46 6 gQ c.ports.length cQ (c.ports.flatMap poC)
  w : WinS W b1 c.windows c.windows.length vs vW
  l : LnkS W b2 c.links k xs v
  o1 : gO < b1
  p1 : gP < b1
  q1 : gQ < b1
  w2 : ∀ g, vW.ownBlock = some g → g < b2
  w3 : ∀ (j g n p : Nat), vs[j]? = some (.slice (some ⟨g, 0, none⟩) n p) → g < b2
  s1 : b2 ≤ W.heap.size
  s2 : b0 ≤ b1
  s3 : b1 ≤ b2

theorem Tw2.step {w W W1 W2 W3 : World} {c : Conf} {d : Ad} {out : List Value} {b0 b1 b2 gO cO gP cP gQ cQ k g n cj : Nat} {vs : List Value} {vW : Value} {xs : List Value} {v v' : Value} (h : Tw2 w W c d out b0 b1 b2 gO cO gP cP gQ cQ k vs vW xs v)
    (hn : n = (c.links.getD k default).dests.length) (hO : Own W1 W.heap.size 3 1 g n cj ((c.links.getD k default).dests.flatMap inC)) (hb1 : Below W.heap.size W W1) (hb2 : Below W1.heap.size W1 W2)
    (how : W3.ownsRow b2 38 3 v' (k + 1) (xs ++ [.int .i64 (c.links.getD k default).source, .slice (some ⟨g, 0, none⟩) n cj, .int .i64 (c.links.getD k default).offset])) (hg : W2.grownBy W3 v.ownBlock) :
    Tw2 w (W3.setCell ⟨w.heap.size + 1 + 1, 11, none⟩ v') c d out b0 b1 b2 gO cO gP cP gQ cQ (k + 1) vs vW (xs ++ [.int .i64 (c.links.getD k default).source, .slice (some ⟨g, 0, none⟩) n cj, .int .i64 (c.links.getD k default).offset]) v' := by
  subst hn
  have hs := h.s0; have hs1 := h.s1; have hs2 := h.s2; have hs3 := h.s3
  have z1 := hb1.size; have z2 := hb2.size; have z3 := hg.size
  have hl : xs.length = k * 3 := h.l.own.1
  have hvb : ∀ r, v.ownBlock = some r → b2 ≤ r ∧ r < W.heap.size := fun r hr => by
    obtain ⟨a, cur, e⟩ := ownsRow.blk h.l.own hr
    exact ⟨a, (Array.getElem?_eq_some_iff.1 e).1⟩
  have h4 : ∀ r, r < W.heap.size → v.ownBlock ≠ some r → r ≠ w.heap.size + 1 + 1 → (W3.setCell ⟨w.heap.size + 1 + 1, 11, none⟩ v').heap[r]? = W.heap[r]? := fun r hr hne hn =>
    (setCell_other hn).trans ((grown_block hg (by omega) hne).trans ((hb2.block r (by omega)).trans (hb1.block r hr)))
  have hlow : ∀ r, r < b2 → v.ownBlock ≠ some r := fun r hr e => by have := (hvb r e).1; omega
  have hx3 : TwX w W3 c d (out.set 11 v) := h.x.below ((hb1.mono (by omega)).trans ((hb2.mono (by omega)).trans ((Below.refl _ _).grown hg (by omega) (fun r e => by have := (hvb r e).1; omega))))
  have hx4 := hx3.put 11 v'
  rw [List.set_set] at hx4
  have ho1 := h.o1; have hp1 := h.p1; have hq1 := h.q1
  refine { x := hx4, o := h.o.kept (h4 _ h.o.lt (hlow _ (by omega)) (by have := h.o.low; omega)), p := h.p.kept (h4 _ h.p.lt (hlow _ (by omega)) (by have := h.p.low; omega)), q := h.q.kept (h4 _ h.q.lt (hlow _ (by omega)) (by have := h.q.low; omega)), w := ?_, l := ?_, o1 := h.o1, p1 := h.p1, q1 := h.q1, w2 := h.w2, w3 := h.w3, s1 := by rw [setCell_size]; omega, s0 := hs, s2 := hs2, s3 := hs3 }
  · refine ⟨ownsRow.kept h.w.own fun r hr => ?_, fun j hj => ?_, h.w.apart⟩
    · obtain ⟨a, cur, e⟩ := ownsRow.blk h.w.own hr
      exact h4 r (Array.getElem?_eq_some_iff.1 e).1 (hlow r (h.w2 r hr)) (by omega)
    · obtain ⟨gj, cj', a, o⟩ := h.w.each j hj
      exact ⟨gj, cj', a, o.kept (h4 gj o.lt (hlow gj (h.w3 j gj _ _ a)) (by have := o.low; omega))⟩
  have hgl := hO.low
  have hglt := hO.lt
  refine ⟨ownsRow.kept how fun r hr => setCell_other (by have := (ownsRow.blk how hr).1; omega), fun j hj => ?_⟩
  rcases Nat.lt_succ_iff_lt_or_eq.1 hj with hj | rfl
  · obtain ⟨gj, cj', a1, a2, a3, o⟩ := h.l.each j hj
    obtain ⟨cur, e, _⟩ := o.blk
    refine ⟨gj, cj', by rw [List.getElem?_append_left (by omega)]; exact a1, by rw [List.getElem?_append_left (by omega)]; exact a2, by rw [List.getElem?_append_left (by omega)]; exact a3, o.kept (h4 gj o.lt (fun e2 => ?_) (by have := o.low; omega))⟩
    obtain ⟨_, cur2, e3⟩ := ownsRow.blk h.l.own e2
    exact ne_of_type e e3 (by decide) rfl
  · refine ⟨g, cj, by rw [List.getElem?_append_right (by omega), hl]; simp, by rw [List.getElem?_append_right (by omega), hl, show j * 3 + 1 - j * 3 = 1 by omega]; rfl, by rw [List.getElem?_append_right (by omega), hl, show j * 3 + 2 - j * 3 = 2 by omega]; rfl, ?_⟩
    have hO2 : Own W3 W.heap.size 3 1 g (c.links.getD j default).dests.length cj ((c.links.getD j default).dests.flatMap inC) := hO.kept ((grown_block hg (by omega) (fun e => by have := (hvb g e).2; omega)).trans (hb2.block g hglt))
    have hO3 := hO2.kept (W' := W3.setCell ⟨w.heap.size + 1 + 1, 11, none⟩ v') (setCell_other (by omega))
    exact { hO3 with low := by omega }
end Go.Proofs.YthngjegimecaaaaDoor
