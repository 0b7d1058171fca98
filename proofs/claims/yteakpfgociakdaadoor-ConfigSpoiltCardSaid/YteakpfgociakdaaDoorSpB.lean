/-
  What stands while ConfigSpoilt spoils a copy.
-/
import Derived.Test.YteakpfgociakdaaDoorSpA
import Derived.Test.YteakpfgociakdaaDoorTurns
import Derived.Deep.DeepCutAuto
import Derived.Deep.CutBlock
import Derived.StillTailTactics
namespace Go.Proofs.YteakpfgociakdaaDoor
open Go.RowKit Go.Deep
set_option linter.unusedVariables false
set_option linter.unusedSimpArgs false

/-- the two that came in, in the function's own blocks, and the copy in block B -/
structure SpS (w W : World) (c : Conf) (d : Ad) (f a t : Int) (B : Nat) (c' : Conf) (d' : Ad) : Prop where
  bel : Below w.heap.size w W
  x1 : Boxed W w.heap.size c d
  y0 : W.cell? ⟨w.heap.size + 1, 0, none⟩ = some (.int .i64 f)
  y1 : W.cell? ⟨w.heap.size + 1, 1, none⟩ = some (.int .u8 a)
  y2 : W.cell? ⟨w.heap.size + 1, 2, none⟩ = some (.int .i64 t)
  x6 : Boxed W B c' d'
  hB : w.heap.size + 1 < B
  cf : ConfAt W c' d'
theorem SpS.below {w W W' : World} {c c' : Conf} {d d' : Ad} {f a t : Int} {B : Nat} (h : SpS w W c d f a t B c' d') (hb : Below W.heap.size W W') : SpS w W' c d f a t B c' d' := by
  have hlt := h.x6.lt
  have hk := h.hB
  exact ⟨h.bel.trans (hb.mono h.bel.size), h.x1.below hb (Nat.le_refl _), cell_below hb (Nat.le_refl _) (by omega) h.y0, cell_below hb (Nat.le_refl _) (by omega) h.y1, cell_below hb (Nat.le_refl _) (by omega) h.y2,
    h.x6.below hb (Nat.le_refl _), h.hB, h.cf.of_below hb (Nat.le_refl _)⟩

/-- what the copy is like -/
def SpM (c : Conf) (f t L : Int) (c' : Conf) : Prop :=
  (checkF c' = 0 ∨ (L ≤ checkF c' ∧ checkF c' ≤ 26)) ∧ (f = 1 → (t < 2 * precF c + c.reading ∨ 16777216 < t) → checkF c' = 22) ∧ (f = 2 → ((t < 1 ∨ 8 < t) ↔ checkF c' = 22))
def SpR (w : World) (c : Conf) (d : Ad) (f a t : Int) (B : Nat) (L : Int) (W : World) : Prop := ∃ c' d', SpS w W c d f a t B c' d' ∧ SpM c f t L c'

theorem boxed_other {W : World} {b g i : Nat} {v : Value} {c : Conf} {d : Ad} (h : Boxed W b c d) (hne : g ≠ b) : Boxed (W.setCell ⟨g, i, none⟩ v) b c d := by
  have hk : ∀ (o : Nat) (u : Value), W.cell? ⟨b, o, none⟩ = some u → (W.setCell ⟨g, i, none⟩ v).cell? ⟨b, o, none⟩ = some u := fun o u e => (World.cell?_of_block (a := ⟨b, o, none⟩) (setCell_other (fun e => hne e.symm))).trans e
  exact ⟨by rw [setCell_size]; exact h.lt, hk _ _ h.c0, hk _ _ h.c1, hk _ _ h.c2, hk _ _ h.c3, hk _ _ h.c4, hk _ _ h.c5, hk _ _ h.c6, hk _ _ h.c7, hk _ _ h.c8, hk _ _ h.c9, hk _ _ h.c10, hk _ _ h.c11⟩

/-- the copy, and where its lists lie -/
structure SpT (w W : World) (c : Conf) (d : Ad) (f a t : Int) (B : Nat) (d' : Ad) (b0 b1 b2 gO gP gQ : Nat) (vs xs : List Value) : Prop where
  s : SpS w W c d f a t B c d'
  blk : ∃ cur, W.heap[B]? = some (.cells cur 28 (0, 0))
  free : ∀ k, W.frozen? ⟨B, k, none⟩ = false
  tw : Twn W c d' b0 b1 b2 gO gP gQ vs xs
  low : w.heap.size + 1 < b0
  b01 : b0 ≤ b1
  up : ∀ g (cur : Array Value) e, W.heap[g]? = some (.cells cur e (0, 0)) → e ≠ 28 → g ≠ B

/-- a number in one of the copy's lists is written over -/
theorem SpT.list {w W : World} {c c' : Conf} {d d' : Ad} {f a t : Int} {B b0 b1 b2 gO gP gQ : Nat} {vs xs vs' xs' : List Value} (h : SpT w W c d f a t B d' b0 b1 b2 gO gP gQ vs xs) {g i : Nat} {v : Value} (hg : b0 ≤ g) (hgB : g ≠ B)
    (ht : Twn (W.setCell ⟨g, i, none⟩ v) c' d' b0 b1 b2 gO gP gQ vs' xs') (hx : Boxed W B c' d') : SpS w (W.setCell ⟨g, i, none⟩ v) c d f a t B c' d' := by
  have hlow := h.low
  refine ⟨h.s.bel.setCell (p := ⟨g, i, none⟩) (by show _ ≤ g; omega) v, boxed_other h.s.x1 (by omega), ?_, ?_, ?_, boxed_other hx hgB, h.s.hB, ht.conf⟩
  · exact (World.cell?_of_block (a := ⟨w.heap.size + 1, 0, none⟩) (setCell_other (by show w.heap.size + 1 ≠ _; omega))).trans h.s.y0
  · exact (World.cell?_of_block (a := ⟨w.heap.size + 1, 1, none⟩) (setCell_other (by show w.heap.size + 1 ≠ _; omega))).trans h.s.y1
  · exact (World.cell?_of_block (a := ⟨w.heap.size + 1, 2, none⟩) (setCell_other (by show w.heap.size + 1 ≠ _; omega))).trans h.s.y2

/-- a number of the copy itself is written over -/
theorem SpT.own {w W : World} {c c' : Conf} {d d' : Ad} {f a t : Int} {B b0 b1 b2 gO gP gQ : Nat} {vs xs : List Value} (h : SpT w W c d f a t B d' b0 b1 b2 gO gP gQ vs xs) {i : Nat} {v : Value}
    (ht : ConfAt (W.setCell ⟨B, i, none⟩ v) c' d') (hx : Boxed (W.setCell ⟨B, i, none⟩ v) B c' d') : SpS w (W.setCell ⟨B, i, none⟩ v) c d f a t B c' d' := by
  have hB := h.s.hB
  refine ⟨h.s.bel.setCell (p := ⟨B, i, none⟩) (by show _ ≤ B; omega) v, boxed_other h.s.x1 (by omega), ?_, ?_, ?_, hx, h.s.hB, ht⟩
  · exact (World.cell?_of_block (a := ⟨w.heap.size + 1, 0, none⟩) (setCell_other (by show w.heap.size + 1 ≠ _; omega))).trans h.s.y0
  · exact (World.cell?_of_block (a := ⟨w.heap.size + 1, 1, none⟩) (setCell_other (by show w.heap.size + 1 ≠ _; omega))).trans h.s.y1
  · exact (World.cell?_of_block (a := ⟨w.heap.size + 1, 2, none⟩) (setCell_other (by show w.heap.size + 1 ≠ _; omega))).trans h.s.y2

/-- the two that came in, alone -/
structure SpO (w W : World) (c : Conf) (d : Ad) (f a t : Int) : Prop where
  bel : Below w.heap.size w W
  x1 : Boxed W w.heap.size c d
  y0 : W.cell? ⟨w.heap.size + 1, 0, none⟩ = some (.int .i64 f)
  y1 : W.cell? ⟨w.heap.size + 1, 1, none⟩ = some (.int .u8 a)
  y2 : W.cell? ⟨w.heap.size + 1, 2, none⟩ = some (.int .i64 t)
  sz : w.heap.size + 1 < W.heap.size
theorem SpO.below {w W W' : World} {c : Conf} {d : Ad} {f a t : Int} (h : SpO w W c d f a t) (hb : Below W.heap.size W W') : SpO w W' c d f a t := by
  have hk := h.sz
  exact ⟨h.bel.trans (hb.mono h.bel.size), h.x1.below hb (Nat.le_refl _), cell_below hb (Nat.le_refl _) hk h.y0, cell_below hb (Nat.le_refl _) hk h.y1, cell_below hb (Nat.le_refl _) hk h.y2, Nat.lt_of_lt_of_le hk hb.size⟩
theorem SpO.first {w : World} {c : Conf} {d : Ad} {f a t : Int} (u v : TypeId) : SpO w ((w.alloc (.cells (c.cells d) u)).alloc (.cells #[.int .i64 f, .int .u8 a, .int .i64 t] v)) c d f a t := by
  have s1 : (w.alloc (.cells (c.cells d) u)).heap.size = w.heap.size + 1 := Array.size_push _
  have b2 := bal (w.alloc (.cells (c.cells d) u)) (.cells #[.int .i64 f, .int .u8 a, .int .i64 t] v)
  have hn := heap_alloc_new (w.alloc (.cells (c.cells d) u)) (.cells #[.int .i64 f, .int .u8 a, .int .i64 t] v)
  rw [s1] at hn
  refine ⟨((Below.refl w.heap.size w).alloc (Nat.le_refl _) _).alloc (by omega) _, (boxed_new w c d u).below b2 (Nat.le_refl _), ?_, ?_, ?_, (Array.getElem?_eq_some_iff.1 hn).1⟩
  · rw [cell_of_row _ _ _ _ _ _ hn]; rfl
  · rw [cell_of_row _ _ _ _ _ _ hn]; rfl
  · rw [cell_of_row _ _ _ _ _ _ hn]; rfl
def SpQ (w : World) (c : Conf) (d : Ad) (f a t : Int) (B : Nat) (s : Value) (W : World) : Prop := ∃ L : Int, s = .int .i64 L ∧ SpR w c d f a t B L W
theorem SpT.start {w w4 : World} {c : Conf} {d d' : Ad} {f a t : Int} {b0 b1 b2 gO gP gQ : Nat} {vs xs : List Value} (h : SpO w w4 c d f a t) (hT : Twn w4 c d' b0 b1 b2 gO gP gQ vs xs) (hlow : w.heap.size + 1 < b0) (h01 : b0 ≤ b1) :
    SpT w (w4.alloc (.cells (c.cells d') 28)) c d f a t w4.heap.size d' b0 b1 b2 gO gP gQ vs xs := by
  have hb := bal w4 (.cells (c.cells d') 28)
  have hO := h.below hb
  have hn := heap_alloc_new w4 (.cells (c.cells d') 28)
  exact { s := ⟨hO.bel, hO.x1, hO.y0, hO.y1, hO.y2, boxed_new w4 c d' _, h.sz, hT.conf.of_below hb (Nat.le_refl _)⟩, blk := ⟨_, hn⟩, free := fun k => by simp only [World.frozen?, hn]; simp, tw := hT.kept (fun g _ hg => hb.block g hg) h01, low := hlow, b01 := h01,
          up := fun g cur e he hne e2 => by subst e2; rw [hn] at he; cases he; exact hne rfl }
theorem SpT.drew {w W : World} {c : Conf} {d d' : Ad} {f a t : Int} {B b0 b1 b2 gO gP gQ : Nat} {vs xs : List Value} (h : SpT w W c d f a t B d' b0 b1 b2 gO gP gQ vs xs) : SpT w W.drew c d f a t B d' b0 b1 b2 gO gP gQ vs xs :=
  { s := h.s.below (Below.refl _ _).drew, blk := h.blk, free := h.free, tw := h.tw.kept (fun g _ _ => rfl) h.b01, low := h.low, b01 := h.b01, up := h.up }

theorem SpQ.drew {w W : World} {c : Conf} {d : Ad} {f a t : Int} {B : Nat} {s : Value} (h : SpQ w c d f a t B s W) : SpQ w c d f a t B s W.drew := by
  obtain ⟨L, e, c', d', h1, h2⟩ := h
  exact ⟨L, e, c', d', h1.below (Below.refl _ _).drew, h2⟩
theorem SpM.plain {c c' : Conf} {f t L : Int} (h1 : f ≠ 1) (h2 : f ≠ 2) (h : checkF c' = 0 ∨ (L ≤ checkF c' ∧ checkF c' ≤ 26)) : SpM c f t L c' := ⟨h, fun e => absurd e h1, fun e => absurd e h2⟩

section
variable {w W : World} {c : Conf} {d d' : Ad} {f a t : Int} {B b0 b1 b2 gO gP gQ : Nat} {vs xs : List Value}
theorem SpT.same (h : SpT w W c d f a t B d' b0 b1 b2 gO gP gQ vs xs) (h0 : checkF c = 0) (h1 : f ≠ 1) (h2 : f ≠ 2) (L : Int) : SpQ w c d f a t B (.int .i64 L) W := ⟨L, rfl, c, d', h.s, SpM.plain h1 h2 (.inl h0)⟩
theorem SpT.ne (h : SpT w W c d f a t B d' b0 b1 b2 gO gP gQ vs xs) {e : TypeId} {base size g n cc : Nat} {zs : List Value} (ho : Own W base e size g n cc zs) (he : e ≠ 28) : g ≠ B := by
  obtain ⟨cur, h1, _⟩ := ho.blk
  exact h.up g cur e h1 he
theorem SpT.setO (h : SpT w W c d 0 a t B d' b0 b1 b2 gO gP gQ vs xs) (h0 : checkF c = 0) (ht : I64 t) {i : Nat} (hi : i < c.owners.length) : SpQ w c d 0 a t B (.int .i64 21) (W.setCell ⟨gO, i, none⟩ (.int .i64 t)).drew :=
  SpQ.drew ⟨21, rfl, _, d', h.list h.tw.o.low (h.ne h.tw.o (by decide)) (h.tw.setO hi ht) { h.s.x6 with c1 := by rw [List.length_set]; exact h.s.x6.c1 }, SpM.plain (by decide) (by decide) (check_from _)⟩
theorem SpT.setP (h : SpT w W c d 3 a t B d' b0 b1 b2 gO gP gQ vs xs) (h0 : checkF c = 0) (ht : I64 t) {i : Nat} (hi : i < c.parts.length) : SpQ w c d 3 a t B (.int .i64 23) (W.setCell ⟨gP, i * 3 + 2, none⟩ (.int .i64 t)).drew :=
  SpQ.drew ⟨23, rfl, _, d', h.list h.tw.p.low (h.ne h.tw.p (by decide)) (h.tw.setP hi ht) { h.s.x6 with c8 := by rw [List.length_set]; exact h.s.x6.c8 }, SpM.plain (by decide) (by decide) (check_from3 (check_zero h0).1 (check_zero h0).2.1)⟩
theorem SpT.setQ (h : SpT w W c d 5 a t B d' b0 b1 b2 gO gP gQ vs xs) (h0 : checkF c = 0) (ht : I64 t) {i : Nat} (hi : i < c.ports.length) : SpQ w c d 5 a t B (.int .i64 25) (W.setCell ⟨gQ, i * 6 + 3, none⟩ (.int .i64 t)).drew :=
  SpQ.drew ⟨25, rfl, _, d', h.list h.tw.q.low (h.ne h.tw.q (by decide)) (h.tw.setQ hi ht) { h.s.x6 with c10 := by rw [List.length_set]; exact h.s.x6.c10 }, SpM.plain (by decide) (by decide) (check_from5 (check_zero h0).1 (check_zero h0).2.1 (check_zero h0).2.2.1 (check_zero h0).2.2.2.1)⟩
theorem SpT.setW (h : SpT w W c d 4 a t B d' b0 b1 b2 gO gP gQ vs xs) (h0 : checkF c = 0) (ht : I64 t) {n i g ca : Nat} (hn : n < c.windows.length) (hi : i < (c.windows.getD n []).length) (hv : vs[n]? = some (.slice (some ⟨g, 0, none⟩) (c.windows.getD n []).length ca))
    (hg : Own W b1 3 1 g (c.windows.getD n []).length ca ((c.windows.getD n []).flatMap inC)) : SpQ w c d 4 a t B (.int .i64 24) (W.setCell ⟨g, i, none⟩ (.int .i64 t)).drew :=
  SpQ.drew ⟨24, rfl, _, d', h.list (Nat.le_trans h.b01 hg.low) (h.ne hg (by decide)) (h.tw.setW hn hi ht hv hg) { h.s.x6 with c9 := by rw [List.length_set]; exact h.s.x6.c9 }, SpM.plain (by decide) (by decide) (check_from4 (check_zero h0).1 (check_zero h0).2.1 (check_zero h0).2.2.1)⟩
theorem SpT.setL (h : SpT w W c d f a t B d' b0 b1 b2 gO gP gQ vs xs) (h0 : checkF c = 0) (ht : I64 t) (h1 : f ≠ 1) (h2 : f ≠ 2) {i r gL : Nat} (hi : i < c.links.length) (hA : d'.lA = some ⟨gL, 0, none⟩) (hL : Own W b2 42 3 gL c.links.length d'.lC xs) (hr : r = 0 ∨ r = 2) :
    SpQ w c d f a t B (.int .i64 26) (W.setCell ⟨gL, i * 3 + r, none⟩ (.int .i64 t)).drew := by
  have hlow : b0 ≤ gL := by have := hL.low; have := h.tw.b12; have := h.b01; omega
  have key : ∀ x : Lk, Twn (W.setCell ⟨gL, i * 3 + r, none⟩ (.int .i64 t)) { c with links := c.links.set i x } d' b0 b1 b2 gO gP gQ vs (xs.set (i * 3 + r) (.int .i64 t)) → SpQ w c d f a t B (.int .i64 26) (W.setCell ⟨gL, i * 3 + r, none⟩ (.int .i64 t)).drew := fun x hx =>
    SpQ.drew ⟨26, rfl, _, d', h.list hlow (h.ne hL (by decide)) hx { h.s.x6 with c11 := by rw [List.length_set]; exact h.s.x6.c11 }, SpM.plain h1 h2 (check_from6 (check_zero h0).1 (check_zero h0).2.1 (check_zero h0).2.2.1 (check_zero h0).2.2.2.1 (check_zero h0).2.2.2.2.1)⟩
  rcases hr with rfl | rfl
  · exact key _ (h.tw.setL hi ht hA hL _ (.inl ⟨rfl, rfl⟩))
  · exact key _ (h.tw.setL hi ht hA hL _ (.inr ⟨rfl, rfl⟩))
theorem cell_set {W : World} {b i j : Nat} {v u : Value} {cur : Array Value} {e : TypeId} (h : W.heap[b]? = some (.cells cur e (0, 0))) (hj : W.cell? ⟨b, j, none⟩ = some u) : (W.setCell ⟨b, i, none⟩ v).cell? ⟨b, j, none⟩ = some (if i = j then v else u) := by
  have h2 : (W.setCell ⟨b, i, none⟩ v).heap[b]? = some (.cells (cur.setIfInBounds i v) e (0, 0)) := by
    show (W.heap.modify b _)[b]? = _
    rw [Array.getElem?_modify, if_pos rfl, h]; rfl
  rw [cell_of_row _ _ _ _ _ _ h] at hj
  rw [cell_of_row _ _ _ _ _ _ h2]
  have hlt := (Array.getElem?_eq_some_iff.1 hj).1
  by_cases e : i = j
  · subst e; rw [if_pos rfl, Array.getElem?_setIfInBounds_self_of_lt hlt]
  · rw [if_neg e, Array.getElem?_setIfInBounds_ne e]; exact hj
theorem SpT.keep (h : SpT w W c d f a t B d' b0 b1 b2 gO gP gQ vs xs) {i : Nat} {v : Value} : Twn (W.setCell ⟨B, i, none⟩ v) c d' b0 b1 b2 gO gP gQ vs xs := by
  have hk : ∀ {e : TypeId} {base size g n cc : Nat} {zs : List Value}, Own W base e size g n cc zs → e ≠ 28 → (W.setCell ⟨B, i, none⟩ v).heap[g]? = W.heap[g]? := fun ho he => setCell_other (h.ne ho he)
  have hr : ∀ {e : TypeId} {b n s : Nat} {u : Value} {zs : List Value}, W.ownsRow b e s u n zs → e ≠ 28 → ∀ g, u.ownBlock = some g → (W.setCell ⟨B, i, none⟩ v).heap[g]? = W.heap[g]? := fun ho he g hg => by
    obtain ⟨_, cur, e1⟩ := ownsRow.blk ho hg
    exact setCell_other (h.up g cur _ e1 he)
  exact { h.tw with o := h.tw.o.kept (hk h.tw.o (by decide)), p := h.tw.p.kept (hk h.tw.p (by decide)), q := h.tw.q.kept (hk h.tw.q (by decide)), w := ⟨ownsRow.kept h.tw.w.own (hr h.tw.w.own (by decide)), fun j hj => by obtain ⟨g, cj, x, o⟩ := h.tw.w.each j hj; exact ⟨g, cj, x, o.kept (hk o (by decide))⟩, h.tw.w.apart⟩, l := ⟨ownsRow.kept h.tw.l.own (hr h.tw.l.own (by decide)), fun j hj => by obtain ⟨g, cj, x1, x2, x3, o⟩ := h.tw.l.each j hj; exact ⟨g, cj, x1, x2, x3, o.kept (hk o (by decide))⟩⟩ }
theorem SpT.setB (h : SpT w W c d f a t B d' b0 b1 b2 gO gP gQ vs xs) (ht : I64 t) : (∀ (_ : f = 1), checkF c = 0 → SpQ w c d f a t B (.int .i64 22) (W.setCell ⟨B, 4, none⟩ (.int .i64 t))) ∧ (∀ (_ : f = 2), checkF c = 0 → SpQ w c d f a t B (.int .i64 22) (W.setCell ⟨B, 6, none⟩ (.int .i64 t))) := by
  obtain ⟨cur, hc⟩ := h.blk
  have x := h.s.x6
  have hsz : ∀ i, B < (W.setCell ⟨B, i, none⟩ (.int .i64 t)).heap.size := fun i => by rw [setCell_size]; exact x.lt
  constructor
  · intro hf h0
    have hz := check_zero h0
    refine ⟨22, rfl, { c with margin := t }, d', h.own { h.keep.conf with margin := ht } ⟨hsz 4, cell_set hc x.c0, cell_set hc x.c1, cell_set hc x.c2, cell_set hc x.c3, cell_set hc x.c4, cell_set hc x.c5, cell_set hc x.c6, cell_set hc x.c7, cell_set hc x.c8, cell_set hc x.c9, cell_set hc x.c10, cell_set hc x.c11⟩, check_from2 hz.1, fun _ hb => ?_, fun e => by omega⟩
    rw [check_clock (c := { c with margin := t }) hz.1]
    have : inB t (2 * precF c + c.reading) 16777216 = false := by simp only [inB, Bool.and_eq_false_iff, decide_eq_false_iff_not]; omega
    show (inB c.drift 0 1048576 && inB c.reading 0 1048576 && inB t (2 * precF c + c.reading) 16777216 && _ && _ && _) = false
    rw [this]; simp
  · intro hf h0
    have hz := check_zero h0
    have hk := hz.2.1
    refine ⟨22, rfl, { c with rejoin := t }, d', h.own { h.keep.conf with rejoin := ht } ⟨hsz 6, cell_set hc x.c0, cell_set hc x.c1, cell_set hc x.c2, cell_set hc x.c3, cell_set hc x.c4, cell_set hc x.c5, cell_set hc x.c6, cell_set hc x.c7, cell_set hc x.c8, cell_set hc x.c9, cell_set hc x.c10, cell_set hc x.c11⟩, check_from2 hz.1, fun e => by omega, fun _ => ?_⟩
    rw [check_clock (c := { c with rejoin := t }) hz.1]
    have e2 : ClockK { c with rejoin := t } = (inB c.drift 0 1048576 && inB c.reading 0 1048576 && inB c.margin (2 * precF c + c.reading) 16777216 && inB c.bound (2 * precF c + c.reading) 16777216 && inB t 1 8 && inB c.quota 1 16) := rfl
    rw [e2]
    unfold ClockK at hk
    simp only [Bool.and_eq_true] at hk
    obtain ⟨⟨⟨⟨⟨k1, k2⟩, k3⟩, k4⟩, _⟩, k6⟩ := hk
    rw [k1, k2, k3, k4, k6]
    simp only [Bool.true_and, Bool.and_true, inB, Bool.and_eq_false_iff, decide_eq_false_iff_not]
    omega
end

/-- what is left behind the last test -/
def SpE (w : World) (c : Conf) (d : Ad) (s : Value) (W : World) : Prop := s = .bool false ∧ Below w.heap.size w W ∧ Boxed W w.heap.size c d
theorem SpO.fin {w W : World} {c : Conf} {d : Ad} {f a t : Int} (h : SpO w W c d f a t) : SpE w c d (.bool false) W := ⟨rfl, h.bel, h.x1⟩
end Go.Proofs.YteakpfgociakdaaDoor
