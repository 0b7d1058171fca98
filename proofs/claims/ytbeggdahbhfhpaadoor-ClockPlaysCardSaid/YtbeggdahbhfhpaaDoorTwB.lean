/-
  A configuration in memory of its own: where its lists lie, and with one number written over.
-/
import Derived.Test.YtbeggdahbhfhpaaDoorTwA
namespace Go.Proofs.YtbeggdahbhfhpaaDoor
open Go.RowKit Go.Deep
set_option linter.unusedVariables false
set_option linter.unusedSimpArgs false

/-- all numbers are ones -/
structure NumC (c : Conf) : Prop where
  nodes : I64 c.nodes
  drift : I64 c.drift
  reading : I64 c.reading
  margin : I64 c.margin
  bound : I64 c.bound
  rejoin : I64 c.rejoin
  quota : I64 c.quota
  owners : ∀ z ∈ c.owners, I64 z
  parts : ∀ p ∈ c.parts, I64 p.node ∧ I64 p.lo ∧ I64 p.hi
  windows : ∀ i, i < c.windows.length → ∀ z ∈ c.windows.getD i [], I64 z
  ports : ∀ p ∈ c.ports, I64 p.part ∧ I64 p.kind ∧ I64 p.dir ∧ I64 p.size ∧ I64 p.depth ∧ I64 p.fresh
  links : ∀ p ∈ c.links, I64 p.source ∧ I64 p.offset
  dests : ∀ i, i < c.links.length → ∀ z ∈ (c.links.getD i default).dests, I64 z
theorem ConfAt.num {w : World} {c : Conf} {d : Ad} (h : ConfAt w c d) : NumC c :=
  { nodes := h.nodes, drift := h.drift, reading := h.reading, margin := h.margin, bound := h.bound, rejoin := h.rejoin, quota := h.quota, owners := h.owners.1, parts := h.parts.1,
    windows := fun i hi => by obtain ⟨b, off, Ai, ci, _, _, _, _, _, h1⟩ := h.windows.at hi; exact h1.1
    ports := h.ports.1, links := h.links.1
    dests := fun i hi => by obtain ⟨b, off, Ai, ci, _, _, _, _, _, _, _, h1, _⟩ := h.links.at hi; exact h1.1 }

/-- the windows: a row, and rows of its own -/
structure WinS (W : World) (b : Nat) (ws : List (List Int)) (k : Nat) (vs : List Value) (v : Value) : Prop where
  own : W.ownsRow b 22 1 v k vs
  each : ∀ j, j < k → ∃ g cj, vs[j]? = some (.slice (some ⟨g, 0, none⟩) (ws.getD j []).length cj) ∧ Own W b 3 1 g (ws.getD j []).length cj ((ws.getD j []).flatMap inC)
  apart : ∀ (i j g h n m p q : Nat), i < j → vs[i]? = some (.slice (some ⟨g, 0, none⟩) n p) → vs[j]? = some (.slice (some ⟨h, 0, none⟩) m q) → g ≠ h
/-- the links -/
structure LnkS (W : World) (b : Nat) (ls : List Lk) (k : Nat) (xs : List Value) (v : Value) : Prop where
  own : W.ownsRow b 53 3 v k xs
  each : ∀ j, j < k → ∃ g cj, xs[j * 3]? = some (.int .i64 (ls.getD j default).source) ∧ xs[j * 3 + 1]? = some (.slice (some ⟨g, 0, none⟩) (ls.getD j default).dests.length cj) ∧ xs[j * 3 + 2]? = some (.int .i64 (ls.getD j default).offset) ∧
    Own W b 3 1 g (ls.getD j default).dests.length cj ((ls.getD j default).dests.flatMap inC)

theorem ownsRow.kept {W W' : World} {b : Nat} {e : TypeId} {size n : Nat} {v : Value} {xs : List Value} (h : W.ownsRow b e size v n xs) (hb : ∀ g, v.ownBlock = some g → W'.heap[g]? = W.heap[g]?) : W'.ownsRow b e size v n xs := by
  refine ⟨h.1, ?_⟩
  rcases h.2 with h1 | ⟨g, cap, cur, rfl, h2, h3, h4⟩
  · exact .inl h1
  · exact .inr ⟨g, cap, cur, rfl, h2, (hb g rfl).trans h3, h4⟩
theorem ownsRow.blk {W : World} {b : Nat} {e : TypeId} {size n : Nat} {v : Value} {xs : List Value} (h : W.ownsRow b e size v n xs) {g : Nat} (hg : v.ownBlock = some g) : b ≤ g ∧ ∃ cur, W.heap[g]? = some (.cells cur e (0, 0)) := by
  rcases h.2 with ⟨rfl, _⟩ | ⟨g', cap, cur, rfl, h1, h2, _⟩
  · cases hg
  · simp [Value.ownBlock] at hg
    subst hg
    exact ⟨h1, cur, h2⟩
/-- a row of one's own, as a slice that begins so -/
theorem ownsRow.slice {W : World} {b : Nat} {e : TypeId} {size n : Nat} {v : Value} {xs : List Value} (h : W.ownsRow b e size v n xs) : ∃ A C, v = .slice A n C ∧ n ≤ C ∧ C ≤ maxLen ∧ (n = 0 ∨ ∃ g, A = some ⟨g, 0, none⟩ ∧ Own W b e size g n C xs) := by
  rcases h.2 with ⟨rfl, rfl⟩ | ⟨g, cap, cur, rfl, h1, h2, h3, h4, h5, h6⟩
  · exact ⟨none, 0, rfl, Nat.le_refl _, Nat.zero_le _, .inl rfl⟩
  · exact ⟨_, cap, rfl, h3, h4, .inr ⟨g, rfl, h1, h3, h4, ⟨cur, h2, h5, h6⟩, h.1⟩⟩
theorem ne_of_type {W : World} {g k : Nat} {c1 c2 : Array Value} {e1 e2 : TypeId} {f1 f2 : Nat × Nat} (h1 : W.heap[g]? = some (.cells c1 e1 f1)) (h2 : W.heap[k]? = some (.cells c2 e2 f2)) (he : e1 ≠ e2) : g ≠ k := by
  rintro rfl
  rw [h1] at h2
  cases h2
  exact he rfl

theorem WinS.kept {W W' : World} {b k : Nat} {ws : List (List Int)} {vs : List Value} {v : Value} (h : WinS W b ws k vs v) (hb : ∀ g, b ≤ g → g < W.heap.size → W'.heap[g]? = W.heap[g]?) : WinS W' b ws k vs v :=
  ⟨ownsRow.kept h.own fun g hg => by obtain ⟨a, cur, e⟩ := ownsRow.blk h.own hg; exact hb g a (Array.getElem?_eq_some_iff.1 e).1,
   fun j hj => by obtain ⟨g, cj, a, o⟩ := h.each j hj; exact ⟨g, cj, a, o.kept (hb g o.low o.lt)⟩, h.apart⟩
theorem LnkS.kept {W W' : World} {b k : Nat} {ls : List Lk} {xs : List Value} {v : Value} (h : LnkS W b ls k xs v) (hb : ∀ g, b ≤ g → g < W.heap.size → W'.heap[g]? = W.heap[g]?) : LnkS W' b ls k xs v :=
  ⟨ownsRow.kept h.own fun g hg => by obtain ⟨a, cur, e⟩ := ownsRow.blk h.own hg; exact hb g a (Array.getElem?_eq_some_iff.1 e).1,
   fun j hj => by obtain ⟨g, cj, a1, a2, a3, o⟩ := h.each j hj; exact ⟨g, cj, a1, a2, a3, o.kept (hb g o.low o.lt)⟩⟩

/-- a configuration's lists, each in memory of its own -/
structure Twn (W : World) (c : Conf) (d : Ad) (b0 b1 b2 gO gP gQ : Nat) (vs xs : List Value) : Prop where
  num : NumC c
  oA : d.oA = some ⟨gO, 0, none⟩
  pA : d.pA = some ⟨gP, 0, none⟩
  qA : d.qA = some ⟨gQ, 0, none⟩
  o : Own W b0 3 1 gO c.owners.length d.oC (c.owners.flatMap inC)
  p : Own W b0 51 3 gP c.parts.length d.pC (c.parts.flatMap ptC)
  q : Own W b0 49 6 gQ c.ports.length d.qC (c.ports.flatMap poC)
  w : WinS W b1 c.windows c.windows.length vs (.slice d.wA c.windows.length d.wC)
  l : LnkS W b2 c.links c.links.length xs (.slice d.lA c.links.length d.lC)
  o1 : gO < b1
  p1 : gP < b1
  q1 : gQ < b1
  w2 : ∀ g, Value.ownBlock (.slice d.wA c.windows.length d.wC) = some g → g < b2
  w3 : ∀ (j g n p : Nat), vs[j]? = some (.slice (some ⟨g, 0, none⟩) n p) → g < b2
  b12 : b1 ≤ b2

section
variable {W : World} {c : Conf} {d : Ad} {b0 b1 b2 gO gP gQ : Nat} {vs xs : List Value}

theorem Twn.conf (h : Twn W c d b0 b1 b2 gO gP gQ vs xs) : ConfAt W c d where
  nodes := h.num.nodes
  drift := h.num.drift
  reading := h.num.reading
  margin := h.num.margin
  bound := h.num.bound
  rejoin := h.num.rejoin
  quota := h.num.quota
  owners := by rw [h.oA]; exact ints_iff.2 ⟨h.num.owners, h.o.lies rfl inC_len⟩
  parts := by rw [h.pA]; exact parts_iff.2 ⟨h.num.parts, h.p.lies rfl ptC_len⟩
  ports := by rw [h.qA]; exact ports_iff.2 ⟨h.num.ports, h.q.lies rfl poC_len⟩
  windows := by
    obtain ⟨A, C, e, h1, h2, h3⟩ := ownsRow.slice h.w.own
    injection e with e1 _ e2
    rcases h3 with h3 | ⟨g, rfl, ho⟩
    · exact .inl h3
    · refine .inr ⟨g, 0, e1, ho.lt, fun i hi => ?_⟩
      obtain ⟨gi, ci, a, o⟩ := h.w.each i hi
      exact ⟨_, ci, by rw [Nat.zero_add, Nat.mul_one]; exact ho.cell a, o.nc, o.cm, ints_iff.2 ⟨h.num.windows i hi, o.lies rfl inC_len⟩⟩
  links := by
    refine ⟨h.num.links, ?_⟩
    obtain ⟨A, C, e, h1, h2, h3⟩ := ownsRow.slice h.l.own
    injection e with e1 _ e2
    rcases h3 with h3 | ⟨g, rfl, ho⟩
    · exact .inl h3
    · refine .inr ⟨g, 0, e1, ho.lt, fun i hi => ?_⟩
      obtain ⟨gi, ci, a1, a2, a3, o⟩ := h.l.each i hi
      exact ⟨_, ci, by rw [Nat.zero_add]; exact ho.cell a1, by rw [Nat.zero_add]; exact ho.cell a2, by rw [Nat.zero_add]; exact ho.cell a3, o.nc, o.cm, ints_iff.2 ⟨h.num.dests i hi, o.lies rfl inC_len⟩⟩
  oLen := ⟨h.o.nc, h.o.cm⟩
  pLen := ⟨h.p.nc, h.p.cm⟩
  qLen := ⟨h.q.nc, h.q.cm⟩
  wLen := by
    obtain ⟨A, C, e, h1, h2, _⟩ := ownsRow.slice h.w.own
    injection e with e1 _ e2
    rw [e2]; exact ⟨h1, h2⟩
  lLen := by
    obtain ⟨A, C, e, h1, h2, _⟩ := ownsRow.slice h.l.own
    injection e with e1 _ e2
    rw [e2]; exact ⟨h1, h2⟩

theorem Twn.kept {W' : World} (h : Twn W c d b0 b1 b2 gO gP gQ vs xs) (hb : ∀ g, b0 ≤ g → g < W.heap.size → W'.heap[g]? = W.heap[g]?) (h01 : b0 ≤ b1) : Twn W' c d b0 b1 b2 gO gP gQ vs xs :=
  { h with o := h.o.kept (hb _ h.o.low h.o.lt), p := h.p.kept (hb _ h.p.low h.p.lt), q := h.q.kept (hb _ h.q.low h.q.lt), w := h.w.kept fun g a => hb g (by omega), l := h.l.kept fun g a => hb g (by have := h.b12; omega) }

/-! ### One number written over -/
theorem set_mem {α : Type} {l : List α} {i : Nat} {x y : α} (h : y ∈ l.set i x) : y ∈ l ∨ y = x := List.mem_or_eq_of_mem_set h
theorem set_getD {α : Type} (l : List α) (i j : Nat) (x e : α) (hi : i < l.length) : (l.set i x).getD j e = if i = j then x else l.getD j e := by
  simp only [List.getD_eq_getElem?_getD, List.getElem?_set]
  by_cases h : i = j
  · subst h; simp [hi]
  · simp [h]

theorem Twn.setO (h : Twn W c d b0 b1 b2 gO gP gQ vs xs) {i : Nat} (hi : i < c.owners.length) {z : Int} (hz : I64 z) : Twn (W.setCell ⟨gO, i, none⟩ (.int .i64 z)) { c with owners := c.owners.set i z } d b0 b1 b2 gO gP gQ vs xs := by
  obtain ⟨co, ho, _⟩ := h.o.blk
  obtain ⟨cp, hp, _⟩ := h.p.blk
  obtain ⟨cq, hq, _⟩ := h.q.blk
  refine { h with num := { h.num with owners := fun y hy => (set_mem hy).elim (h.num.owners y) (fun e => e ▸ hz) }, o := ?_, p := h.p.kept (setCell_other (ne_of_type hp ho (by decide))), q := h.q.kept (setCell_other (ne_of_type hq ho (by decide))), w := h.w.kept fun g a _ => setCell_other (by have := h.o1; omega), l := h.l.kept fun g a _ => setCell_other (by have := h.o1; have := h.b12; omega) }
  have := h.o.set i (.int .i64 z)
  simp only [List.length_set]
  rw [fm_set inC_len c.owners i 0 z (.int .i64 z) (by omega) hi rfl, Nat.mul_one, Nat.add_zero]
  exact this
theorem Twn.setP (h : Twn W c d b0 b1 b2 gO gP gQ vs xs) {i : Nat} (hi : i < c.parts.length) {z : Int} (hz : I64 z) : Twn (W.setCell ⟨gP, i * 3 + 2, none⟩ (.int .i64 z)) { c with parts := c.parts.set i { c.parts.getD i default with hi := z } } d b0 b1 b2 gO gP gQ vs xs := by
  obtain ⟨co, ho, _⟩ := h.o.blk
  obtain ⟨cp, hp, _⟩ := h.p.blk
  obtain ⟨cq, hq, _⟩ := h.q.blk
  have hm : c.parts.getD i default ∈ c.parts := by rw [List.getD_eq_getElem?_getD, List.getElem?_eq_getElem hi]; exact List.getElem_mem hi
  refine { h with num := { h.num with parts := fun y hy => (set_mem hy).elim (h.num.parts y) (fun e => e ▸ ⟨(h.num.parts _ hm).1, (h.num.parts _ hm).2.1, hz⟩) }, p := ?_, o := h.o.kept (setCell_other (ne_of_type ho hp (by decide))), q := h.q.kept (setCell_other (ne_of_type hq hp (by decide))), w := h.w.kept fun g a _ => setCell_other (by have := h.p1; omega), l := h.l.kept fun g a _ => setCell_other (by have := h.p1; have := h.b12; omega) }
  have := h.p.set (i * 3 + 2) (.int .i64 z)
  simp only [List.length_set]
  rw [fm_set ptC_len c.parts i 2 _ (.int .i64 z) (by omega) hi rfl]
  exact this
theorem Twn.setQ (h : Twn W c d b0 b1 b2 gO gP gQ vs xs) {i : Nat} (hi : i < c.ports.length) {z : Int} (hz : I64 z) : Twn (W.setCell ⟨gQ, i * 6 + 3, none⟩ (.int .i64 z)) { c with ports := c.ports.set i { c.ports.getD i default with size := z } } d b0 b1 b2 gO gP gQ vs xs := by
  obtain ⟨co, ho, _⟩ := h.o.blk
  obtain ⟨cp, hp, _⟩ := h.p.blk
  obtain ⟨cq, hq, _⟩ := h.q.blk
  have hm : c.ports.getD i default ∈ c.ports := by rw [List.getD_eq_getElem?_getD, List.getElem?_eq_getElem hi]; exact List.getElem_mem hi
  refine { h with num := { h.num with ports := fun y hy => (set_mem hy).elim (h.num.ports y) (fun e => e ▸ ⟨(h.num.ports _ hm).1, (h.num.ports _ hm).2.1, (h.num.ports _ hm).2.2.1, hz, (h.num.ports _ hm).2.2.2.2.1, (h.num.ports _ hm).2.2.2.2.2⟩) }, q := ?_, o := h.o.kept (setCell_other (ne_of_type ho hq (by decide))), p := h.p.kept (setCell_other (ne_of_type hp hq (by decide))), w := h.w.kept fun g a _ => setCell_other (by have := h.q1; omega), l := h.l.kept fun g a _ => setCell_other (by have := h.q1; have := h.b12; omega) }
  have := h.q.set (i * 6 + 3) (.int .i64 z)
  simp only [List.length_set]
  rw [fm_set poC_len c.ports i 3 _ (.int .i64 z) (by omega) hi rfl]
  exact this
/-- row a's block, and what stands there -/
theorem Twn.row (h : Twn W c d b0 b1 b2 gO gP gQ vs xs) {a : Nat} (ha : a < c.windows.length) : ∃ g ca gW, d.wA = some ⟨gW, 0, none⟩ ∧ W.cell? ⟨gW, a, none⟩ = some (.slice (some ⟨g, 0, none⟩) (c.windows.getD a []).length ca) ∧ vs[a]? = some (.slice (some ⟨g, 0, none⟩) (c.windows.getD a []).length ca) ∧
    Own W b1 3 1 g (c.windows.getD a []).length ca ((c.windows.getD a []).flatMap inC) := by
  obtain ⟨A, C, e, h1, h2, h3⟩ := ownsRow.slice h.w.own
  injection e with e1 _ e2
  rcases h3 with h3 | ⟨gW, rfl, ho⟩
  · omega
  · obtain ⟨g, ca, a1, o⟩ := h.w.each a ha
    exact ⟨g, ca, gW, e1, ho.cell a1, a1, o⟩
theorem Twn.setW (h : Twn W c d b0 b1 b2 gO gP gQ vs xs) {a i g ca : Nat} (ha : a < c.windows.length) (hi : i < (c.windows.getD a []).length) {z : Int} (hz : I64 z) (hv : vs[a]? = some (.slice (some ⟨g, 0, none⟩) (c.windows.getD a []).length ca))
    (hg : Own W b1 3 1 g (c.windows.getD a []).length ca ((c.windows.getD a []).flatMap inC)) : Twn (W.setCell ⟨g, i, none⟩ (.int .i64 z)) { c with windows := c.windows.set a ((c.windows.getD a []).set i z) } d b0 b1 b2 gO gP gQ vs xs := by
  obtain ⟨cg, hgb, _⟩ := hg.blk
  have hlow := hg.low
  have hup := h.w3 a g _ _ hv
  refine { h with num := { h.num with windows := fun j hj y hy => ?_ }, o := h.o.kept (setCell_other (by have := h.o1; omega)), p := h.p.kept (setCell_other (by have := h.p1; omega)), q := h.q.kept (setCell_other (by have := h.q1; omega)), w := ?_, w2 := fun k hk => h.w2 k (by simpa using hk), l := h.l.kept fun k a _ => setCell_other (by omega) }
  · rw [List.length_set] at hj
    rw [set_getD _ _ _ _ _ ha] at hy
    split at hy
    · rename_i e
      subst e
      rcases set_mem hy with hy | rfl
      · exact h.num.windows a ha y hy
      · exact hz
    · exact h.num.windows j hj y hy
  · simp only [List.length_set]
    refine ⟨ownsRow.kept h.w.own fun k hk => ?_, fun j hj => ?_, h.w.apart⟩
    · obtain ⟨_, cur, e⟩ := ownsRow.blk h.w.own hk
      exact setCell_other (ne_of_type e hgb (by decide))
    · obtain ⟨gj, cj, a1, o⟩ := h.w.each j hj
      rw [set_getD _ _ _ _ _ ha]
      by_cases e : a = j
      · subst e
        rw [if_pos rfl]
        rw [hv] at a1
        injection a1 with a1
        injection a1 with a2 _ a3
        injection a2 with a2
        injection a2 with a2
        subst a2 a3
        refine ⟨g, ca, by simpa using hv, ?_⟩
        have := o.set i (.int .i64 z)
        simp only [List.length_set]
        rw [fm_set inC_len (c.windows.getD a []) i 0 z (.int .i64 z) (by omega) hi rfl, Nat.mul_one, Nat.add_zero]
        exact this
      · rw [if_neg e]
        refine ⟨gj, cj, a1, o.kept (setCell_other fun e2 => ?_)⟩
        rcases Nat.lt_or_gt_of_ne e with e3 | e3
        · exact h.w.apart a j _ _ _ _ _ _ e3 hv a1 e2.symm
        · exact h.w.apart j a _ _ _ _ _ _ e3 a1 hv e2
/-- the links' block -/
theorem Twn.lblk (h : Twn W c d b0 b1 b2 gO gP gQ vs xs) (h0 : 0 < c.links.length) : ∃ gL, d.lA = some ⟨gL, 0, none⟩ ∧ Own W b2 53 3 gL c.links.length d.lC xs := by
  obtain ⟨A, C, e, h1, h2, h3⟩ := ownsRow.slice h.l.own
  injection e with e1 _ e2
  rcases h3 with h3 | ⟨gL, rfl, ho⟩
  · omega
  · exact ⟨gL, e1, by rw [e2]; exact ho⟩
theorem Twn.setL (h : Twn W c d b0 b1 b2 gO gP gQ vs xs) {i r gL : Nat} (hi : i < c.links.length) {z : Int} (hz : I64 z) (hA : d.lA = some ⟨gL, 0, none⟩) (hL : Own W b2 53 3 gL c.links.length d.lC xs) (x : Lk)
    (hr : (r = 0 ∧ x = { c.links.getD i default with source := z }) ∨ (r = 2 ∧ x = { c.links.getD i default with offset := z })) :
    Twn (W.setCell ⟨gL, i * 3 + r, none⟩ (.int .i64 z)) { c with links := c.links.set i x } d b0 b1 b2 gO gP gQ vs (xs.set (i * 3 + r) (.int .i64 z)) := by
  obtain ⟨cg, hgb, _⟩ := hL.blk
  have hlow := hL.low
  have hm : c.links.getD i default ∈ c.links := by rw [List.getD_eq_getElem?_getD, List.getElem?_eq_getElem hi]; exact List.getElem_mem hi
  have hxd : x.dests = (c.links.getD i default).dests := by rcases hr with ⟨_, rfl⟩ | ⟨_, rfl⟩ <;> rfl
  have hxn : I64 x.source ∧ I64 x.offset := by
    rcases hr with ⟨_, rfl⟩ | ⟨_, rfl⟩
    · exact ⟨hz, (h.num.links _ hm).2⟩
    · exact ⟨(h.num.links _ hm).1, hz⟩
  refine { h with num := { h.num with links := fun y hy => (set_mem hy).elim (h.num.links y) (fun e => e ▸ hxn), dests := fun j hj y hy => ?_ }, o := h.o.kept (setCell_other (by have := h.o1; have := h.b12; omega)), p := h.p.kept (setCell_other (by have := h.p1; have := h.b12; omega)), q := h.q.kept (setCell_other (by have := h.q1; have := h.b12; omega)), w := ?_, l := ?_ }
  · rw [List.length_set] at hj
    rw [set_getD _ _ _ _ _ hi] at hy
    split at hy
    · rename_i e
      subst e
      rw [hxd] at hy
      exact h.num.dests i hi y hy
    · exact h.num.dests j hj y hy
  · refine ⟨ownsRow.kept h.w.own fun k hk => setCell_other (by have := h.w2 k hk; omega), fun j hj => ?_, h.w.apart⟩
    obtain ⟨gj, cj, a1, o⟩ := h.w.each j hj
    exact ⟨gj, cj, a1, o.kept (setCell_other (by have := h.w3 j gj _ _ a1; omega))⟩
  · simp only [List.length_set]
    have hs := hL.set (i * 3 + r) (.int .i64 z)
    refine ⟨⟨hs.len, .inr ?_⟩, fun j hj => ?_⟩
    · obtain ⟨cur, k1, k2, k3⟩ := hs.blk
      rw [hA]
      exact ⟨gL, d.lC, cur, rfl, hs.low, k1, hs.nc, hs.cm, k2, k3⟩
    · obtain ⟨gj, cj, a1, a2, a3, o⟩ := h.l.each j hj
      obtain ⟨cur, hb, _⟩ := o.blk
      have hne : gj ≠ gL := ne_of_type hb hgb (by decide)
      rw [set_getD _ _ _ _ _ hi]
      have hlen : xs.length = c.links.length * 3 := hL.len
      by_cases e : i = j
      · subst e
        rw [if_pos rfl, hxd]
        refine ⟨gj, cj, ?_, ?_, ?_, o.kept (setCell_other hne)⟩
        · rcases hr with ⟨rfl, rfl⟩ | ⟨rfl, rfl⟩
          · rw [Nat.add_zero, List.getElem?_set_self (by omega)]
          · rw [List.getElem?_set_ne (by omega)]; exact a1
        · rcases hr with ⟨rfl, rfl⟩ | ⟨rfl, rfl⟩
          · rw [List.getElem?_set_ne (by omega)]; exact a2
          · rw [List.getElem?_set_ne (by omega)]; exact a2
        · rcases hr with ⟨rfl, rfl⟩ | ⟨rfl, rfl⟩
          · rw [List.getElem?_set_ne (by omega)]; exact a3
          · rw [List.getElem?_set_self (by omega)]
      · rw [if_neg e]
        have hr2 : r = 0 ∨ r = 2 := by rcases hr with ⟨rfl, _⟩ | ⟨rfl, _⟩ <;> simp
        refine ⟨gj, cj, ?_, ?_, ?_, o.kept (setCell_other hne)⟩
        · rw [List.getElem?_set_ne (by omega)]; exact a1
        · rw [List.getElem?_set_ne (by omega)]; exact a2
        · rw [List.getElem?_set_ne (by omega)]; exact a3
end
end Go.Proofs.YtbeggdahbhfhpaaDoor
