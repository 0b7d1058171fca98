/-
  Memory of one's own: blocks of numbers, lists of structs, rows of lists.
-/
import Derived.Test.YtdennekkbdlhdaaDoorPnC
import Derived.Laws.AppendOwnNone
import Derived.Laws.MakeOwn
namespace Go.Proofs.YtdennekkbdlhdaaDoor
open Go.RowKit Go.Shelf
set_option linter.unusedVariables false
set_option linter.unusedSimpArgs false
set_option maxRecDepth 100000

theorem info_num : (Tryd.prog.info? 3).map (fun i => (i.zero, i.size, i.bytes)) = some (some (.int .i64 0), 1, 8) := by kernel_rfl
theorem info_pt : (Tryd.prog.info? 47).map (fun i => (i.zero, i.size, i.bytes)) = some (some (.agg #[.int .i64 0, .int .i64 0, .int .i64 0]), 3, 24) := by kernel_rfl
theorem info_po : (Tryd.prog.info? 49).map (fun i => (i.zero, i.size, i.bytes)) = some (some (.agg #[.int .i64 0, .int .i64 0, .int .i64 0, .int .i64 0, .int .i64 0, .int .i64 0]), 6, 48) := by kernel_rfl
theorem info_lk : (Tryd.prog.info? 51).map (fun i => (i.zero, i.size, i.bytes)) = some (some (.agg #[.int .i64 0, .slice none 0 0, .int .i64 0]), 3, 40) := by kernel_rfl
theorem info_sp : (Tryd.prog.info? 78).map (fun i => (i.zero, i.size, i.bytes)) = some (some (.agg #[.int .i64 0, .int .i64 0]), 2, 16) := by kernel_rfl
theorem info_row : (Tryd.prog.info? 28).map (fun i => (i.zero, i.size, i.bytes)) = some (some (.slice none 0 0), 1, 24) := by kernel_rfl
theorem info_sps : (Tryd.prog.info? 74).map (fun i => (i.zero, i.size, i.bytes)) = some (some (.slice none 0 0), 1, 24) := by kernel_rfl

/-! ### what makes slices -/
theorem make_one (n : Nat) (hn : n ≤ 100000) (t e : TypeId) (z : Value) (bytes : Nat) (hz1 : z.cells = #[z]) (ht : Tryd.prog.underlying t = some (.slice e)) (hi3 : (Tryd.prog.info? e).map (fun i => (i.zero, i.size, i.bytes)) = some (some z, 1, bytes)) (hby : bytes ≤ 1000) (W : World) :
    (Instr.makeSlice t (.int .i64 (n : Int)) (.int .i64 (n : Int))).run Tryd.prog W = .ok (.slice (some ⟨W.heap.size, 0, none⟩) n n) (W.alloc (.cells (Array.replicate n z) e)) := by
  rcases hi : Tryd.prog.info? e with _ | i
  · rw [hi] at hi3; cases hi3
  rw [hi] at hi3
  simp only [Option.map_some, Option.some.injEq, Prod.mk.injEq] at hi3
  obtain ⟨hz, hs2, hb⟩ := hi3
  have hbb : i.bytes * n ≤ 100000000 := by rw [hb, Nat.mul_comm]; exact Nat.le_trans (Nat.mul_le_mul hn hby) (by omega)
  have hbc : n * i.bytes ≤ 100000000 := by rw [Nat.mul_comm]; exact hbb
  have hm := run_make (P := Tryd.prog) W t e i z ht hi hz .i64 .i64 (n : Int) (n : Int) (by omega) (by omega) (by omega) (by omega)
  rw [hm]
  have e : madeCells z.cells n = Array.replicate n z := by
    rw [hz1]
    apply Array.ext_getElem?
    intro j
    by_cases hj : j < n
    · simp [madeCells, hj, Nat.mod_one]
    · simp [madeCells, hj]
  simp [hs2, e]
theorem make_ints (n : Nat) (hn : n ≤ 100000) (W : World) : (Instr.makeSlice 28 (.int .i64 (n : Int)) (.int .i64 (n : Int))).run Tryd.prog W = .ok (.slice (some ⟨W.heap.size, 0, none⟩) n n) (W.alloc (.cells (Array.replicate n (Value.int .i64 0)) 3)) :=
  make_one n hn _ _ _ 8 rfl Tryd.underlying28 info_num (by decide) W
theorem make_rows (n : Nat) (hn : n ≤ 100000) (W : World) : (Instr.makeSlice 30 (.int .i64 (n : Int)) (.int .i64 (n : Int))).run Tryd.prog W = .ok (.slice (some ⟨W.heap.size, 0, none⟩) n n) (W.alloc (.cells (Array.replicate n (Value.slice none 0 0)) 28)) :=
  make_one n hn _ _ _ 24 rfl Tryd.underlying30 info_row (by decide) W
theorem make_sps (n : Nat) (hn : n ≤ 100000) (W : World) : (Instr.makeSlice 69 (.int .i64 (n : Int)) (.int .i64 (n : Int))).run Tryd.prog W = .ok (.slice (some ⟨W.heap.size, 0, none⟩) n n) (W.alloc (.cells (Array.replicate n (Value.slice none 0 0)) 74)) :=
  make_one n hn _ _ _ 24 rfl Tryd.underlying69 info_sps (by decide) W

/-! ### a block of numbers -/
def NumsB (W : World) (b : Nat) (l : List Int) : Prop := W.heap[b]? = some (.cells (l.map (Value.int .i64)).toArray 3 (0, 0))
theorem NumsB.lt {W : World} {b : Nat} {l : List Int} (h : NumsB W b l) : b < W.heap.size := (Array.getElem?_eq_some_iff.1 h).1
theorem NumsB.cell {W : World} {b : Nat} {l : List Int} (h : NumsB W b l) {k : Nat} (hk : k < l.length) : W.cell? ⟨b, k, none⟩ = some (.int .i64 (l.getD k 0)) := by
  rw [cell_of_row _ _ _ _ _ _ h, List.getD_eq_getElem?_getD, List.getElem?_eq_getElem hk]
  simp [hk]
theorem NumsB.free {W : World} {b : Nat} {l : List Int} (h : NumsB W b l) (k : Nat) : W.frozen? ⟨b, k, none⟩ = false := by
  unfold NumsB at h; simp [World.frozen?, h]
theorem NumsB.put {W : World} {b : Nat} {l : List Int} (h : NumsB W b l) (k : Nat) (z : Int) : NumsB (W.setCell ⟨b, k, none⟩ (.int .i64 z)) b (l.set k z) := by
  unfold NumsB
  rw [set_cells h]
  congr 2
  apply Array.ext'
  simp
theorem NumsB.on {W W' : World} {b : Nat} {l : List Int} (h : NumsB W b l) (he : W'.heap[b]? = W.heap[b]?) : NumsB W' b l := he.trans h
theorem NumsB.ints {W : World} {b : Nat} {l : List Int} (h : NumsB W b l) (hl : ∀ z ∈ l, I64 z) : Ints W (some ⟨b, 0, none⟩) l :=
  ⟨hl, .inr ⟨b, 0, rfl, h.lt, fun i hi => by
    show W.cell? ⟨b, 0 + i * 1, none⟩ = _
    rw [Nat.zero_add, Nat.mul_one]; exact h.cell hi⟩⟩
theorem nums_new (W : World) (n : Nat) : NumsB (W.alloc (.cells (Array.replicate n (Value.int .i64 0)) 3)) W.heap.size (List.replicate n 0) := by
  have := heap_alloc_new W (.cells (Array.replicate n (Value.int .i64 0)) 3)
  unfold NumsB
  rw [this, List.map_replicate]
  simp
/-- one number for each of so many: a sum, so far -/
def tblTo {α : Type} (N : Nat) (f : Int → α → Int) (l : List α) (k : Nat) : List Int := (List.range N).map fun (n : Nat) => sumI (f (n : Int)) (l.take k)
theorem tbl_len {α : Type} (N : Nat) (f : Int → α → Int) (l : List α) (k : Nat) : (tblTo N f l k).length = N := by simp [tblTo]
theorem tbl_zero {α : Type} (N : Nat) (f : Int → α → Int) (l : List α) : tblTo N f l 0 = List.replicate N 0 := by
  unfold tblTo
  rw [List.eq_replicate_iff]
  exact ⟨by simp, fun b hb => by
    obtain ⟨n, _, rfl⟩ := List.mem_map.1 hb; rfl⟩
theorem tbl_at {α : Type} (N : Nat) (f : Int → α → Int) (l : List α) (k : Nat) {n : Nat} (h : n < N) : (tblTo N f l k).getD n 0 = sumI (f (n : Int)) (l.take k) := by
  simp [tblTo, List.getD_eq_getElem?_getD, h]
theorem tbl_next {α : Type} {N : Nat} {f : Int → α → Int} {l : List α} {k : Nat} (d : α) (hk : k < l.length) {z : Nat} (hz : z < N) (h0 : ∀ n : Nat, n ≠ z → f (n : Int) (l.getD k d) = 0) :
    (tblTo N f l k).set z (sumI (f (z : Int)) (l.take k) + f (z : Int) (l.getD k d)) = tblTo N f l (k + 1) := by
  apply List.ext_getElem?
  intro j
  rw [List.getElem?_set, tbl_len]
  by_cases hj : j < N
  · by_cases e : z = j
    · subst e
      rw [if_pos rfl, if_pos hz]
      simp only [tblTo, List.getElem?_map, List.getElem?_range hj, Option.map_some]
      rw [sumI_next _ l d k hk]
    · rw [if_neg e]
      simp only [tblTo, List.getElem?_map, List.getElem?_range hj, Option.map_some]
      rw [sumI_next _ l d k hk, h0 j (fun x => e x.symm)]
      simp
  · rw [List.getElem?_eq_none (by rw [tbl_len]; omega)]
    by_cases e : z = j
    · omega
    · rw [if_neg e, List.getElem?_eq_none (by rw [tbl_len]; omega)]

/-! ### lists of structs of one's own -/
theorem flat_at {α : Type} {f : α → List Value} {n : Nat} (hf : ∀ a, (f a).length = n) (d : α) : ∀ (l : List α) (i j : Nat), i < l.length → j < n → (l.flatMap f)[i * n + j]? = (f (l.getD i d))[j]?
  | [], i, j, hi, _ => by simp at hi
  | a :: l, 0, j, _, hj => by
    rw [List.flatMap_cons, Nat.zero_mul, Nat.zero_add, List.getElem?_append_left (by rw [hf]; exact hj)]; rfl
  | a :: l, i + 1, j, hi, hj => by
    rw [List.flatMap_cons, List.getElem?_append_right (by rw [hf, Nat.succ_mul]; omega), hf]
    have e : (i + 1) * n + j - n = i * n + j := by rw [Nat.succ_mul]; omega
    rw [e, flat_at hf d l i j (by simpa using hi) hj]; rfl
/-- where its elements lie -/
theorem own_lies {α : Type} {W : World} {B : Nat} {e : TypeId} {n : Nat} {f : α → List Value} (hf : ∀ a, (f a).length = n) (d : α) {h : Value} {l : List α} (x : W.ownsRow B e n h l.length (l.flatMap f)) :
    ∃ A c, h = .slice A l.length c ∧ l.length ≤ c ∧ c ≤ maxLen ∧ Lies W A l.length n fun i b o => ∀ j, j < n → W.cell? ⟨b, o + j, none⟩ = (f (l.getD i d))[j]? := by
  rcases x.2 with ⟨rfl, h0⟩ | ⟨g, cap, cur, rfl, hg, hh, hc1, hc2, _, ht⟩
  · exact ⟨none, 0, by rw [h0], by omega, Nat.zero_le _, .inl h0⟩
  · refine ⟨_, cap, rfl, hc1, hc2, .inr ⟨g, 0, rfl, (Array.getElem?_eq_some_iff.1 hh).1, fun i hi j hj => ?_⟩⟩
    have h1 := flat_at hf d l i j hi hj
    rw [Nat.zero_add, cell_of_row _ _ _ _ _ _ hh, ← h1, ← ht, List.getElem?_take, if_pos ?_, Array.getElem?_toList]
    calc i * n + j < i * n + n := by omega
      _ = (i + 1) * n := by rw [Nat.succ_mul]
      _ ≤ l.length * n := Nat.mul_le_mul_right _ (by omega)
def ptC (p : Pt) : List Value := [.int .i64 p.node, .int .i64 p.lo, .int .i64 p.hi]
def poC (p : Po) : List Value := [.int .i64 p.part, .int .i64 p.kind, .int .i64 p.dir, .int .i64 p.size, .int .i64 p.depth, .int .i64 p.fresh]
def spC (p : Int × Int) : List Value := [.int .i64 p.1, .int .i64 p.2]
def inC (z : Int) : List Value := [.int .i64 z]
theorem own_parts {W : World} {B : Nat} {h : Value} {l : List Pt} (x : W.ownsRow B 47 3 h l.length (l.flatMap ptC)) (hl : ∀ p ∈ l, I64 p.node ∧ I64 p.lo ∧ I64 p.hi) : ∃ A c, h = .slice A l.length c ∧ l.length ≤ c ∧ c ≤ maxLen ∧ Parts W A l := by
  obtain ⟨A, c, h1, h2, h3, h4⟩ := own_lies (f := ptC) (n := 3) (fun _ => rfl) default x
  refine ⟨A, c, h1, h2, h3, hl, ?_⟩
  rcases h4 with h4 | ⟨b, off, e, hlt, hp⟩
  · exact .inl h4
  · exact .inr ⟨b, off, e, hlt, fun i hi => ⟨hp i hi 0 (by omega), hp i hi 1 (by omega), hp i hi 2 (by omega)⟩⟩
theorem own_ports {W : World} {B : Nat} {h : Value} {l : List Po} (x : W.ownsRow B 49 6 h l.length (l.flatMap poC)) (hl : ∀ p ∈ l, I64 p.part ∧ I64 p.kind ∧ I64 p.dir ∧ I64 p.size ∧ I64 p.depth ∧ I64 p.fresh) : ∃ A c, h = .slice A l.length c ∧ l.length ≤ c ∧ c ≤ maxLen ∧ Ports W A l := by
  obtain ⟨A, c, h1, h2, h3, h4⟩ := own_lies (f := poC) (n := 6) (fun _ => rfl) default x
  refine ⟨A, c, h1, h2, h3, hl, ?_⟩
  rcases h4 with h4 | ⟨b, off, e, hlt, hp⟩
  · exact .inl h4
  · exact .inr ⟨b, off, e, hlt, fun i hi => ⟨hp i hi 0 (by omega), hp i hi 1 (by omega), hp i hi 2 (by omega), hp i hi 3 (by omega), hp i hi 4 (by omega), hp i hi 5 (by omega)⟩⟩
/-- a world that has all blocks that were made since, as they are -/
structure Agr (w W W' : World) : Prop where
  size : W.heap.size ≤ W'.heap.size
  same : ∀ j, w.heap.size ≤ j → j < W.heap.size → W'.heap[j]? = W.heap[j]?
theorem Agr.own {w W W' : World} (h : Agr w W W') {B : Nat} {t : TypeId} {sz : Nat} {v : Value} {n : Nat} {xs : List Value} (x : W.ownsRow B t sz v n xs) (hB : w.heap.size ≤ B) : W'.ownsRow B t sz v n xs := own_stands x fun k hk => by
  obtain ⟨h1, h2, _⟩ := own_block x hk
  exact h.same k (by omega) h1
theorem Agr.to {w W V W' : World} (h : Agr w W V) (hv : Agr w V W') (hs : W.heap.size ≤ V.heap.size) : Agr w W W' := ⟨Nat.le_trans h.size hv.size, fun j h1 h2 => (hv.same j h1 (by omega)).trans (h.same j h1 h2)⟩
theorem own_partsA {W : World} {B : Nat} {A : Option Addr} {c : Nat} {l : List Pt} (x : W.ownsRow B 47 3 (.slice A l.length c) l.length (l.flatMap ptC)) (hl : ∀ p ∈ l, I64 p.node ∧ I64 p.lo ∧ I64 p.hi) : Parts W A l := by
  obtain ⟨A', c', h1, _, _, h4⟩ := own_parts x hl
  cases h1; exact h4
theorem own_portsA {W : World} {B : Nat} {A : Option Addr} {c : Nat} {l : List Po} (x : W.ownsRow B 49 6 (.slice A l.length c) l.length (l.flatMap poC)) (hl : ∀ p ∈ l, I64 p.part ∧ I64 p.kind ∧ I64 p.dir ∧ I64 p.size ∧ I64 p.depth ∧ I64 p.fresh) : Ports W A l := by
  obtain ⟨A', c', h1, _, _, h4⟩ := own_ports x hl
  cases h1; exact h4
theorem inC_map (l : List Int) : l.flatMap inC = l.map (Value.int .i64) := by
  induction l with
  | nil => rfl
  | cons a l ih => rw [List.flatMap_cons, ih]; rfl

/-- behind an append: all blocks but its own stand -/
theorem app_keep {W W1 W2 : World} {B : Nat} {t : TypeId} {sz : Nat} {h : Value} {n : Nat} {xs : List Value} (x : W.ownsRow B t sz h n xs) (hb : Below W.heap.size W W1) (hg : W1.grownBy W2 h.ownBlock) {k : Nat} (hk : k < W1.heap.size) (hne : k < B ∨ W.heap.size ≤ k) : W2.heap[k]? = W1.heap[k]? :=
  hg.block k hk fun e => by
    obtain ⟨h1, h2, _⟩ := own_block x e.symm
    omega

theorem grown_two {A B C : World} {row : Option Nat} (h : A.grownBy B row) (k : B.grownBy C row) : A.grownBy C row :=
  ⟨k.os.trans h.os, k.tape.trans h.tape, k.output.trans h.output, Nat.le_trans h.size k.size, fun j hj hne => (k.block j (Nat.lt_of_lt_of_le hj h.size) hne).trans (h.block j hj hne)⟩
theorem own_putN {W : World} {B : Nat} {t : TypeId} {sz : Nat} {g n c : Nat} {xs : List Value} (x : W.ownsRow B t sz (.slice (some ⟨g, 0, none⟩) n c) n xs) (j : Nat) (u : Value) : (W.setCell ⟨g, j, none⟩ u).ownsRow B t sz (.slice (some ⟨g, 0, none⟩) n c) n (xs.set j u) := by
  refine ⟨by rw [List.length_set]; exact x.1, ?_⟩
  rcases x.2 with ⟨h, _⟩ | ⟨g', cap, cur, h, hg, hh, hc, hc2, hs, ht⟩
  · cases h
  · cases h
    refine .inr ⟨g, c, cur.setIfInBounds j u, rfl, hg, set_cells hh, hc, hc2, by simpa using hs, ?_⟩
    rw [Array.toList_setIfInBounds, List.take_set, ht]

/-! ### rows of one's own -/
structure RwS {α : Type} (f : α → List Value) (e re : TypeId) (sz : Nat) (W : World) (base rb : Nat) (vs : List Value) (L : List (List α)) : Prop where
  blk : W.heap[rb]? = some (.cells vs.toArray re (0, 0))
  len : vs.length = L.length
  own : ∀ i, i < L.length → W.ownsRow base e sz (vs.getD i undef) (L.getD i []).length ((L.getD i []).flatMap f)
  apart : ∀ i j, i < L.length → j < L.length → i ≠ j → ∀ g, (vs.getD i undef).ownBlock = some g → (vs.getD j undef).ownBlock ≠ some g
  off : rb < base
section
variable {α : Type} {f : α → List Value} {e re : TypeId} {sz : Nat} {W W1 : World} {base rb : Nat} {vs : List Value} {L : List (List α)}
theorem RwS.below (h : RwS f e re sz W base rb vs L) (hb : Below W.heap.size W W1) : RwS f e re sz W1 base rb vs L :=
  ⟨(hb.block _ (Array.getElem?_eq_some_iff.1 h.blk).1).trans h.blk, h.len, fun i hi => own_below (h.own i hi) hb (Nat.le_refl _), h.apart, h.off⟩
/-- what leaves its blocks as they are -/
theorem RwS.kept (h : RwS f e re sz W base rb vs L) (h1 : ∀ k, (k = rb ∨ base ≤ k) → k < W.heap.size → (∃ cs t, W.heap[k]? = some (.cells cs t (0, 0)) ∧ (t = e ∨ t = re)) → W1.heap[k]? = W.heap[k]?) : RwS f e re sz W1 base rb vs L :=
  ⟨(h1 _ (.inl rfl) (Array.getElem?_eq_some_iff.1 h.blk).1 ⟨_, _, h.blk, .inr rfl⟩).trans h.blk, h.len, fun i hi => own_stands (h.own i hi) fun k hk => by
    obtain ⟨a, b, cur, c⟩ := own_block (h.own i hi) hk
    exact h1 k (.inr b) a ⟨_, _, c, .inl rfl⟩, h.apart, h.off⟩
theorem RwS.cell (h : RwS f e re sz W base rb vs L) {i : Nat} (hi : i < L.length) : W.cell? ⟨rb, i, none⟩ = some (vs.getD i undef) ∧ W.frozen? ⟨rb, i, none⟩ = false := by
  have hi' : i < vs.length := by rw [h.len]; exact hi
  refine ⟨?_, by simp [World.frozen?, h.blk]⟩
  simp only [World.cell?, h.blk]
  rw [List.getD_eq_getElem?_getD, List.getElem?_eq_getElem hi']
  simp [hi']
/-- one of them set anew: its new slice, and the world behind what made it, and the store -/
theorem RwS.put (h : RwS f e re sz W base rb vs L) {i : Nat} (hi : i < L.length) (s : List α) {v' : Value} (hr : W1.ownsRow base e sz v' s.length (s.flatMap f))
    (hg : W.grownBy W1 (vs.getD i undef).ownBlock) (hnew : ∀ g, v'.ownBlock = some g → (vs.getD i undef).ownBlock = some g ∨ W.heap.size ≤ g) :
    RwS f e re sz (W1.setCell ⟨rb, i, none⟩ v') base rb (vs.set i v') (L.set i s) := by
  have hi' : i < vs.length := by rw [h.len]; exact hi
  have hrb := (Array.getElem?_eq_some_iff.1 h.blk).1
  have hold : ∀ k, k < W.heap.size → (vs.getD i undef).ownBlock ≠ some k → W1.heap[k]? = W.heap[k]? := fun k hk hne => hg.block k hk fun e => hne e.symm
  have hrb1 : W1.heap[rb]? = some (.cells vs.toArray re (0, 0)) := (hold rb hrb fun e => by have := (own_block (h.own i hi) e).2.1; have := h.off; omega).trans h.blk
  have hset : ∀ k, k ≠ rb → (W1.setCell ⟨rb, i, none⟩ v').heap[k]? = W1.heap[k]? := fun k hk => setCell_other hk
  have vget : ∀ j, (vs.set i v').getD j undef = if j = i then v' else vs.getD j undef := fun j => by
    simp only [List.getD_eq_getElem?_getD, List.getElem?_set]
    by_cases e : i = j
    · subst e; simp [hi']
    · rw [if_neg e, if_neg (fun x => e x.symm)]
  have lget : ∀ j, (L.set i s).getD j [] = if j = i then s else L.getD j [] := fun j => by
    simp only [List.getD_eq_getElem?_getD, List.getElem?_set]
    by_cases e : i = j
    · subst e; simp [hi]
    · rw [if_neg e, if_neg (fun x => e x.symm)]
  refine ⟨?_, by simp [h.len], fun j hj => ?_, fun j k hj hk hjk g h1 h2 => ?_, h.off⟩
  · rw [set_cells hrb1]
    congr 2
    apply Array.ext'
    simp
  · simp only [List.length_set] at hj
    rw [vget, lget]
    by_cases e : j = i
    · rw [if_pos e, if_pos e]
      exact own_stands hr fun g hg' => hset g fun e' => by have := (own_block hr hg').2.1; have := h.off; omega
    · rw [if_neg e, if_neg e]
      refine own_stands (h.own j hj) fun g hg' => ?_
      obtain ⟨b0, b1, cur, b2⟩ := own_block (h.own j hj) hg'
      rw [hset g (by have := h.off; omega)]
      exact hold g b0 fun e' => h.apart i j hi hj (fun x => e x.symm) g e' hg'
  · simp only [List.length_set] at hj hk
    rw [vget] at h1 h2
    by_cases e1 : j = i <;> by_cases e2 : k = i
    · exact hjk (e1.trans e2.symm)
    · rw [if_pos e1] at h1
      rw [if_neg e2] at h2
      rcases hnew g h1 with a | a
      · exact h.apart i k hi hk (fun x => e2 x.symm) g a h2
      · have := (own_block (h.own k hk) h2).1; omega
    · rw [if_neg e1] at h1
      rw [if_pos e2] at h2
      rcases hnew g h2 with a | a
      · exact h.apart i j hi hj (fun x => e1 x.symm) g a h1
      · have := (own_block (h.own j hj) h1).1; omega
    · rw [if_neg e1] at h1
      rw [if_neg e2] at h2
      exact h.apart j k hj hk hjk g h1 h2
/-- one of them has other elements, in its own block -/
theorem RwS.turn (h : RwS f e re sz W base rb vs L) {i : Nat} (hi : i < L.length) (s : List α) (hr : W1.ownsRow base e sz (vs.getD i undef) s.length (s.flatMap f)) (hg : W.grownBy W1 (vs.getD i undef).ownBlock) :
    RwS f e re sz W1 base rb vs (L.set i s) := by
  have hi' : i < vs.length := by rw [h.len]; exact hi
  have hrb := (Array.getElem?_eq_some_iff.1 h.blk).1
  have hold : ∀ k, k < W.heap.size → (vs.getD i undef).ownBlock ≠ some k → W1.heap[k]? = W.heap[k]? := fun k hk hne => hg.block k hk fun e => hne e.symm
  have hrb1 : W1.heap[rb]? = some (.cells vs.toArray re (0, 0)) := (hold rb hrb fun e => by have := (own_block (h.own i hi) e).2.1; have := h.off; omega).trans h.blk
  have lget : ∀ j, (L.set i s).getD j [] = if j = i then s else L.getD j [] := fun j => by
    simp only [List.getD_eq_getElem?_getD, List.getElem?_set]
    by_cases e : i = j
    · subst e; simp [hi]
    · rw [if_neg e, if_neg (fun x => e x.symm)]
  refine ⟨hrb1, by simp [h.len], fun j hj => ?_, fun j k hj hk => h.apart j k (by simpa using hj) (by simpa using hk), h.off⟩
  simp only [List.length_set] at hj
  rw [lget]
  by_cases e : j = i
  · rw [if_pos e]
    rw [e]
    exact hr
  · rw [if_neg e]
    refine own_stands (h.own j hj) fun g hg' => ?_
    obtain ⟨b0, b1, cur, b2⟩ := own_block (h.own j hj) hg'
    exact hold g b0 fun e' => h.apart i j hi hj (fun x => e x.symm) g e' hg'
theorem rws_new (f : α → List Value) (e re : TypeId) (sz n : Nat) (W : World) : RwS f e re sz (W.alloc (.cells (Array.replicate n (Value.slice none 0 0)) re)) (W.heap.size + 1) W.heap.size (List.replicate n (.slice none 0 0)) (List.replicate n []) := by
  have hv : ∀ i, i < n → (List.replicate n (Value.slice none 0 0)).getD i undef = .slice none 0 0 := fun i hi => by simp [List.getD_eq_getElem?_getD, hi]
  have hl : ∀ i, (List.replicate n ([] : List α)).getD i [] = [] := fun i => by simp [List.getD_eq_getElem?_getD, List.getElem?_replicate]; split <;> rfl
  refine ⟨by rw [heap_alloc_new W _]; simp, by simp, fun i hi => ?_, fun i j hi hj _ g h1 => ?_, by omega⟩
  · rw [hv i (by simpa using hi), hl]
    exact World.ownsRow_nil _ _ _ _
  · rw [hv i (by simpa using hi)] at h1
    cases h1
end
theorem RwS.intRows {W : World} {base rb : Nat} {vs : List Value} {L : List (List Int)} (h : RwS inC 3 28 1 W base rb vs L) (hl : ∀ l ∈ L, ∀ z ∈ l, I64 z) : IntRows W (some ⟨rb, 0, none⟩) L := by
  refine .inr ⟨rb, 0, rfl, (Array.getElem?_eq_some_iff.1 h.blk).1, fun i hi => ?_⟩
  have h1 := h.own i hi
  have hm : L.getD i [] ∈ L := by rw [List.getD_eq_getElem?_getD, List.getElem?_eq_getElem hi]; exact List.getElem_mem _
  obtain ⟨A, c, e1, e2, e3, e4⟩ := own_lies (f := inC) (n := 1) (fun _ => rfl) 0 h1
  refine ⟨A, c, ?_, e2, e3, hl _ hm, ?_⟩
  · rw [Nat.zero_add, Nat.mul_one, (h.cell hi).1, e1]
  · rcases e4 with e4 | ⟨b, off, e, hlt, hp⟩
    · exact .inl e4
    · exact .inr ⟨b, off, e, hlt, fun j hj => hp j hj 0 (by omega)⟩
theorem own_intsA {W : World} {B : Nat} {A : Option Addr} {c : Nat} {l : List Int} (x : W.ownsRow B 3 1 (.slice A l.length c) l.length (l.map (Value.int .i64))) (hl : ∀ z ∈ l, I64 z) : Ints W A l := by
  obtain ⟨A', c', e1, e2, e3, e4⟩ := own_lies (f := inC) (n := 1) (fun _ => rfl) 0 (by rw [inC_map]; exact x)
  cases e1
  refine ⟨hl, ?_⟩
  rcases e4 with e4 | ⟨b, off, e, hlt, hp⟩
  · exact .inl e4
  · exact .inr ⟨b, off, e, hlt, fun i hi => hp i hi 0 (by omega)⟩
theorem RwS.agr {α : Type} {f : α → List Value} {e re : TypeId} {sz : Nat} {w W W' : World} {base rb : Nat} {vs : List Value} {L : List (List α)} (h : RwS f e re sz W base rb vs L) (hg : Agr w W W') (hb : w.heap.size ≤ rb) : RwS f e re sz W' base rb vs L := by
  have := h.off
  exact h.kept fun k hk hl _ => hg.same k (by omega) hl
end Go.Proofs.YtdennekkbdlhdaaDoor
