/-
  The bus: all that is sent, gathered.
-/
import Derived.Test.YtbeggdahbhfhpaaDoorBuO
import Derived.Test.YtbeggdahbhfhpaaDoorDupB
namespace Go.Proofs.YtbeggdahbhfhpaaDoor
open Go.RowKit Go.Deep
set_option linter.unusedVariables false
set_option linter.unusedSimpArgs false

/-! ### Rows of one's own -/
section
variable {W W' : World} {B size n : Nat} {t : TypeId} {h : Value} {xs : List Value}
theorem bow_slice (x : W.ownsRow B t size h n xs) : ∃ A c, h = .slice A n c := by
  rcases x.2 with ⟨rfl, rfl⟩ | ⟨g, cap, cur, rfl, _⟩
  · exact ⟨_, _, rfl⟩
  · exact ⟨_, _, rfl⟩
theorem bow_block (x : W.ownsRow B t size h n xs) {k : Nat} (hk : h.ownBlock = some k) : k < W.heap.size ∧ B ≤ k ∧ ∃ cur, W.heap[k]? = some (.cells cur t (0, 0)) := by
  rcases x.2 with ⟨rfl, _⟩ | ⟨g, cap, cur, rfl, hg, hh, _⟩
  · cases hk
  · simp [Value.ownBlock] at hk
    subst hk
    exact ⟨(Array.getElem?_eq_some_iff.1 hh).1, hg, cur, hh⟩
theorem bow_stands (x : W.ownsRow B t size h n xs) (hb : ∀ k, h.ownBlock = some k → W'.heap[k]? = W.heap[k]?) : W'.ownsRow B t size h n xs := by
  refine ⟨x.1, ?_⟩
  rcases x.2 with h1 | ⟨g, cap, cur, rfl, h2, h3, h4⟩
  · exact .inl h1
  · exact .inr ⟨g, cap, cur, rfl, h2, (hb g rfl).trans h3, h4⟩
theorem bow_below (x : W.ownsRow B t size h n xs) (hb : Below W.heap.size W W') : W'.ownsRow B t size h n xs := bow_stands x fun k hk => hb.block k (bow_block x hk).1
theorem bow_from {B' : Nat} (x : W.ownsRow B t size h n xs) (hB : B' ≤ B) : W.ownsRow B' t size h n xs := by
  refine ⟨x.1, ?_⟩
  rcases x.2 with h1 | ⟨g, cap, cur, h1, h2, h3⟩
  · exact .inl h1
  · exact .inr ⟨g, cap, cur, h1, Nat.le_trans hB h2, h3⟩
theorem bow_open (x : W.ownsRow B t size h n xs) (h0 : 0 < n) : ∃ g c, h = .slice (some ⟨g, 0, none⟩) n c ∧ B ≤ g ∧ g < W.heap.size ∧ n ≤ c ∧ c ≤ maxLen ∧ ∀ j v, xs[j]? = some v → W.cell? ⟨g, j, none⟩ = some v := by
  rcases x.2 with ⟨_, h1⟩ | ⟨g, cap, cur, h1, h2, h3, h4, h5, h6, h7⟩
  · omega
  · refine ⟨g, cap, h1, h2, (Array.getElem?_eq_some_iff.1 h3).1, h4, h5, fun j v hv => ?_⟩
    rw [cell_of_row _ _ _ _ _ _ h3]
    rw [← h7] at hv
    have hj : j < n * size := by
      rcases Nat.lt_or_ge j (n * size) with hj | hj
      · exact hj
      · rw [List.getElem?_eq_none (by simp; omega)] at hv; cases hv
    rw [List.getElem?_take_of_lt hj, Array.getElem?_toList] at hv
    exact hv
theorem bow_ne {t' : TypeId} {cur : Array Value} {fz : Nat × Nat} (x : W.ownsRow B t size h n xs) {k : Nat} (hk : W.heap[k]? = some (.cells cur t' fz)) (ht : t' ≠ t) : h.ownBlock ≠ some k := fun e => by
  obtain ⟨_, _, cur', h2⟩ := bow_block x e
  rw [hk] at h2
  injection h2 with h2
  injection h2 with _ h2
  exact ht h2
end
theorem bfm_at {α : Type} {f : α → List Value} {s : Nat} (hf : ∀ x, (f x).length = s) : ∀ (l : List α) (n j : Nat) (x : α), l[n]? = some x → j < s → (l.flatMap f)[n * s + j]? = (f x)[j]?
  | [], n, j, x, h, _ => by simp at h
  | y :: l, 0, j, x, h, hj => by
    simp at h; subst h
    simp only [List.flatMap_cons, Nat.zero_mul, Nat.zero_add]
    rw [List.getElem?_append_left (by rw [hf]; exact hj)]
  | y :: l, n + 1, j, x, h, hj => by
    have ih := bfm_at hf l n j x (by simpa using h) hj
    simp only [List.flatMap_cons]
    rw [List.getElem?_append_right (by rw [hf, Nat.add_mul]; omega), hf, Nat.add_mul]
    rw [show n * s + 1 * s + j - s = n * s + j by omega]
    exact ih

def snC (p : SnD × Value) : List Value := [.int .i64 p.1.node, p.2]
theorem snC_len (p : SnD × Value) : (snC p).length = 2 := rfl
/-- sends in a row of one's own; their bytes lie in w -/
structure SrAt (w W : World) (base : Nat) (v : Value) (R : List (SnD × Value)) : Prop where
  row : W.ownsRow base 65 2 v R.length (R.flatMap snC)
  ms : ∀ p ∈ R, ∃ A m, p.2 = .slice A p.1.l.length m ∧ Bytes w A p.1.l
theorem SrAt.nil (w W : World) (base : Nat) : SrAt w W base (.slice none 0 0) [] := ⟨⟨rfl, .inl ⟨rfl, rfl⟩⟩, fun p hp => by cases hp⟩
theorem Bytes.stays {w W : World} {A : Option Addr} {l : List Nat} (h : Bytes w A l) (hb : ∀ j, j < w.heap.size → W.heap[j]? = w.heap[j]?) (hs : w.heap.size ≤ W.heap.size) : Bytes W A l :=
  ⟨h.1, h.2.imp id fun ⟨b, off, e, hlt, hc⟩ => ⟨b, off, e, Nat.lt_of_lt_of_le hlt hs, fun i hi => (World.cell?_of_block (a := ⟨b, off + i, none⟩) (hb b hlt)).trans (hc i hi)⟩⟩
theorem SrAt.to {w W : World} {base m : Nat} {A : Option Addr} {R : List (SnD × Value)} (h : SrAt w W base (.slice A R.length m) R) (hb : ∀ j, j < w.heap.size → W.heap[j]? = w.heap[j]?) (hs : w.heap.size ≤ W.heap.size) : SnAt W A (R.map Prod.fst) := by
  unfold SnAt Lies
  rw [List.length_map]
  rcases Nat.eq_zero_or_pos R.length with h0 | h0
  · exact .inl h0
  · obtain ⟨g, c, he, _, hg, _, _, hc⟩ := bow_open h.row h0
    cases he
    refine .inr ⟨g, 0, rfl, hg, fun i hi => ?_⟩
    obtain ⟨p, hp⟩ : ∃ p, R[i]? = some p := ⟨_, List.getElem?_eq_getElem hi⟩
    have hgi : (R.map Prod.fst).getD i default = p.1 := by rw [List.getD_eq_getElem?_getD, List.getElem?_map, hp]; rfl
    rw [hgi, Nat.zero_add]
    obtain ⟨B, m2, e, h1⟩ := h.ms p (List.mem_of_getElem? hp)
    refine ⟨hc (i * 2) _ (by rw [show i * 2 = i * 2 + 0 by rfl, bfm_at snC_len R i 0 p hp (by omega)]; rfl), B, m2, ?_, h1.stays hb hs⟩
    rw [hc (i * 2 + 1) p.2 (by rw [bfm_at snC_len R i 1 p hp (by omega)]; rfl), e]
theorem SrAt.more {w W W' : World} {base : Nat} {v v' : Value} {R : List (SnD × Value)} (h : SrAt w W base v R) (x : SnD) (val : Value) (how : W'.ownsRow base 65 2 v' (R.length + 1) (R.flatMap snC ++ [.int .i64 x.node, val])) (hx : ∃ A m, val = .slice A x.l.length m ∧ Bytes w A x.l) : SrAt w W' base v' (R ++ [(x, val)]) := by
  refine ⟨?_, fun p hp => ?_⟩
  · rw [List.length_append, List.flatMap_append]
    exact how
  · rcases List.mem_append.1 hp with hp | hp
    · exact h.ms p hp
    · obtain rfl := List.mem_singleton.1 hp
      exact hx
/-- whatever becomes of the bus's own block -/
theorem SrAt.kept {w W : World} {base m g : Nat} {A : Option Addr} {R : List (SnD × Value)} (h : SrAt w W base (.slice A R.length m) R) (hb : ∀ j, j < w.heap.size → W.heap[j]? = w.heap[j]?) (hs : w.heap.size ≤ W.heap.size) (hg : w.heap.size ≤ g) (hgb : g < base) : SnK W g A (R.map Prod.fst) := fun V hV => by
  have h2 : SrAt w V base (.slice A R.length m) R := ⟨bow_stands h.row fun k hk => hV.blk k (bow_block h.row hk).1 (by have := (bow_block h.row hk).2.1; omega), h.ms⟩
  exact h2.to (fun j hj => (hV.blk j (by omega) (by omega)).trans (hb j hj)) (Nat.le_trans hs hV.siz)
theorem CpAt.stays {w W : World} {A : Option Addr} {C : List CpD} (h : CpAt w A C) (hb : ∀ j, j < w.heap.size → W.heap[j]? = w.heap[j]?) (hs : w.heap.size ≤ W.heap.size) : CpAt W A C :=
  ⟨h.1, h.2.imp id fun ⟨b, off, e, hlt, hc⟩ => ⟨b, off, e, Nat.lt_of_lt_of_le hlt hs, fun i hi => by
    obtain ⟨x0, x1, x2⟩ := hc i hi
    exact ⟨(World.cell?_of_block (a := ⟨b, _, none⟩) (hb b hlt)).trans x0, (World.cell?_of_block (a := ⟨b, _, none⟩) (hb b hlt)).trans x1, (World.cell?_of_block (a := ⟨b, _, none⟩) (hb b hlt)).trans x2⟩⟩⟩
/-- i sends gone through: mine is among them, ahead of all others of mine -/
structure AccOk (o : Int) (own : List Nat) (i : Nat) (R : List (SnD × Value)) : Prop where
  len : R.length ≤ i + 1
  nil : i = 0 → R = []
  has : 0 < i → ∃ p, p < (R.map Prod.fst).length ∧ ((R.map Prod.fst).getD p default).node = o ∧ ((R.map Prod.fst).getD p default).l = own ∧ ∀ j, j < p → ((R.map Prod.fst).getD j default).node ≠ o
theorem acc_app {o : Int} {own : List Nat} {M : List SnD} (x : SnD) (h : ∃ p, p < M.length ∧ (M.getD p default).node = o ∧ (M.getD p default).l = own ∧ ∀ j, j < p → (M.getD j default).node ≠ o) :
    ∃ p, p < (M ++ [x]).length ∧ ((M ++ [x]).getD p default).node = o ∧ ((M ++ [x]).getD p default).l = own ∧ ∀ j, j < p → ((M ++ [x]).getD j default).node ≠ o := by
  obtain ⟨p, h1, h2, h3, h4⟩ := h
  have e : ∀ j, j < M.length → (M ++ [x]).getD j default = M.getD j default := fun j hj => by rw [List.getD_eq_getElem?_getD, List.getElem?_append_left hj, List.getD_eq_getElem?_getD]
  refine ⟨p, by rw [List.length_append]; omega, by rw [e p h1]; exact h2, by rw [e p h1]; exact h3, fun j hj => by rw [e j (by omega)]; exact h4 j hj⟩
theorem AccOk.zero (o : Int) (own : List Nat) : AccOk o own 0 [] := ⟨by simp, fun _ => rfl, fun h => by omega⟩
/-- others' first, mine behind -/
theorem AccOk.first (o : Int) (own : List Nat) (x : SnD) (v v' : Value) (h : x.node ≠ o) : AccOk o own 1 ([(x, v)] ++ [(⟨o, own⟩, v')]) :=
  ⟨by simp, fun h => by omega, fun _ => ⟨1, by simp, rfl, rfl, fun j hj => by rcases j with _ | j; exact h; omega⟩⟩
theorem AccOk.alone (o : Int) (own : List Nat) (v' : Value) (i : Nat) (h : 0 < i) : AccOk o own i [(⟨o, own⟩, v')] :=
  ⟨by simp, fun h => by omega, fun _ => ⟨0, by simp, rfl, rfl, fun j hj => by omega⟩⟩
theorem AccOk.app {o : Int} {own : List Nat} {i : Nat} {R : List (SnD × Value)} (h : AccOk o own i R) (hi : 0 < i) (x : SnD × Value) : AccOk o own (i + 1) (R ++ [x]) :=
  ⟨by rw [List.length_append]; have := h.len; simp; omega, fun h => by omega, fun _ => by rw [List.map_append]; exact acc_app x.1 (h.has hi)⟩
theorem AccOk.skip {o : Int} {own : List Nat} {i : Nat} {R : List (SnD × Value)} (h : AccOk o own i R) (hi : 0 < i) : AccOk o own (i + 1) R :=
  ⟨by have := h.len; omega, fun h => by omega, fun _ => h.has hi⟩
theorem info_send : (Tryd.prog.info? 65).map (fun i => (i.zero, i.size, i.bytes)) = some (some (.agg #[.int .i64 0, .slice none 0 0]), 2, 32) := by kernel_rfl
end Go.Proofs.YtbeggdahbhfhpaaDoor
