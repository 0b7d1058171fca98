/-
  Lists of numbers, one for each partition: made, and added to.
-/
import Derived.Test.YthngjegimecaaaaDoorRchA
import Derived.Laws.AppendOwn
import Derived.Laws.AppendOwnNone
import Derived.Laws.MakeOwn
namespace Go.Proofs.YthngjegimecaaaaDoor
open Go.RowKit Go.Deep
set_option linter.unusedVariables false
set_option linter.unusedSimpArgs false

def nxC (l : List Nat) : List Value := l.map fun q : Nat => Value.int .i64 (q : Int)
/-- a list of numbers in memory of one's own -/
def NxV (W : World) (base : Nat) (v : Value) (l : List Nat) : Prop := W.ownsRow base 3 1 v l.length (nxC l)
structure NxS (W : World) (base rb : Nat) (vs : List Value) (L : List (List Nat)) : Prop where
  blk : W.heap[rb]? = some (.cells vs.toArray 22 (0, 0))
  len : vs.length = L.length
  own : ∀ i, i < L.length → NxV W base (vs.getD i undef) (L.getD i [])
  apart : ∀ i j, i < L.length → j < L.length → i ≠ j → ∀ g, (vs.getD i undef).ownBlock = some g → (vs.getD j undef).ownBlock ≠ some g
  off : rb < base
theorem NxV.blk {W : World} {base : Nat} {v : Value} {l : List Nat} (h : NxV W base v l) {g : Nat} (hg : v.ownBlock = some g) : base ≤ g ∧ ∃ cur, W.heap[g]? = some (.cells cur 3 (0, 0)) := by
  rcases h.2 with ⟨rfl, _⟩ | ⟨g', cap, cur, rfl, h1, h2, _⟩
  · cases hg
  · simp [Value.ownBlock] at hg
    subst hg
    exact ⟨h1, cur, h2⟩
theorem NxV.kept {W W' : World} {base : Nat} {v : Value} {l : List Nat} (h : NxV W base v l) (hb : ∀ g, v.ownBlock = some g → W'.heap[g]? = W.heap[g]?) : NxV W' base v l := by
  refine ⟨h.1, ?_⟩
  rcases h.2 with h1 | ⟨g, cap, cur, rfl, h2, h3, h4⟩
  · exact .inl h1
  · exact .inr ⟨g, cap, cur, rfl, h2, (hb g rfl).trans h3, h4⟩
theorem NxS.below {W W' : World} {base rb : Nat} {vs : List Value} {L : List (List Nat)} (h : NxS W base rb vs L) (hb : Below W.heap.size W W') : NxS W' base rb vs L :=
  ⟨(hb.block _ (Array.getElem?_eq_some_iff.1 h.blk).1).trans h.blk, h.len, fun i hi => (h.own i hi).kept fun g hg => by
    obtain ⟨_, cur, h2⟩ := (h.own i hi).blk hg
    exact hb.block g (Array.getElem?_eq_some_iff.1 h2).1, h.apart, h.off⟩
theorem NxS.cell {W : World} {base rb : Nat} {vs : List Value} {L : List (List Nat)} (h : NxS W base rb vs L) {i : Nat} (hi : i < L.length) : W.cell? ⟨rb, i, none⟩ = some (vs.getD i undef) ∧ W.frozen? ⟨rb, i, none⟩ = false := by
  have hi' : i < vs.length := by rw [h.len]; exact hi
  refine ⟨?_, by simp [World.frozen?, h.blk]⟩
  simp only [World.cell?, h.blk]
  rw [List.getD_eq_getElem?_getD, List.getElem?_eq_getElem hi']
  simp [hi']

/-- one of them longer: its new slice, and the world behind the append and the store -/
theorem NxS.add {W W1 : World} {base rb : Nat} {vs : List Value} {L : List (List Nat)} (h : NxS W base rb vs L) {i : Nat} (hi : i < L.length) (s : List Nat) {v' : Value} (hr : NxV W1 base v' (L.getD i [] ++ s))
    (hg : W.grownBy W1 (vs.getD i undef).ownBlock) (hnew : ∀ g, v'.ownBlock = some g → (vs.getD i undef).ownBlock = some g ∨ W.heap.size ≤ g) :
    NxS (W1.setCell ⟨rb, i, none⟩ v') base rb (vs.set i v') (L.set i (L.getD i [] ++ s)) := by
  have hi' : i < vs.length := by rw [h.len]; exact hi
  have hrb := (Array.getElem?_eq_some_iff.1 h.blk).1
  have hold : ∀ k, k < W.heap.size → (vs.getD i undef).ownBlock ≠ some k → W1.heap[k]? = W.heap[k]? := fun k hk hne => hg.block k hk fun e => hne e.symm
  have hrb1 : W1.heap[rb]? = some (.cells vs.toArray 22 (0, 0)) := (hold rb hrb fun e => by have := ((h.own i hi).blk e).1; have := h.off; omega).trans h.blk
  have hset : ∀ k, k ≠ rb → (W1.setCell ⟨rb, i, none⟩ v').heap[k]? = W1.heap[k]? := fun k hk => by
    simp only [World.setCell, Array.getElem?_modify]
    rw [if_neg (fun e => hk e.symm)]
  have vget : ∀ j, (vs.set i v').getD j undef = if j = i then v' else vs.getD j undef := fun j => by
    simp only [List.getD_eq_getElem?_getD, List.getElem?_set]
    by_cases e : i = j
    · subst e; simp [hi']
    · rw [if_neg e, if_neg (fun x => e x.symm)]
  have lget : ∀ j, (L.set i (L.getD i [] ++ s)).getD j [] = if j = i then L.getD i [] ++ s else L.getD j [] := fun j => by
    simp only [List.getD_eq_getElem?_getD, List.getElem?_set]
    by_cases e : i = j
    · subst e; simp [hi]
    · rw [if_neg e, if_neg (fun x => e x.symm)]
  refine ⟨?_, by simp [h.len], fun j hj => ?_, fun j k hj hk hjk g h1 h2 => ?_, h.off⟩
  · simp only [World.setCell, Array.getElem?_modify, if_true, hrb1, Option.map_some]
    congr 2
    apply Array.ext'
    simp
  · simp only [List.length_set] at hj
    rw [vget, lget]
    by_cases e : j = i
    · rw [if_pos e, if_pos e]
      exact hr.kept fun g hg' => hset g fun e' => by have := (hr.blk hg').1; have := h.off; omega
    · rw [if_neg e, if_neg e]
      refine (h.own j hj).kept fun g hg' => ?_
      obtain ⟨b1, cur, b2⟩ := (h.own j hj).blk hg'
      rw [hset g (by have := h.off; omega)]
      exact hold g (Array.getElem?_eq_some_iff.1 b2).1 fun e' => h.apart i j hi hj (fun x => e x.symm) g e' hg'
  · simp only [List.length_set] at hj hk
    rw [vget] at h1 h2
    by_cases e1 : j = i <;> by_cases e2 : k = i
    · exact hjk (e1.trans e2.symm)
    · rw [if_pos e1] at h1
      rw [if_neg e2] at h2
      obtain ⟨_, cur, b2⟩ := (h.own k hk).blk h2
      rcases hnew g h1 with a | a
      · exact h.apart i k hi hk (fun x => e2 x.symm) g a h2
      · have := (Array.getElem?_eq_some_iff.1 b2).1; omega
    · rw [if_neg e1] at h1
      rw [if_pos e2] at h2
      obtain ⟨_, cur, b2⟩ := (h.own j hj).blk h1
      rcases hnew g h2 with a | a
      · exact h.apart i j hi hj (fun x => e1 x.symm) g a h1
      · have := (Array.getElem?_eq_some_iff.1 b2).1; omega
    · rw [if_neg e1] at h1
      rw [if_neg e2] at h2
      exact h.apart j k hj hk hjk g h1 h2

theorem NxV.cells {W : World} {base : Nat} {v : Value} {l : List Nat} (h : NxV W base v l) : ∃ A ci, v = .slice A l.length ci ∧ (l = [] ∨ ∃ g, A = some ⟨g, 0, none⟩ ∧ base ≤ g ∧ g < W.heap.size ∧ ∀ k, k < l.length → W.cell? ⟨g, k, none⟩ = some (.int .i64 ((l.getD k 0 : Nat) : Int))) := by
  rcases h.2 with ⟨rfl, h1⟩ | ⟨g, cap, cur, rfl, h2, h3, h4, h5, h6, h7⟩
  · exact ⟨none, 0, by rw [h1], .inl (List.length_eq_zero_iff.1 h1)⟩
  · refine ⟨_, cap, rfl, .inr ⟨g, rfl, h2, (Array.getElem?_eq_some_iff.1 h3).1, fun k hk => ?_⟩⟩
    rw [cell_of_row _ _ _ _ _ _ h3]
    have h8 : (nxC l)[k]? = some (.int .i64 ((l.getD k 0 : Nat) : Int)) := by
      unfold nxC
      rw [List.getElem?_map, List.getElem?_eq_getElem hk, List.getD_eq_getElem?_getD, List.getElem?_eq_getElem hk]
      rfl
    rw [← h7, List.getElem?_take_of_lt (by omega), Array.getElem?_toList] at h8
    exact h8
theorem info_nrow : (Tryd.prog.info? 22).map (fun i => (i.zero, i.size, i.bytes)) = some (some (.slice none 0 0), 1, 24) := by kernel_rfl
theorem info_nnum : (Tryd.prog.info? 3).map (fun i => (i.zero, i.size, i.bytes)) = some (some (.int .i64 0), 1, 8) := by kernel_rfl
def nilsA (n : Nat) : Array Value := (List.replicate n (Value.slice none 0 0)).toArray
theorem make_nx (n : Nat) (hn : n ≤ 100000) (W : World) : (Instr.makeSlice 24 (.int .i64 (n : Int)) (.int .i64 (n : Int))).run Tryd.prog W = .ok (.slice (some ⟨W.heap.size, 0, none⟩) n n) (W.alloc (.cells (nilsA n) 22)) := by
  have hi3 := info_nrow
  rcases hi : Tryd.prog.info? 22 with _ | i
  · rw [hi] at hi3; cases hi3
  rw [hi] at hi3
  simp only [Option.map_some, Option.some.injEq, Prod.mk.injEq] at hi3
  obtain ⟨hz, hs2, hb⟩ := hi3
  have hm := run_make (P := Tryd.prog) W 24 22 i (.slice none 0 0) Tryd.underlying24 hi hz .i64 .i64 (n : Int) (n : Int) (by omega) (by omega) (by rw [hb]; omega) (by omega)
  rw [hm]
  have e : madeCells (Value.slice none 0 0).cells n = nilsA n := by
    unfold nilsA
    apply Array.ext_getElem?
    intro j
    by_cases hj : j < n
    · simp [madeCells, Value.cells, hj, Nat.mod_one]
    · simp [madeCells, hj]
  simp [hs2, e]
theorem nx_new (c : Conf) (W : World) : NxS (W.alloc (.cells (nilsA c.parts.length) 22)) (W.heap.size + 1) W.heap.size (List.replicate c.parts.length (.slice none 0 0)) (nextF c []) := by
  have hv : ∀ i, i < c.parts.length → (List.replicate c.parts.length (Value.slice none 0 0)).getD i undef = .slice none 0 0 := fun i hi => by simp [List.getD_eq_getElem?_getD, hi]
  refine ⟨heap_alloc_new W _, by simp [nextF_len], fun i hi => ?_, fun i j hi hj _ g h1 => ?_, by omega⟩
  · rw [nextF_len] at hi
    rw [hv i hi, nextF_nil]
    exact ⟨rfl, .inl ⟨rfl, rfl⟩⟩
  · rw [nextF_len] at hi
    rw [hv i hi] at h1
    cases h1
/-- append of a row of numbers, none or some -/
theorem wpList_rows {ops : Array Oper} {rest : List Oper} {o : Oper} {a : Act} {Q : Exit → Act → World → Prop} (w : World) (hgd : o.guard = none) (s x : Operand)
    (ho : o.op = .call { callee := .builtin .append, args := #[s, x], argTypes := #[22, 22] })
    (base : Nat) (v : Value) (l t : List Nat) (hs : a.eval s = v) (hown : NxV w base v l) (b2 : Nat) (vt : Value) (hx : a.eval x = vt) (ht : NxV w b2 vt t) (hnil : t = [] → vt = .slice none 0 0) (hn : l.length + t.length ≤ 1000000) (hbase : base ≤ w.heap.size)
    (h : ∀ v' w', NxV w' base v' (l ++ t) → w.grownBy w' v.ownBlock → (v'.ownBlock = v.ownBlock ∨ ∀ k, v'.ownBlock = some k → w.heap.size ≤ k) → wpList Tryd.prog ops Q rest (a.put o.dst v') w') :
    wpList Tryd.prog ops Q (o :: rest) a w := by
  have hi3 := info_nnum
  rcases hi' : Tryd.prog.info? 3 with _ | i
  · rw [hi'] at hi3; cases hi3
  rw [hi'] at hi3
  simp only [Option.map_some, Option.some.injEq, Prod.mk.injEq] at hi3
  obtain ⟨hz, hs1, hb⟩ := hi3
  rcases ht.2 with ⟨rfl, h0⟩ | ⟨g, cap, cur, rfl, h2, h3, h4, h5, h6, h7⟩
  · obtain rfl := List.length_eq_zero_iff.1 h0
    refine wpList_append_own_none hgd s x _ ho base 3 i 1 Tryd.underlying22 hi' v l.length (nxC l) hs hown hx ?_
    exact h v w (by rw [List.append_nil]; exact hown) ⟨rfl, rfl, rfl, Nat.le_refl _, fun _ _ _ => rfl⟩ (.inl rfl)
  · rcases Nat.eq_zero_or_pos t.length with h0 | h0
    · cases hnil (List.length_eq_zero_iff.1 h0)
    · have hnews : ∀ (j : Nat) (u : Value), (nxC t)[j]? = some u → w.cell? ((⟨g, 0, none⟩ : Addr).add j) = some u := fun j u hu => by
        rw [plain_add, Nat.zero_add, cell_of_row _ _ _ _ _ _ h3]
        rw [← h7, List.getElem?_take] at hu
        split at hu
        · simpa using hu
        · cases hu
      have hone : ∀ u ∈ nxC t, u.oneCell' = true := fun u hu => by
        obtain ⟨q, _, rfl⟩ := List.mem_map.1 hu
        rfl
      obtain ⟨v', w', hr, h2', h3', _⟩ := run_append_own (P := Tryd.prog) w base 22 o.type 3 i _ 1 8 Tryd.underlying22 hi' hz hs1 hb rfl (by omega) v l.length (nxC l) hown ⟨g, 0, none⟩ t.length cap (nxC t) (by simp [nxC]) hnews hone (by simp only [maxLen]; omega) (by omega) hbase
      have h4' := app_where base 22 o.type 3 i _ 1 Tryd.underlying22 hi' hz hs1 v l.length (nxC l) hown ⟨g, 0, none⟩ t.length cap (nxC t) (by simp [nxC]) hnews hone h0 (by simp only [maxLen]; omega) (by rw [hb]; omega) hr
      refine wpList_plain hgd fun _ hK => ?_
      unfold Oper.wp execOp
      simp only [ho, resolve, invoke, builtin, Sem.run_bind, Sem.run_pure, Result.andThen_ok, List.map_toArray, List.map_cons, List.map_nil, hs, hx, hr]
      refine hK _ _ (h v' w' ?_ h3' h4')
      unfold NxV
      rw [List.length_append, show nxC (l ++ t) = nxC l ++ nxC t by simp [nxC]]
      exact h2'
end Go.Proofs.YthngjegimecaaaaDoor
