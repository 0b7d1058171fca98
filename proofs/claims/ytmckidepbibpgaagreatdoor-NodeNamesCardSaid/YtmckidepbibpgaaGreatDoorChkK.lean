/-
  Lists of spans, one for each node: made, and added to.
-/
import Derived.Test.YtmckidepbibpgaaGreatDoorChkJ
import Derived.Laws.AppendOwn
import Derived.Laws.MakeOwn
namespace Go.Proofs.YtmckidepbibpgaaGreatDoor
open Go.RowKit Go.Deep
set_option linter.unusedVariables false

def spCells (l : List Sp) : List Value := l.flatMap fun s => [.int .i64 s.lo, .int .i64 s.hi]
theorem spCells_len (l : List Sp) : (spCells l).length = l.length * 2 := by
  induction l with
  | nil => rfl
  | cons s l ih => simp only [spCells, List.flatMap_cons, List.length_append, List.length_cons, List.length_nil]; unfold spCells at ih; omega
theorem spCells_at (l : List Sp) : ∀ k, k < l.length → (spCells l)[k * 2]? = some (.int .i64 (l.getD k default).lo) ∧ (spCells l)[k * 2 + 1]? = some (.int .i64 (l.getD k default).hi) := by
  induction l with
  | nil => intro k h; simp at h
  | cons s l ih =>
    intro k h
    unfold spCells at ih ⊢
    rw [List.flatMap_cons]
    cases k with
    | zero => exact ⟨rfl, rfl⟩
    | succ k =>
      have := ih k (by simpa using h)
      rw [show (k + 1) * 2 = k * 2 + 2 by omega, show (s :: l).getD (k + 1) default = l.getD k default by simp]
      exact this
/-- a list of spans in memory of one's own -/
def RowV (W : World) (base : Nat) (v : Value) (l : List Sp) : Prop := W.ownsRow base 321 2 v l.length (spCells l)

structure RowsS (W : World) (base rb : Nat) (vs : List Value) (L : List (List Sp)) : Prop where
  blk : W.heap[rb]? = some (.cells vs.toArray 319 (0, 0))
  len : vs.length = L.length
  own : ∀ i, i < L.length → RowV W base (vs.getD i undef) (L.getD i [])
  apart : ∀ i j, i < L.length → j < L.length → i ≠ j → ∀ g, (vs.getD i undef).ownBlock = some g → (vs.getD j undef).ownBlock ≠ some g
  off : rb < base

theorem RowV.blk {W : World} {base : Nat} {v : Value} {l : List Sp} (h : RowV W base v l) {g : Nat} (hg : v.ownBlock = some g) : base ≤ g ∧ ∃ cur, W.heap[g]? = some (.cells cur 321 (0, 0)) := by
  rcases h.2 with ⟨rfl, _⟩ | ⟨g', cap, cur, rfl, h1, h2, _⟩
  · cases hg
  · simp [Value.ownBlock] at hg
    subst hg
    exact ⟨h1, cur, h2⟩
theorem RowV.kept {W W' : World} {base : Nat} {v : Value} {l : List Sp} (h : RowV W base v l) (hb : ∀ g, v.ownBlock = some g → W'.heap[g]? = W.heap[g]?) : RowV W' base v l := by
  refine ⟨h.1, ?_⟩
  rcases h.2 with h1 | ⟨g, cap, cur, rfl, h2, h3, h4⟩
  · exact .inl h1
  · exact .inr ⟨g, cap, cur, rfl, h2, (hb g rfl).trans h3, h4⟩
theorem RowV.spans {W : World} {base : Nat} {v : Value} {l : List Sp} (h : RowV W base v l) : ∃ A ci, v = .slice A l.length ci ∧ l.length ≤ ci ∧ ci ≤ maxLen ∧ Spans W A l := by
  rcases h.2 with ⟨rfl, h1⟩ | ⟨g, cap, cur, rfl, h2, h3, h4, h5, h6, h7⟩
  · exact ⟨none, 0, by rw [h1], by omega, Nat.zero_le _, .inl h1⟩
  · refine ⟨_, cap, rfl, h4, h5, .inr ⟨g, 0, rfl, (Array.getElem?_eq_some_iff.1 h3).1, fun i hi => ?_⟩⟩
    obtain ⟨a, b⟩ := spCells_at l i hi
    rw [← h7, List.getElem?_take] at a b
    rw [if_pos (by omega)] at a b
    have hc : ∀ o, W.cell? ⟨g, o, none⟩ = cur[o]? := fun o => by simp [World.cell?, h3]
    rw [hc, hc, Nat.zero_add]
    exact ⟨by simpa using a, by simpa using b⟩
theorem RowsS.rows {W : World} {base rb : Nat} {vs : List Value} {L : List (List Sp)} (h : RowsS W base rb vs L) : SpRows W (some ⟨rb, 0, none⟩) L := by
  refine .inr ⟨rb, 0, rfl, (Array.getElem?_eq_some_iff.1 h.blk).1, fun i hi => ?_⟩
  obtain ⟨A, ci, h1, h2, h3, h4⟩ := (h.own i hi).spans
  refine ⟨A, ci, ?_, h2, h3, h4⟩
  have hi' : i < vs.length := by rw [h.len]; exact hi
  have hv : vs[i]? = some (vs.getD i undef) := by rw [List.getD_eq_getElem?_getD, List.getElem?_eq_getElem hi']; rfl
  simp only [Nat.zero_add, Nat.mul_one, World.cell?, h.blk]
  rw [← h1]
  simpa using hv
theorem RowsS.below {W W' : World} {base rb : Nat} {vs : List Value} {L : List (List Sp)} (h : RowsS W base rb vs L) (hb : Below W.heap.size W W') : RowsS W' base rb vs L :=
  ⟨(hb.block _ (Array.getElem?_eq_some_iff.1 h.blk).1).trans h.blk, h.len, fun i hi => (h.own i hi).kept fun g hg => by
    obtain ⟨_, cur, h2⟩ := (h.own i hi).blk hg
    exact hb.block g (Array.getElem?_eq_some_iff.1 h2).1, h.apart, h.off⟩
theorem RowsS.cell {W : World} {base rb : Nat} {vs : List Value} {L : List (List Sp)} (h : RowsS W base rb vs L) {i : Nat} (hi : i < L.length) : W.cell? ⟨rb, i, none⟩ = some (vs.getD i undef) ∧ W.frozen? ⟨rb, i, none⟩ = false := by
  have hi' : i < vs.length := by rw [h.len]; exact hi
  refine ⟨?_, by simp [World.frozen?, h.blk]⟩
  simp only [World.cell?, h.blk]
  rw [List.getD_eq_getElem?_getD, List.getElem?_eq_getElem hi']
  simp [hi']

/-- one of them longer: its new slice, and the world behind the append and the store -/
theorem RowsS.add {W W1 : World} {base rb : Nat} {vs : List Value} {L : List (List Sp)} (h : RowsS W base rb vs L) {i : Nat} (hi : i < L.length) (s : Sp) {v' : Value} (hr : RowV W1 base v' (L.getD i [] ++ [s]))
    (hg : W.grownBy W1 (vs.getD i undef).ownBlock) (hnew : ∀ g, v'.ownBlock = some g → (vs.getD i undef).ownBlock = some g ∨ W.heap.size ≤ g) :
    RowsS (W1.setCell ⟨rb, i, none⟩ v') base rb (vs.set i v') (L.set i (L.getD i [] ++ [s])) := by
  have hi' : i < vs.length := by rw [h.len]; exact hi
  have hrb := (Array.getElem?_eq_some_iff.1 h.blk).1
  have hold : ∀ k, k < W.heap.size → (vs.getD i undef).ownBlock ≠ some k → W1.heap[k]? = W.heap[k]? := fun k hk hne => hg.block k hk fun e => hne e.symm
  have hrb1 : W1.heap[rb]? = some (.cells vs.toArray 319 (0, 0)) := (hold rb hrb fun e => by have := ((h.own i hi).blk e).1; have := h.off; omega).trans h.blk
  have hset : ∀ k, k ≠ rb → (W1.setCell ⟨rb, i, none⟩ v').heap[k]? = W1.heap[k]? := fun k hk => by
    simp only [World.setCell, Array.getElem?_modify]
    rw [if_neg (fun e => hk e.symm)]
  have vget : ∀ j, (vs.set i v').getD j undef = if j = i then v' else vs.getD j undef := fun j => by
    simp only [List.getD_eq_getElem?_getD, List.getElem?_set]
    by_cases e : i = j
    · subst e; simp [hi']
    · rw [if_neg e, if_neg (fun x => e x.symm)]
  have lget : ∀ j, (L.set i (L.getD i [] ++ [s])).getD j [] = if j = i then L.getD i [] ++ [s] else L.getD j [] := fun j => by
    simp only [List.getD_eq_getElem?_getD, List.getElem?_set]
    by_cases e : i = j
    · subst e; simp [hi]
    · rw [if_neg e, if_neg (fun x => e x.symm)]
  refine ⟨?_, by simp [h.len], fun j hj => ?_, fun j k hj hk hjk g h1 h2 => ?_, h.off⟩
  · simp only [World.setCell, Array.getElem?_modify, if_true, hrb1, Option.map_some]
    congr 2
    apply Array.ext'
    simp
  · simp only [List.length_set] at hj
    rw [vget, lget]
    by_cases e : j = i
    · rw [if_pos e, if_pos e]
      exact hr.kept fun g hg' => hset g fun e' => by have := (hr.blk hg').1; have := h.off; omega
    · rw [if_neg e, if_neg e]
      refine (h.own j hj).kept fun g hg' => ?_
      obtain ⟨b1, cur, b2⟩ := (h.own j hj).blk hg'
      rw [hset g (by have := h.off; omega)]
      exact hold g (Array.getElem?_eq_some_iff.1 b2).1 fun e' => h.apart i j hi hj (fun x => e x.symm) g e' hg'
  · simp only [List.length_set] at hj hk
    rw [vget] at h1 h2
    by_cases e1 : j = i <;> by_cases e2 : k = i
    · exact hjk (e1.trans e2.symm)
    · rw [if_pos e1] at h1
      rw [if_neg e2] at h2
      obtain ⟨_, cur, b2⟩ := (h.own k hk).blk h2
      rcases hnew g h1 with a | a
      · exact h.apart i k hi hk (fun x => e2 x.symm) g a h2
      · have := (Array.getElem?_eq_some_iff.1 b2).1; omega
    · rw [if_neg e1] at h1
      rw [if_pos e2] at h2
      obtain ⟨_, cur, b2⟩ := (h.own j hj).blk h1
      rcases hnew g h2 with a | a
      · exact h.apart i j hi hj (fun x => e1 x.symm) g a h1
      · have := (Array.getElem?_eq_some_iff.1 b2).1; omega
    · rw [if_neg e1] at h1
      rw [if_neg e2] at h2
      exact h.apart j k hj hk hjk g h1 h2
end Go.Proofs.YtmckidepbibpgaaGreatDoor
