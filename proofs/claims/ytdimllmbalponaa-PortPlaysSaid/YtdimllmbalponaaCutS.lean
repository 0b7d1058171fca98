/-
  A slice of the call's own whose front is cut off; one byte put behind it.
-/
import Derived.Test.YtdimllmbalponaaBase
import Derived.Deep.Upon
namespace Go.Proofs.Ytdimllmbalponaa
open Go.RowKit Go.Shelf
set_option linter.unusedVariables false

/-- a slice of bytes, of the call's own, that begins anywhere in its block -/
structure CutB (w : World) (base : Nat) (v : Value) (l : List Nat) : Prop where
  lt : ∀ x ∈ l, x < 256
  is : (v = .slice none 0 0 ∧ l = []) ∨ ∃ g off c cur, v = .slice (some ⟨g, off, none⟩) l.length c ∧ base ≤ g ∧ w.heap[g]? = some (.cells cur 5 (0, 0)) ∧ l.length ≤ c ∧ c ≤ maxLen ∧ off + c ≤ cur.size ∧ ∀ j, j < l.length → cur[off + j]? = some (.int .u8 ((l.getD j 0 : Nat) : Int))
theorem CutB.nil (w : World) (base : Nat) : CutB w base (.slice none 0 0) [] := ⟨by simp, .inl ⟨rfl, rfl⟩⟩
theorem CutB.kept {w w' : World} {base : Nat} {v : Value} {l : List Nat} (h : CutB w base v l) (hb : ∀ g, v.ownBlock = some g → w'.heap[g]? = w.heap[g]?) : CutB w' base v l := by
  refine ⟨h.lt, ?_⟩
  rcases h.is with h1 | ⟨g, off, c, cur, rfl, h2, h3, h4⟩
  · exact .inl h1
  · exact .inr ⟨g, off, c, cur, rfl, h2, (hb g rfl).trans h3, h4⟩
theorem CutB.blk {w : World} {base : Nat} {v : Value} {l : List Nat} (h : CutB w base v l) {g : Nat} (hg : v.ownBlock = some g) : g < w.heap.size ∧ base ≤ g ∧ ∃ cur, w.heap[g]? = some (.cells cur 5 (0, 0)) := by
  rcases h.is with ⟨rfl, _⟩ | ⟨g', off, c, cur, rfl, h2, h3, h4⟩
  · cases hg
  · simp [Value.ownBlock] at hg
    subst hg
    exact ⟨(Array.getElem?_eq_some_iff.1 h3).1, h2, cur, h3⟩
theorem CutB.later {w w' : World} {base : Nat} {v : Value} {l : List Nat} (h : CutB w base v l) (hb : Below w.heap.size w w') : CutB w' base v l := h.kept fun g hg => hb.block g (h.blk hg).1
theorem CutB.len {w : World} {base : Nat} {v : Value} {l : List Nat} (h : CutB w base v l) : ∃ A c, v = .slice A l.length c ∧ l.length ≤ c ∧ c ≤ maxLen := by
  rcases h.is with ⟨rfl, rfl⟩ | ⟨g, off, c, cur, rfl, h2, h3, h4, h5, _⟩
  · exact ⟨none, 0, rfl, Nat.le_refl _, Nat.zero_le _⟩
  · exact ⟨_, c, rfl, h4, h5⟩
theorem getD_cons_succ (x : Nat) (l : List Nat) (j : Nat) : (x :: l).getD (j + 1) 0 = l.getD j 0 := by simp [List.getD_eq_getElem?_getD]
/-- one that is not empty: where it lies, and what is left of it -/
theorem CutB.uncons {w : World} {base : Nat} {v : Value} {x : Nat} {l : List Nat} (h : CutB w base v (x :: l)) :
    ∃ g off c, v = .slice (some ⟨g, off, none⟩) (l.length + 1) c ∧ l.length + 1 ≤ c ∧ c ≤ maxLen ∧ x < 256 ∧ w.cell? ⟨g, off, none⟩ = some (.int .u8 (x : Int)) ∧ CutB w base (.slice (if c = 1 then some ⟨g, off, none⟩ else some ⟨g, off + 1, none⟩) l.length (c - 1)) l := by
  rcases h.is with ⟨_, h1⟩ | ⟨g, off, c, cur, rfl, h2, h3, h4, h5, h6, h7⟩
  · cases h1
  · simp only [List.length_cons] at h4 h7
    refine ⟨g, off, c, by simp, h4, h5, h.lt x (by simp), ?_, ⟨fun y hy => h.lt y (by simp [hy]), .inr ?_⟩⟩
    · have h8 := h7 0 (by omega)
      rw [cell_of_row _ _ _ _ _ _ h3]
      simpa using h8
    · by_cases hc : c = 1
      · subst hc
        rw [if_pos rfl]
        refine ⟨g, off, 0, cur, by simp, h2, h3, by omega, by omega, by omega, fun j hj => by omega⟩
      · rw [if_neg hc]
        refine ⟨g, off + 1, c - 1, cur, rfl, h2, h3, by omega, by omega, by omega, fun j hj => ?_⟩
        have h8 := h7 (j + 1) (by omega)
        rw [getD_cons_succ] at h8
        rw [show off + 1 + j = off + (j + 1) by omega]
        exact h8
theorem getD_snoc (l : List Nat) (u j : Nat) : (l ++ [u]).getD j 0 = if j < l.length then l.getD j 0 else if j = l.length then u else 0 := by
  by_cases h : j < l.length
  · simp [List.getD_eq_getElem?_getD, h, List.getElem?_append_left h]
  · rw [if_neg h, List.getD_eq_getElem?_getD, List.getElem?_append_right (by omega)]
    by_cases h2 : j = l.length
    · subst h2; simp
    · rw [if_neg h2]
      rw [List.getElem?_eq_none (by simp; omega)]
      rfl
theorem run_cut_append {w : World} {base : Nat} {v : Value} {l : List Nat} (h : CutB w base v l) (ty : TypeId) (q c u : Nat) (hu : u < 256) (hq : w.cell? ⟨q, 0, none⟩ = some (.int .u8 (u : Int))) (hn : l.length ≤ 1000000) (hbase : base ≤ w.heap.size) :
    ∃ v' w', (Builtin.append_ #[37, 37] ty #[v, .slice (some ⟨q, 0, none⟩) 1 c]).run Try.prog w = .ok v' w' ∧ CutB w' base v' (l ++ [u]) ∧ w.grownBy w' v.ownBlock ∧ (v'.ownBlock = v.ownBlock ∨ ∀ k, v'.ownBlock = some k → w.heap.size ≤ k) := by
  obtain ⟨i, hi, hz, hs1, hb⟩ := info_parts info_u8
  have hlt : ∀ x ∈ l ++ [u], x < 256 := by
    intro x hx
    rcases List.mem_append.1 hx with hx | hx
    · exact h.lt x hx
    · rw [List.mem_singleton.1 hx]; exact hu
  have hsrc : Src Try.prog i.size 37 (.slice (some ⟨q, 0, none⟩) 1 c) 1 [.int .u8 (u : Int)] w := by
    refine Src.ofSlice w Try.underlying37 ⟨q, 0, none⟩ 1 c _ (by simp [hs1]) ?_ (by simp [Value.oneCell'])
    intro j y hy
    rcases j with _ | j
    · injection hy with hy; subst hy
      rw [show (⟨q, 0, none⟩ : Addr).add 0 = ⟨q, 0, none⟩ by unfold Addr.add; split <;> simp_all]; exact hq
    · simp at hy
  -- a new block
  have new : ∀ (olds : List Value) (sCap : Nat), olds = l.map (fun x : Nat => Value.int .u8 (x : Int)) → l.length ≤ sCap → sCap < l.length + 1 →
      CutB (w.drew.alloc (.cells ((olds ++ [Value.int .u8 (u : Int)]).toArray ++ Builtin.zeroCells (Value.int .u8 0).cells (grownCap w (l.length + 1) sCap 5 - (l.length + 1))) 5)) base (.slice (some ⟨w.heap.size, 0, none⟩) (l.length + 1) (grownCap w (l.length + 1) sCap 5)) (l ++ [u]) := by
    intro olds sCap ho h1 h2
    have hge := grownCap_ge w (l.length + 1) sCap 5
    have hcm : grownCap w (l.length + 1) sCap 5 ≤ maxLen := grownCap_le_maxLen w _ _ _ (by simp only [maxLen]; omega)
    have hol : olds.length = l.length := by rw [ho]; simp
    refine ⟨hlt, .inr ⟨w.heap.size, 0, _, _, by simp, hbase, heap_alloc_new w.drew _, by simpa using hge, hcm, ?_, ?_⟩⟩
    · simp only [Array.size_append, List.size_toArray, List.length_append, size_zeroCells, hol, List.length_cons, List.length_nil]
      have : (Value.int .u8 0).cells.size = 1 := rfl
      rw [this]; omega
    · intro j hj
      simp only [List.length_append, List.length_cons, List.length_nil, Nat.zero_add] at hj
      rw [Nat.zero_add, Array.getElem?_append_left (by simp [hol]; omega), ho]
      simp only [List.getElem?_toArray]
      rw [getD_snoc]
      by_cases hj2 : j < l.length
      · rw [if_pos hj2, List.getElem?_append_left (by simpa using hj2), List.getElem?_map, List.getElem?_eq_getElem hj2, List.getD_eq_getElem?_getD, List.getElem?_eq_getElem hj2]
        rfl
      · obtain rfl : j = l.length := by omega
        rw [if_neg (by omega), if_pos rfl, List.getElem?_append_right (by simp)]
        simp
  rcases h.is with ⟨rfl, rfl⟩ | ⟨g, off, cp, cur, rfl, h2, h3, h4, h5, h6, h7⟩
  · have hr := run_append_grow_src (P := Try.prog) w 37 37 ty 5 i (.int .u8 0) Try.underlying37 hi hz none 0 0 [] (run_firstCells_none w.drew _ 0 0 0) _ 1 _ hsrc (by omega) (by decide) (growslice_fits (by omega) (by rw [hb]; decide))
    exact ⟨_, _, hr, new [] 0 rfl (Nat.le_refl _) (by simp), ⟨rfl, rfl, rfl, by simp, fun k hk _ => heap_alloc_old w.drew _ hk⟩, .inr (by intro k hk; simp only [Value.ownBlock, Option.some.injEq] at hk; omega)⟩
  · by_cases hroom : l.length + 1 ≤ cp
    · have hr := run_append_room_src (P := Try.prog) w 37 37 ty 5 i Try.underlying37 hi g off l.length cp _ 1 _ hsrc hroom
        (by
          intro j hj
          simp only [List.length_cons, List.length_nil] at hj
          rw [hs1, cell_of_row _ _ _ _ _ _ h3]
          rw [Array.getElem?_eq_getElem (by omega)]; rfl)
        (by intro j hj; unfold World.frozen?; rw [h3]; simp)
      have hw : w.setCells g (off + l.length * i.size) [.int .u8 (u : Int)] = w.setCell ⟨g, off + l.length, none⟩ (.int .u8 (u : Int)) := by rw [hs1, Nat.mul_one]; rfl
      rw [hw] at hr
      refine ⟨_, _, hr, ⟨hlt, .inr ⟨g, off, cp, cur.setIfInBounds (off + l.length) (.int .u8 (u : Int)), by simp, h2, setCell_row h3, by simpa using hroom, h5, by simpa using h6, ?_⟩⟩, ⟨rfl, rfl, rfl, ?_, fun k _ hk => heap_setCell_other _ _ _ _ (fun e => hk (by simp [Value.ownBlock, e]))⟩, .inl rfl⟩
      · intro j hj
        simp only [List.length_append, List.length_cons, List.length_nil, Nat.zero_add] at hj
        rw [getD_snoc]
        by_cases hj2 : j < l.length
        · rw [if_pos hj2, Array.getElem?_setIfInBounds, if_neg (by omega)]
          exact h7 j hj2
        · obtain rfl : j = l.length := by omega
          rw [if_neg (by omega), if_pos rfl, Array.getElem?_setIfInBounds, if_pos rfl, if_pos (by omega)]
      · show _ ≤ (w.heap.modify _ _).size
        rw [Array.size_modify]; exact Nat.le_refl _
    · have hold : (Builtin.firstCells i.size l.length (.slice (some ⟨g, off, none⟩) l.length cp)).run Try.prog w.drew = .ok (l.map fun x : Nat => Value.int .u8 (x : Int)).toArray w.drew := by
        refine run_firstCells_some w.drew i.size l.length ⟨g, off, none⟩ l.length cp _ (by simp [hs1]) ?_
        intro j y hy
        have hj : j < l.length := by
          rcases Nat.lt_or_ge j l.length with h | h
          · exact h
          · rw [List.getElem?_eq_none (by simpa using h)] at hy; cases hy
        rw [List.getElem?_map, List.getElem?_eq_getElem hj] at hy
        rw [Option.map_some] at hy
        rw [← hy, show (⟨g, off, none⟩ : Addr).add j = ⟨g, off + j, none⟩ by unfold Addr.add; split <;> simp_all]
        show w.cell? _ = _
        rw [cell_of_row _ _ _ _ _ _ h3, h7 j hj, List.getD_eq_getElem?_getD, List.getElem?_eq_getElem hj]
        rfl
      have hr := run_append_grow_src (P := Try.prog) w 37 37 ty 5 i (.int .u8 0) Try.underlying37 hi hz (some ⟨g, off, none⟩) l.length cp _ hold _ 1 _ hsrc (by omega) (by omega) (growslice_fits (by omega) (by rw [hb]; omega))
      exact ⟨_, _, hr, new _ cp rfl h4 (by omega), ⟨rfl, rfl, rfl, by simp, fun k hk _ => heap_alloc_old w.drew _ hk⟩, .inr (by intro k hk; simp only [Value.ownBlock, Option.some.injEq] at hk; omega)⟩
theorem wpList_cut_append {ops : Array Oper} {rest : List Oper} {o : Oper} {a : Act} {w : World} {Q : Exit → Act → World → Prop} (hgd : o.guard = none) (s x : Operand)
    (ho : o.op = .call { callee := .builtin .append, args := #[s, x], argTypes := #[37, 37] })
    (base : Nat) (v : Value) (l : List Nat) (hs : a.eval s = v) (hown : CutB w base v l) (q c u : Nat) (hx : a.eval x = .slice (some ⟨q, 0, none⟩) 1 c) (hu : u < 256) (hq : w.cell? ⟨q, 0, none⟩ = some (.int .u8 (u : Int))) (hn : l.length ≤ 1000000) (hbase : base ≤ w.heap.size)
    (h : ∀ v' w', CutB w' base v' (l ++ [u]) → w.grownBy w' v.ownBlock → (v'.ownBlock = v.ownBlock ∨ ∀ k, v'.ownBlock = some k → w.heap.size ≤ k) → wpList Try.prog ops Q rest (a.put o.dst v') w') : wpList Try.prog ops Q (o :: rest) a w := by
  refine wpList_plain hgd fun _ hK => ?_
  obtain ⟨v', w', hr, h2, h3, h4⟩ := run_cut_append hown o.type q c u hu hq hn hbase
  unfold Oper.wp execOp
  simp only [ho, resolve, invoke, builtin, Sem.run_bind, Sem.run_pure, Result.andThen_ok, List.map_toArray, List.map_cons, List.map_nil, hs, hx, hr]
  exact hK _ _ (h v' w' h2 h3 h4)
end Go.Proofs.Ytdimllmbalponaa
