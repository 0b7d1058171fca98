/-
  Rows of bools that are turned one by one, and rows beside them.
-/
import Derived.Test.YthngjegimecaaaaDoorRmC
import Derived.Laws.EntriesVeiled
namespace Go.Proofs.YthngjegimecaaaaDoor
open Go.RowKit Go.Deep
set_option linter.unusedVariables false
set_option linter.unusedSimpArgs false

/-- the first k turned -/
def tog (S : List Bool) (k : Nat) : List Bool := (S.take k).map (!·) ++ S.drop k
theorem tog_zero (S : List Bool) : tog S 0 = S := by simp [tog]
theorem tog_len (S : List Bool) (k : Nat) : (tog S k).length = S.length := by
  unfold tog
  rw [List.length_append, List.length_map, List.length_take, List.length_drop]
  omega
theorem tog_get (S : List Bool) (k j : Nat) (h : j < S.length) : (tog S k).getD j false = if j < k then !(S.getD j false) else S.getD j false := by
  unfold tog
  simp only [List.getD_eq_getElem?_getD]
  by_cases hj : j < k
  · rw [if_pos hj, List.getElem?_append_left (by rw [List.length_map, List.length_take]; omega), List.getElem?_map, List.getElem?_take, if_pos hj, List.getElem?_eq_getElem h]
    rfl
  · rw [if_neg hj, List.getElem?_append_right (by rw [List.length_map, List.length_take]; omega), List.getElem?_drop, List.length_map, List.length_take]
    congr 2
    omega
theorem tog_set {S : List Bool} {k : Nat} (h : k < S.length) : (tog S k).set k (!(S.getD k false)) = tog S (k + 1) := by
  apply List.ext_getElem?
  intro j
  by_cases hj : j < S.length
  · have e : ∀ l : List Bool, l.length = S.length → l[j]? = some (l.getD j false) := fun l hl => by
      rw [List.getD_eq_getElem?_getD, List.getElem?_eq_getElem (by omega)]; rfl
    rw [e _ (by rw [List.length_set, tog_len]), e _ (tog_len _ _), getD_set' _ _ _ _ (by rw [tog_len]; exact h), tog_get _ _ _ hj, tog_get _ _ _ hj]
    by_cases h1 : j = k
    · subst h1
      rw [if_pos rfl, if_pos (by omega)]
    · rw [if_neg h1]
      by_cases h2 : j < k
      · rw [if_pos h2, if_pos (by omega)]
      · rw [if_neg h2, if_neg (by omega)]
  · rw [List.getElem?_eq_none (by rw [List.length_set, tog_len]; omega), List.getElem?_eq_none (by rw [tog_len]; omega)]
/-- rows of which those ahead of i are turned, and the first k of i's own -/
def togM (n : Nat) (X : Nat → List Bool) (i k p : Nat) : List Bool := if p < i then tog (X p) n else if p = i then tog (X p) k else X p
theorem togM_zero (n : Nat) (X : Nat → List Bool) (p : Nat) : togM n X 0 0 p = X p := by
  unfold togM
  rw [if_neg (by omega)]
  split
  · exact tog_zero _
  · rfl
theorem togM_next (n : Nat) (X : Nat → List Bool) (i p : Nat) : togM n X (i + 1) 0 p = togM n X i n p := by
  unfold togM
  by_cases h : p < i
  · rw [if_pos h, if_pos (by omega)]
  · rw [if_neg h]
    by_cases h2 : p = i
    · rw [if_pos h2, if_pos (by omega)]
    · rw [if_neg h2, if_neg (by omega)]
      split
      · exact tog_zero _
      · rfl
theorem togM_all (n : Nat) (X : Nat → List Bool) (p : Nat) (h : p < n) : togM n X n 0 p = tog (X p) n := by
  unfold togM; rw [if_pos h]
/-- what is come to, as rows -/
noncomputable def reachX (R : List (List Nat)) (n p : Nat) : List Bool := (List.range n).map fun j => @decide (Rch R p j) (Classical.propDecidable _)
theorem RmS.mts {W : World} {g n : Nat} {bs : List Nat} {R : List (List Nat)} (h : RmS W g bs n R) : MtS W g bs n (reachX R n) := by
  refine ⟨h.len, h.blk, fun p hp => ?_, h.low, h.inc⟩
  obtain ⟨S, h1, h2, h3⟩ := h.row p hp
  have e : S = reachX R n p := by
    apply List.ext_getElem?
    intro j
    unfold reachX
    rw [List.getElem?_map]
    by_cases hj : j < n
    · rw [List.getElem?_range hj, List.getElem?_eq_getElem (show j < S.length by omega)]
      have h4 := h3 j
      rw [List.getD_eq_getElem?_getD, List.getElem?_eq_getElem (show j < S.length by omega), Option.getD_some] at h4
      show some _ = some _
      congr 1
      rcases hb : S[j]'(by omega) with _ | _
      · rw [hb] at h4
        exact (@decide_eq_false _ (Classical.propDecidable _) (fun hr => by have := h4.2 hr; cases this)).symm
      · exact (@decide_eq_true _ (Classical.propDecidable _) (h4.1 hb)).symm
    · rw [List.getElem?_eq_none (by omega), List.getElem?_eq_none (by rw [List.length_range]; omega)]
      rfl
  rw [← e]
  exact ⟨h1, h2⟩
theorem MtS.far {W : World} {g n : Nat} {bs : List Nat} {X : Nat → List Bool} (h : MtS W g bs n X) {b k : Nat} (v : Value) (h1 : g ≠ b) (h2 : ∀ x ∈ bs, x ≠ b) : MtS (W.setCell ⟨b, k, none⟩ v) g bs n X :=
  ⟨h.len, by rw [setCell_other (by first | exact h1 | exact fun e => h1 e.symm)]; exact h.blk, fun p hp => by
    have h3 := h2 _ (h.mem hp)
    rw [setCell_other (by first | exact h3 | exact fun e => h3 e.symm)]
    exact h.row p hp, h.low, h.inc⟩
theorem MtS.lt {W : World} {g n : Nat} {bs : List Nat} {X : Nat → List Bool} (h : MtS W g bs n X) : ∀ x ∈ bs, x < W.heap.size := fun x hx => by
  obtain ⟨p, hp, rfl⟩ := List.getElem_of_mem hx
  have h1 := (h.row p (by rw [← h.len]; exact hp)).1
  rw [List.getD_eq_getElem?_getD, List.getElem?_eq_getElem hp] at h1
  exact (Array.getElem?_eq_some_iff.1 h1).1
theorem MtS.bits {W : World} {g n : Nat} {bs : List Nat} {X : Nat → List Bool} (h : MtS W g bs n X) {p : Nat} (hp : p < n) : ∀ j, j < n → W.cell? ⟨bs.getD p 0, j, none⟩ = some (.bool ((X p).getD j false)) := fun j hj => h.bit hp hj

/-! ### One more, behind a full row of bools -/
theorem info_bool1 : (Tryd.prog.info? 4).map (fun i => (i.zero, i.size, i.bytes)) = some (some (.bool false), 1, 1) := by kernel_rfl
theorem wpList_bool {ops : Array Oper} {rest : List Oper} {o : Oper} {a : Act} {Q : Exit → Act → World → Prop} (w : World) (hgd : o.guard = none) (s x : Operand)
    (ho : o.op = .call { callee := .builtin .append, args := #[s, x], argTypes := #[34, 34] })
    (g n : Nat) (S : List Bool) (hl : S.length = n) (hS : w.heap[g]? = some (.cells (bls S) 4 (0, 0))) (hs : a.eval s = .slice (some ⟨g, 0, none⟩) n n) (hn : n ≤ 1000)
    (q c : Nat) (hx : a.eval x = .slice (some ⟨q, 0, none⟩) 1 c) (hq : w.heap[q]? = some (.cells #[.bool true] 4 (0, 0)))
    (h : ∀ g' c' w', w.heap.size ≤ g' → (∃ u, w'.cell? ⟨g', n, none⟩ = some u) → w'.frozen? ⟨g', n, none⟩ = false → Below w.heap.size w w' → wpList Tryd.prog ops Q rest (a.put o.dst (.slice (some ⟨g', 0, none⟩) (n + 1) c')) w') :
    wpList Tryd.prog ops Q (o :: rest) a w := by
  have hi := info_bool1
  rcases hi' : Tryd.prog.info? 4 with _ | i
  · rw [hi'] at hi; cases hi
  rw [hi'] at hi
  simp only [Option.map_some, Option.some.injEq, Prod.mk.injEq] at hi
  obtain ⟨hz, hs1, hb⟩ := hi
  refine wpList_append_grows w hgd s x _ ho 4 i (.bool false) 1 1 Tryd.underlying34 hi' hz hs1 hb rfl (by omega) (some ⟨g, 0, none⟩) n n (S.map Value.bool) hs (fun h => by cases h) (by rw [List.length_map, hl, Nat.mul_one]) ?_
    ⟨q, 0, none⟩ 1 c [.bool true] hx rfl ?_ (fun u hu => by rw [List.mem_singleton.1 hu]; rfl) (by omega) (by simp only [maxLen]; omega) (by omega) ?_
  · intro b hb' j u hu
    injection hb' with hb'
    subst hb'
    rw [plain_add, Nat.zero_add, cell_of_row _ _ _ _ _ _ hS]
    unfold bls
    rw [List.getElem?_toArray]
    exact hu
  · intro j u hu
    rw [plain_add, Nat.zero_add, cell_of_row _ _ _ _ _ _ hq]
    show ([Value.bool true].toArray)[j]? = _
    rw [List.getElem?_toArray]
    exact hu
  · intro v' w' how hgr
    rcases how.2 with ⟨_, h0⟩ | ⟨g', cap, cur, rfl, h1, h2, h3, h4, h5, h6⟩
    · omega
    · refine h g' cap w' h1 ⟨cur[n]'(by omega), ?_⟩ ?_ ((Below.refl _ _).grown hgr (Nat.le_refl _) (fun b e => by cases e))
      · rw [cell_of_row _ _ _ _ _ _ h2, Array.getElem?_eq_getElem]
      · unfold World.frozen?; rw [h2]; rfl
end Go.Proofs.YthngjegimecaaaaDoor
