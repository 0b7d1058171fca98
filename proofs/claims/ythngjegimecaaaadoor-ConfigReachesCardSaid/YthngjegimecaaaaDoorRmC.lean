/-
  The document's own rows of who is come to: memory, and what the sweeps make of it.
-/
import Derived.Test.YthngjegimecaaaaDoorRmB
import Derived.Test.YthngjegimecaaaaDoorRchE
namespace Go.Proofs.YthngjegimecaaaaDoor
open Go.RowKit Go.Deep
set_option linter.unusedVariables false
set_option linter.unusedSimpArgs false

/-- rows of bools, each in a block of its own: what they hold -/
structure MtS (W : World) (g : Nat) (bs : List Nat) (n : Nat) (X : Nat → List Bool) : Prop where
  len : bs.length = n
  blk : W.heap[g]? = some (.cells (bs.map (slB n)).toArray 34 (0, 0))
  row : ∀ p, p < n → W.heap[bs.getD p 0]? = some (.cells (bls (X p)) 4 (0, 0)) ∧ (X p).length = n
  low : ∀ b ∈ bs, g < b
  inc : bs.Pairwise (· < ·)
section
variable {W W' : World} {g n : Nat} {bs : List Nat} {X Y : Nat → List Bool}
theorem MtS.below (h : MtS W g bs n X) (hb : Below W.heap.size W W') : MtS W' g bs n X :=
  ⟨h.len, (hb.block _ (Array.getElem?_eq_some_iff.1 h.blk).1).trans h.blk, fun p hp => by
    obtain ⟨h1, h2⟩ := h.row p hp
    exact ⟨(hb.block _ (Array.getElem?_eq_some_iff.1 h1).1).trans h1, h2⟩, h.low, h.inc⟩
theorem MtS.ext (h : MtS W g bs n X) (he : ∀ p, p < n → Y p = X p) : MtS W g bs n Y :=
  ⟨h.len, h.blk, fun p hp => by rw [he p hp]; exact h.row p hp, h.low, h.inc⟩
theorem MtS.mem (h : MtS W g bs n X) {p : Nat} (hp : p < n) : bs.getD p 0 ∈ bs := by
  have := h.len
  rw [List.getD_eq_getElem?_getD, List.getElem?_eq_getElem (show p < bs.length by omega)]
  exact List.getElem_mem _
theorem MtS.cell (h : MtS W g bs n X) {p : Nat} (hp : p < n) : W.cell? ⟨g, p, none⟩ = some (.slice (some ⟨bs.getD p 0, 0, none⟩) n n) := by
  rw [cell_of_row _ _ _ _ _ _ h.blk]
  have hl := h.len
  simp [slB, List.getD_eq_getElem?_getD, List.getElem?_eq_getElem (show p < bs.length by omega)]
theorem MtS.bit (h : MtS W g bs n X) {p j : Nat} (hp : p < n) (hj : j < n) : W.cell? ⟨bs.getD p 0, j, none⟩ = some (.bool ((X p).getD j false)) := by
  obtain ⟨h1, h2⟩ := h.row p hp
  exact bls_at h1 (by omega)
theorem MtS.free (h : MtS W g bs n X) {p j : Nat} (hp : p < n) : W.frozen? ⟨bs.getD p 0, j, none⟩ = false := by
  unfold World.frozen?
  rw [(h.row p hp).1]; rfl
theorem MtS.inj (h : MtS W g bs n X) {p q : Nat} (hp : p < n) (hq : q < n) (e : bs.getD p 0 = bs.getD q 0) : p = q := by
  have hl := h.len
  rw [List.getD_eq_getElem?_getD, List.getElem?_eq_getElem (show p < bs.length by omega), List.getD_eq_getElem?_getD, List.getElem?_eq_getElem (show q < bs.length by omega)] at e
  simp only [Option.getD_some] at e
  rcases Nat.lt_trichotomy p q with h1 | h1 | h1
  · have := List.pairwise_iff_getElem.1 h.inc p q (by omega) (by omega) h1; omega
  · exact h1
  · have := List.pairwise_iff_getElem.1 h.inc q p (by omega) (by omega) h1; omega
theorem MtS.put (h : MtS W g bs n X) {i q : Nat} (hi : i < n) (b : Bool) : MtS (W.setCell ⟨bs.getD i 0, q, none⟩ (.bool b)) g bs n (fun p => if p = i then (X i).set q b else X p) := by
  have hlo := h.low _ (h.mem hi)
  refine ⟨h.len, by rw [setCell_other (by omega)]; exact h.blk, fun p hp => ?_, h.low, h.inc⟩
  by_cases e : p = i
  · subst e
    simp only [if_pos]
    refine ⟨?_, by rw [List.length_set]; exact (h.row p hp).2⟩
    show (W.heap.modify (bs.getD p 0) _)[bs.getD p 0]? = _
    rw [Array.getElem?_modify, if_pos rfl, (h.row p hp).1]
    simp only [Option.map_some]
    rw [← bls_set]
    rfl
  · simp only [if_neg e]
    rw [setCell_other (fun e2 => e (h.inj hp hi (by first | exact e2 | exact e2.symm)))]
    exact h.row p hp
end
theorem setCell_comm (w : World) (p q : Addr) (u v : Value) (h : p.block ≠ q.block) : (w.setCell p u).setCell q v = (w.setCell q v).setCell p u := by
  unfold World.setCell
  congr 1
  apply Array.ext_getElem?
  intro i
  simp only [Array.getElem?_modify]
  by_cases h1 : p.block = i
  · have h2 : q.block ≠ i := fun e => h (h1.trans e.symm)
    simp only [if_pos h1, if_neg h2]
  · simp only [if_neg h1]
theorem firstB_of {n i : Nat} {S : List Bool} (hi : i < n) (hl : S.length = n) (h : ∀ j, S.getD j false = true ↔ Rch [] i j) : S = firstB n i := by
  have hl2 : (firstB n i).length = n := by simp [firstB]
  have hr : ∀ j, Rch [] i j ↔ j = i := fun j => ⟨fun h => (h.none (fun k => by simp)).symm, fun e => e ▸ .refl _⟩
  apply List.ext_getElem (by omega)
  intro j h1 h2
  have e1 : S.getD j false = S[j] := by rw [List.getD_eq_getElem?_getD, List.getElem?_eq_getElem h1]; rfl
  have e2 : (firstB n i).getD j false = (firstB n i)[j] := by rw [List.getD_eq_getElem?_getD, List.getElem?_eq_getElem h2]; rfl
  rw [← e1, ← e2]
  rcases Bool.eq_false_or_eq_true (S.getD j false) with e | e
  · rw [e, (firstB_at n i j hi).2 ((hr j).1 ((h j).1 e))]
  · rw [e]
    rcases Bool.eq_false_or_eq_true ((firstB n i).getD j false) with e3 | e3
    · have := (h j).2 ((hr j).2 ((firstB_at n i j hi).1 e3)); rw [e] at this; cases this
    · exact e3.symm
theorem MtS.of_rps {W : World} {g n : Nat} {bs : List Nat} (h : RpS W g bs n n []) : MtS W g bs n (firstB n) := by
  have hblk := h.blk
  rw [Nat.sub_self, List.replicate_zero, List.append_nil] at hblk
  refine ⟨h.len, hblk, fun p hp => ?_, fun b hb => (h.low b hb).1, h.inc⟩
  obtain ⟨S, h1, h2, h3⟩ := h.row p hp
  rw [← firstB_of hp h2 h3]
  exact ⟨h1, h2⟩
theorem MtS.rms {W : World} {g : Nat} {bs : List Nat} {c : Conf} (h : MtS W g bs c.parts.length (fun p => sweepN (edgesF c c.links) c.parts.length (firstB c.parts.length p))) : RmS W g bs c.parts.length (nextF c c.links) :=
  ⟨h.len, h.blk, fun p hp => ⟨_, (h.row p hp).1, (h.row p hp).2, sweepN_all c c.links p hp⟩, h.low, h.inc⟩
/-- a row more, with its own cell true -/
theorem RpS.own {W : World} {g n k : Nat} {bs : List Nat} (h : RpS W g bs n k []) (hk : k < n) (hg : g < W.heap.size) :
    RpS (((W.alloc (.cells (bls (List.replicate n false)) 4)).setCell ⟨g, k, none⟩ (slB n W.heap.size)).setCell ⟨W.heap.size, k, none⟩ (.bool true)) g (bs ++ [W.heap.size]) n (k + 1) [] := by
  rw [setCell_comm _ _ _ _ _ (by simp; omega)]
  have hb : Below W.heap.size W ((W.alloc (.cells (bls (List.replicate n false)) 4)).setCell ⟨W.heap.size, k, none⟩ (.bool true)) := (bal W _).setCell (p := ⟨W.heap.size, k, none⟩) (Nat.le_refl _) _
  refine h.more hk hb (S := firstB n k) ?_ (by simp [firstB]) (fun j => ?_) hg
  · have := heap_alloc_new W (.cells (bls (List.replicate n false)) 4)
    show (Array.modify (W.alloc _).heap W.heap.size _)[W.heap.size]? = _
    rw [Array.getElem?_modify, if_pos rfl, this]
    simp only [Option.map_some]
    unfold firstB
    rw [← bls_set]
    rfl
  · rw [firstB_at n k j hk]
    exact ⟨fun e => e ▸ .refl _, fun h => (h.none (fun k => by simp)).symm⟩

/-! ### Step by step -/
theorem edges_step {c : Conf} {k : Nat} (hk : k < c.links.length) : edgesF c (c.links.take (k + 1)) = edgesF c (c.links.take k) ++ linkE c (c.links.getD k default) := by
  have hx : c.links[k]? = some (c.links.getD k default) := by rw [List.getD_eq_getElem?_getD, List.getElem?_eq_getElem hk]; rfl
  have e : c.links.take (k + 1) = c.links.take k ++ [c.links.getD k default] := by rw [List.take_add_one, hx]; rfl
  rw [e]
  simp [edgesF]
theorem sweep_app (S : List Bool) (A B : List (Nat × Nat)) : sweep S (A ++ B) = sweep (sweep S A) B := by simp [sweep]
theorem partN_none {c : Conf} {z : Int} (h : partP c z = none) : partN c z = -1 := by unfold partN; rw [h]
theorem partN_some {c : Conf} {z : Int} {k : Nat} (h : partP c z = some k) : partN c z = (k : Int) := by unfold partN; rw [h]
theorem partN_nn {c : Conf} {z : Int} : decide (0 ≤ partN c z) = (partP c z).isSome := by
  rcases h : partP c z with _ | k
  · rw [partN_none h]; rfl
  · rw [partN_some h]; simp
/-- may the link be, of its first j ends? -/
def fineB (c : Conf) (x : Lk) (j : Nat) : Bool := (partP c x.source).isSome && (x.dests.take j).all fun d => (partP c d).isSome
theorem fineB_step {c : Conf} {x : Lk} {j : Nat} (hj : j < x.dests.length) : fineB c x (j + 1) = (fineB c x j && (partP c (x.dests.getD j 0)).isSome) := by
  unfold fineB
  have hx : x.dests[j]? = some (x.dests.getD j 0) := by rw [List.getD_eq_getElem?_getD, List.getElem?_eq_getElem hj]; rfl
  rw [List.take_add_one, hx]
  simp [Bool.and_assoc]
theorem fineB_no {c : Conf} {x : Lk} (h : fineB c x x.dests.length = false) : linkE c x = [] := by
  unfold linkE linkP
  rw [if_neg]
  rintro ⟨h1, h2⟩
  unfold fineB at h
  rw [List.take_length, h1, Bool.true_and] at h
  have : (x.dests.all fun d => (partP c d).isSome) = true := List.all_eq_true.2 h2
  rw [this] at h; cases h
theorem fineB_yes {c : Conf} {x : Lk} (h : fineB c x x.dests.length = true) : ∃ f, partP c x.source = some f ∧ f < c.parts.length ∧ (∀ d ∈ x.dests, (partP c d).isSome = true) ∧ linkE c x = x.dests.map fun d => (f, (partP c d).getD 0) := by
  unfold fineB at h
  rw [List.take_length, Bool.and_eq_true] at h
  obtain ⟨h1, h2⟩ := h
  obtain ⟨f, hf⟩ := Option.isSome_iff_exists.1 h1
  have h3 : ∀ d ∈ x.dests, (partP c d).isSome = true := List.all_eq_true.1 h2
  refine ⟨f, hf, (partP_lt hf).1, h3, ?_⟩
  unfold linkE linkP
  rw [if_pos ⟨h1, h3⟩, hf]
  simp
end Go.Proofs.YthngjegimecaaaaDoor
