/-
  What the program asks of links: what stands, and the loop's sides.
-/
import Derived.Test.YtdennekkbdlhdaaDoorChkL
import Derived.Test.YtdennekkbdlhdaaDoorMD
namespace Go.Proofs.YtdennekkbdlhdaaDoor
open Go.RowKit Go.Deep
set_option linter.unusedVariables false
set_option linter.unusedSimpArgs false

/-- the place that a link takes, and whose it is -/
def ptOf (c : Conf) (l : Lk) : Pt := ⟨(c.parts.getD (c.ports.getD l.source.toNat default).part.toNat default).node, l.offset, l.offset + (1 + (c.ports.getD l.source.toNat default).size)⟩
/-- the ports that some links name, in order -/
def namesOf (l : List Lk) : List Int := l.flatMap fun x => x.source :: x.dests
theorem namesOf_snoc (l : List Lk) (x : Lk) : namesOf (l ++ [x]) = namesOf l ++ (x.source :: x.dests) := by simp [namesOf]
/-- the row on links -/
def LinksK (c : Conf) : Prop := c.links.length ≤ 64 ∧ (∀ k, k < c.links.length → LinkOk c (c.links.getD k default)) ∧ (standF (List.replicate c.ports.length false) (namesOf c.links)).isSome = true ∧ ApartP (c.links.map (ptOf c))
noncomputable instance (c : Conf) : Decidable (LinksK c) := Classical.propDecidable _

theorem stand_part (L : List Bool) (l m : List Int) (h : (standF L (l ++ m)).isSome = true) : (standF L l).isSome = true := by
  rw [standF_append] at h
  cases hs : standF L l with
  | none => rw [hs] at h; cases h
  | some x => rfl
theorem names_take (l : List Lk) (k : Nat) : namesOf l = namesOf (l.take k) ++ namesOf (l.drop k) := by
  unfold namesOf
  rw [← List.flatMap_append, List.take_append_drop]
theorem take_snocL (l : List Lk) (k : Nat) (hk : k < l.length) : l.take (k + 1) = l.take k ++ [l.getD k default] := by
  rw [← List.take_append_getElem hk, List.getD_eq_getElem?_getD, List.getElem?_eq_getElem hk]
  rfl

theorem CfS.onl {w W W1 : World} {c : Conf} {d : Ad} (h0 : Glo w) (h1 : ConfAt w c d) (h : CfS w W c d) (ho : Onl (w.heap.size + 1) W W1) (hW : w.heap.size + 1 ≤ W.heap.size) : CfS w W1 c d := by
  have hb2 : Below (w.heap.size + 1) W W1 := ho.below (Nat.le_refl _) hW
  have hbel : Below w.heap.size w W1 := h.bel.trans (hb2.mono (Nat.le_succ _))
  have hk : ∀ (o : Nat) (u : Value), W.cell? ⟨w.heap.size, o, none⟩ = some u → W1.cell? ⟨w.heap.size, o, none⟩ = some u := fun o u e => (hb2.cell (show w.heap.size < w.heap.size + 1 by omega)).trans e
  exact ⟨hbel, ⟨Nat.lt_of_lt_of_le h.x.lt hb2.size, hk _ _ h.x.c0, hk _ _ h.x.c1, hk _ _ h.x.c2, hk _ _ h.x.c3, hk _ _ h.x.c4, hk _ _ h.x.c5, hk _ _ h.x.c6, hk _ _ h.x.c7, hk _ _ h.x.c8, hk _ _ h.x.c9, hk _ _ h.x.c10, hk _ _ h.x.c11⟩,
    h0.below hbel (Nat.le_refl _), h1.of_below hbel (Nat.le_refl _)⟩
theorem RowsS.onl {W W1 : World} {b base rb : Nat} {vs : List Value} {L : List (List Sp)} (h : RowsS W base rb vs L) (ho : Onl b W W1) (hb : b < rb) : RowsS W1 base rb vs L := by
  refine ⟨(ho.block _ (Array.getElem?_eq_some_iff.1 h.blk).1 (by omega)).trans h.blk, h.len, fun i hi => (h.own i hi).kept fun g hg => ?_, h.apart, h.off⟩
  obtain ⟨h1, cur, h2⟩ := (h.own i hi).blk hg
  exact ho.block g (Array.getElem?_eq_some_iff.1 h2).1 (by have := h.off; omega)
/-- behind append and store, with the block of stands between -/
theorem CfS.wrote2 {w W W1 : World} {c : Conf} {d : Ad} (h0 : Glo w) (h1 : ConfAt w c d) (h : CfS w W c d) {row : Option Nat} (hg : W.grownBy W1 row) (hr : ∀ k, row = some k → w.heap.size + 2 < k) (hW : w.heap.size + 2 ≤ W.heap.size) (i : Nat) (v : Value) {L : List Bool} (hL : Truths W (w.heap.size + 1) L) :
    CfS w (W1.setCell ⟨w.heap.size + 2, i, none⟩ v) c d ∧ Truths (W1.setCell ⟨w.heap.size + 2, i, none⟩ v) (w.heap.size + 1) L := by
  have hb2 : Below (w.heap.size + 2) W (W1.setCell ⟨w.heap.size + 2, i, none⟩ v) := ((Below.refl (w.heap.size + 2) W).grown hg hW (fun k e => by have := hr k e; omega)).setCell (Nat.le_refl _) v
  have ho : Onl (w.heap.size + 1) W (W1.setCell ⟨w.heap.size + 2, i, none⟩ v) → True := fun _ => trivial
  have hbel : Below w.heap.size w (W1.setCell ⟨w.heap.size + 2, i, none⟩ v) := h.bel.trans (hb2.mono (by omega))
  have hk : ∀ (o : Nat) (u : Value), W.cell? ⟨w.heap.size, o, none⟩ = some u → (W1.setCell ⟨w.heap.size + 2, i, none⟩ v).cell? ⟨w.heap.size, o, none⟩ = some u := fun o u e => (hb2.cell (show w.heap.size < w.heap.size + 2 by omega)).trans e
  refine ⟨⟨hbel, ⟨Nat.lt_of_lt_of_le h.x.lt hb2.size, hk _ _ h.x.c0, hk _ _ h.x.c1, hk _ _ h.x.c2, hk _ _ h.x.c3, hk _ _ h.x.c4, hk _ _ h.x.c5, hk _ _ h.x.c6, hk _ _ h.x.c7, hk _ _ h.x.c8, hk _ _ h.x.c9, hk _ _ h.x.c10, hk _ _ h.x.c11⟩,
    h0.below hbel (Nat.le_refl _), h1.of_below hbel (Nat.le_refl _)⟩, ?_⟩
  exact (hb2.block _ (by omega)).trans hL

theorem info_truth : (Tryd.prog.info? 4).map (fun i => (i.zero, i.size, i.bytes)) = some (some (.bool false), 1, 1) := by kernel_rfl
theorem make_truths (n : Nat) (hn : n ≤ 64) (W : World) : (Instr.makeSlice 99 (.int .i64 (n : Int)) (.int .i64 (n : Int))).run Tryd.prog W = .ok (.slice (some ⟨W.heap.size, 0, none⟩) n n) (W.alloc (.cells ((List.replicate n false).map Value.bool).toArray 4)) := by
  have hi3 := info_truth
  rcases hi : Tryd.prog.info? 4 with _ | i
  · rw [hi] at hi3; cases hi3
  rw [hi] at hi3
  simp only [Option.map_some, Option.some.injEq, Prod.mk.injEq] at hi3
  obtain ⟨hz, hs2, hb⟩ := hi3
  have hm := run_make (P := Tryd.prog) W 99 4 i (.bool false) Tryd.underlying99 hi hz .i64 .i64 (n : Int) (n : Int) (by omega) (by omega) (by rw [hb]; omega) (by omega)
  rw [hm]
  have e : madeCells (Value.bool false).cells n = ((List.replicate n false).map Value.bool).toArray := by
    apply Array.ext_getElem?
    intro j
    by_cases hj : j < n
    · simp [madeCells, Value.cells, hj, Nat.mod_one]
    · simp [madeCells, hj]
  simp [hs2, e]
theorem truths_new (n : Nat) (W : World) : Truths (W.alloc (.cells ((List.replicate n false).map Value.bool).toArray 4)) W.heap.size (List.replicate n false) := heap_alloc_new W _
end Go.Proofs.YtdennekkbdlhdaaDoor
