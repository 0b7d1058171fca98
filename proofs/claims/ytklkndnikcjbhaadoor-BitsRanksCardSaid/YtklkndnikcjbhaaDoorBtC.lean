/-
  From: the least one that is not less.
-/
import Derived.Test.YtklkndnikcjbhaaDoorBtB
namespace Go.Proofs.YtklkndnikcjbhaaDoor
open Go.RowKit Go.Shelf
attribute [local go_sem] Oper.semAt_some
set_option linter.unusedVariables false
set_option linter.unusedSimpArgs false

/-- the least one that is not less than i, and whether there is one -/
def fromF (s : Nat) (i : Int) : Option Nat := (mem s).find? fun m => decide (i ≤ (m : Int))
theorem fromF_none {s : Nat} {i : Int} (h : ∀ x ∈ meL s, (x.1 : Int) < i) : fromF s i = none := by
  unfold fromF
  rw [List.find?_eq_none]
  intro m hm
  have := h ⟨m, hm⟩ (List.mem_attach _ _)
  simpa using this
theorem fromF_some {s : Nat} {i : Int} {k : Nat} {pre : List (ME s)} {x : ME s} (hk : (meL s).take k = pre ++ [x]) (h : ∀ y ∈ pre, (y.1 : Int) < i) (hx : i ≤ (x.1 : Int)) : fromF s i = some x.1 := by
  have key : ∀ (L rest p : List Nat) (m : Nat), L = p ++ m :: rest → (∀ y ∈ p, (y : Int) < i) → i ≤ (m : Int) → L.find? (fun m : Nat => decide (i ≤ (m : Int))) = some m := by
    rintro L rest p m rfl hp hm
    rw [List.find?_append]
    have h3 : p.find? (fun m : Nat => decide (i ≤ (m : Int))) = none := by
      rw [List.find?_eq_none]
      intro m hm
      have := hp m hm
      simpa using this
    rw [h3]
    simp [hm]
  have h1 := meL_take s k
  rw [hk, List.map_append] at h1
  have h2 := List.take_append_drop k (mem s)
  refine key _ ((mem s).drop k) (pre.map (·.1)) x.1 ?_ ?_ hx
  · refine h2.symm.trans ?_
    rw [← h1]
    simp
  · intro y hy
    obtain ⟨z, hz, rfl⟩ := List.mem_map.1 hy
    exact h z hz
def fromV (o : Option Nat) : Value := match o with
  | some m => .tuple #[.int .i64 (m : Int), .bool true]
  | none => .tuple #[.int .i64 0, .bool false]

def AllLt {s : Nat} (i : Int) (pre : List (ME s)) : Prop := ∀ x ∈ pre, (x.1 : Int) < i
structure FrI (w W : World) (i : Int) (m : Int) (b : Bool) : Prop where
  bel : Below w.heap.size w W
  box : W.heap[w.heap.size]? = some (.cells #[.int .i64 i] 3 (0, 0))
  r0 : W.heap[w.heap.size + 1]? = some (.cells #[.int .i64 m] 3 (0, 0))
  r1 : W.heap[w.heap.size + 1 + 1]? = some (.cells #[.bool b] 4 (0, 0))
theorem FrI.from {w A B : World} {i m : Int} {b : Bool} {C : Nat} {row : Option Nat} (hs : FrI w A i m b) (hg : A.grownBy B row) (hr : ∀ r, row = some r → C ≤ r ∧ ∃ o : Obj, A.heap[r]? = some o ∧ o.isCells = false) (hC : w.heap.size ≤ C) : FrI w B i m b :=
  ⟨hs.bel.grown hg hs.bel.size fun k hk => by have := (hr k hk).1; omega, row_kept hs.box hg hr, row_kept hs.r0 hg hr, row_kept hs.r1 hg hr⟩

set_option maxRecDepth 100000 in
set_option maxHeartbeats 2000000 in
theorem from_at (s : Nat) (hs : s < 18446744073709551616) (i : Int) (w : World) (hT : Tz w) :
    Calls Tryd.prog 10 #[.int .u64 s, .int .i64 i] w fun e w' => e = .returned (fromV (fromF s i)) ∧ Below w.heap.size w w' := by
  have HT := hide hT
  refine calls_of_wp_marks Tryd.func10 rfl ?_
  simp only [Tryd.ntmps10, List.size_toArray, List.length_cons, List.length_nil, Nat.reduceAdd, Nat.reduceSub, Array.replicate_succ, Array.replicate_zero, List.push_toArray, List.append_toArray, List.nil_append, List.cons_append]
  go_wp2_with fail
  have hI : FrI w (((w.alloc (.cells #[.int .i64 i] 3)).alloc (.cells #[.int .i64 0] 3)).alloc (.cells #[.bool false] 4)) i 0 false :=
    ⟨((bal w _).alloc (by simp) _).alloc (by simp; omega) _, (heap_alloc_old _ _ (by simp; omega)).trans (heap_alloc2_old w _ _), (heap_alloc_old _ _ (by simp)).trans (heap_alloc2_new w _ _), by have := heap_alloc_new ((w.alloc (.cells #[.int .i64 i] 3)).alloc (.cells #[.int .i64 0] 3)) (.cells #[.bool false] 4); simpa using this⟩
  have hz : w.heap.size + 3 ≤ (((w.alloc (.cells #[.int .i64 i] 3)).alloc (.cells #[.int .i64 0] 3)).alloc (.cells #[.bool false] 4)).heap.size := by simp
  generalize ((w.alloc (.cells #[.int .i64 i] 3)).alloc (.cells #[.int .i64 0] 3)).alloc (.cells #[.bool false] 4) = w1 at hI hz ⊢
  refine (members_at s _).mono ?_
  rintro e w2 ⟨rfl, rfl⟩
  have hT2 : Tz (w1.alloc (.cells #[.int .u64 s] 22)) := hT.below (hI.bel.alloc hI.bel.size _) hT.lt
  have hS2 : (w1.alloc (.cells #[.int .u64 s] 22)).cell? ⟨w1.heap.size, 0, none⟩ = some (.int .u64 s) := by rw [cell_of_row _ _ _ _ _ _ (heap_alloc_new w1 _)]; rfl
  have hz2 : w1.heap.size + 1 ≤ (w1.alloc (.cells #[.int .u64 s] 22)).heap.size := by simp
  have hI2 : FrI w (w1.alloc (.cells #[.int .u64 s] 22)) i 0 false :=
    ⟨hI.bel.alloc hI.bel.size _, (heap_alloc_old _ _ (by omega)).trans hI.box, (heap_alloc_old _ _ (by omega)).trans hI.r0, (heap_alloc_old _ _ (by omega)).trans hI.r1⟩
  clear hI
  go_wp2_with fail
  generalize w1.alloc (.cells #[.int .u64 s] 22) = w2 at hT2 hS2 hz2 hI2 ⊢
  refine' wp_mem s w1.heap.size hs rfl (by omega) hS2 hT2 rfl
    (fun pre W => FrI w W i 0 false ∧ AllLt i pre)
    (fun j pre W => j = .ret ∧ ∃ pre' x, pre = pre' ++ [x] ∧ AllLt i pre' ∧ i ≤ (x.1 : Int) ∧ FrI w W i x.1 true)
    (fun s A B row hs hg hr => ⟨hs.1.from hg hr (by omega), hs.2⟩)
    (fun j s A B row hs hg hr => ⟨hs.1, let ⟨p, x, a, b, c, d⟩ := hs.2; ⟨p, x, a, b, c, d.from hg hr (by omega)⟩⟩)
    ⟨hI2, fun x hx => by cases hx⟩ _ ?assign ?body ?done ?stop
  case assign =>
    intro l x W K hK
    gi_wp2
    exact hK
  case body =>
    rintro l pre ⟨m, hm⟩ W ⟨hF, hpre⟩ hlen
    dsimp only at hm ⊢
    have hbox : W.cell? ⟨w.heap.size, 0, none⟩ = some (.int .i64 i) := by rw [cell_of_row _ _ _ _ _ _ hF.box]; rfl
    have hr0 : W.cell? ⟨w.heap.size + 1, 0, none⟩ = some (.int .i64 0) := by rw [cell_of_row _ _ _ _ _ _ hF.r0]; rfl
    have hr1 : W.cell? ⟨w.heap.size + 1 + 1, 0, none⟩ = some (.bool false) := by rw [cell_of_row _ _ _ _ _ _ hF.r1]; rfl
    have hf0 : W.frozen? ⟨w.heap.size + 1, 0, none⟩ = false := by simp [World.frozen?, hF.r0]
    have hf1 : W.frozen? ⟨w.heap.size + 1 + 1, 0, none⟩ = false := by simp [World.frozen?, hF.r1]
    have HF := hide hF
    have HP := hide hpre
    clear hF hpre hT2 hS2 hI2 hlen hT HT
    by_cases hge : i ≤ (m : Int)
    · have HG := hide hge
      gi_wp2
      refine ⟨(KeepsOthers.setCell _ _ _).trans (KeepsOthers.setCell _ _ _), rfl, pre, ⟨m, hm⟩, rfl, HP.out, HG.out, ?_⟩
      refine ⟨(HF.out.bel.setCell (p := ⟨w.heap.size + 1, 0, none⟩) (by show w.heap.size ≤ w.heap.size + 1; omega) _).setCell (p := ⟨w.heap.size + 1 + 1, 0, none⟩) (by show w.heap.size ≤ w.heap.size + 1 + 1; omega) _, ?_, ?_, ?_⟩
      · rw [setCell_other (by omega), setCell_other (by omega)]; exact HF.out.box
      · rw [setCell_other (by omega), set_cells HF.out.r0]; rfl
      · rw [set_cells ((setCell_other (by omega)).trans HF.out.r1)]; rfl
    · have hlt : (m : Int) < i := by omega
      have HL := hide hlt
      gi_wp2
      refine ⟨KeepsOthers.refl _, KTz.refl _, HF.out, fun x hx => ?_⟩
      rcases List.mem_append.1 hx with h | h
      · exact HP.out x h
      · obtain rfl := List.mem_singleton.1 h
        exact HL.out
  case done =>
    rintro D W hD ⟨hF, hpre⟩ hK
    have H := hide (fromF_none hpre)
    have HF := hide hF
    have hr0 : W.cell? ⟨w.heap.size + 1, 0, none⟩ = some (.int .i64 0) := by rw [cell_of_row _ _ _ _ _ _ hF.r0]; rfl
    have hr1 : W.cell? ⟨w.heap.size + 1 + 1, 0, none⟩ = some (.bool false) := by rw [cell_of_row _ _ _ _ _ _ hF.r1]; rfl
    have hf0 : W.frozen? ⟨w.heap.size + 1, 0, none⟩ = false := by simp [World.frozen?, hF.r0]
    have hf1 : W.frozen? ⟨w.heap.size + 1 + 1, 0, none⟩ = false := by simp [World.frozen?, hF.r1]
    clear hF hpre hT2 hS2 hI2 hT HT
    go_wp2
    have c0 : ((W.setCell ⟨w.heap.size + 1, 0, none⟩ (.int .i64 0)).setCell ⟨w.heap.size + 1 + 1, 0, none⟩ (.bool false)).cell? ⟨w.heap.size + 1, 0, none⟩ = some (.int .i64 0) := by
      rw [cell_of_row _ _ _ _ _ _ ((setCell_other (by omega)).trans (set_cells HF.out.r0))]; rfl
    have c1 : ((W.setCell ⟨w.heap.size + 1, 0, none⟩ (.int .i64 0)).setCell ⟨w.heap.size + 1 + 1, 0, none⟩ (.bool false)).cell? ⟨w.heap.size + 1 + 1, 0, none⟩ = some (.bool false) := by
      rw [cell_of_row _ _ _ _ _ _ (set_cells ((setCell_other (by omega)).trans HF.out.r1))]; rfl
    have hK2 : ((W.setCell ⟨w.heap.size + 1, 0, none⟩ (.int .i64 0)).setCell ⟨w.heap.size + 1 + 1, 0, none⟩ (.bool false)).heap[D]? = some (.deferred (some [])) := ((KeepsOthers.setCell _ _ _).trans (KeepsOthers.setCell _ _ _)).same D _ hK rfl
    have d0 := cell_put hK2 (.deferred none) c0
    have d1 := cell_put hK2 (.deferred none) c1
    have hb := (HF.out.bel.setCell (p := ⟨w.heap.size + 1, 0, none⟩) (by show w.heap.size ≤ w.heap.size + 1; omega) (.int .i64 0)).setCell (p := ⟨w.heap.size + 1 + 1, 0, none⟩) (by show w.heap.size ≤ w.heap.size + 1 + 1; omega) (.bool false)
    exact marks_done hK2 (v := .tuple #[.int .i64 0, .bool false]) (by simp [results, Tryd.results10, go_sem, d0, d1]) ⟨by rw [H.out]; rfl, below_put hb (by omega) hK2 _⟩
  case stop =>
    rintro D j k W hD hk ⟨rfl, pre', ⟨m, hm⟩, he, hpre, hge, hF⟩ hK
    have H := hide (fromF_some he hpre hge)
    have hr0 : W.cell? ⟨w.heap.size + 1, 0, none⟩ = some (.int .i64 m) := by rw [cell_of_row _ _ _ _ _ _ hF.r0]; rfl
    have hr1 : W.cell? ⟨w.heap.size + 1 + 1, 0, none⟩ = some (.bool true) := by rw [cell_of_row _ _ _ _ _ _ hF.r1]; rfl
    have d0 := cell_put hK (.deferred none) hr0
    have d1 := cell_put hK (.deferred none) hr1
    have hb := hF.bel
    clear hF hpre hT2 hS2 hI2 hT HT he
    go_wp2
    exact marks_done hK (v := .tuple #[.int .i64 m, .bool true]) (by simp [results, Tryd.results10, go_sem, d0, d1]) ⟨by rw [H.out]; rfl, below_put hb (by omega) hK _⟩
end Go.Proofs.YtklkndnikcjbhaaDoor
