/-
  What serves loops that range over functions: marks that are left, lists of arcs in a cell of the call's own.
-/
import Derived.Test.YtmplioglihmkjaaRgT
namespace Go.Proofs.Ytmplioglihmkjaa
open Go.RowKit Go.Shelf
attribute [local go_sem] Oper.semAt_some
set_option linter.unusedVariables false
set_option linter.unusedSimpArgs false
set_option maxRecDepth 100000

structure KeepsCells (W W' : World) : Prop where
  size : W.heap.size ≤ W'.heap.size
  same : ∀ (k : Nat) (o : Obj), W.heap[k]? = some o → o.isCells = true → W'.heap[k]? = some o
theorem own_cells {W W' : World} {B : Nat} {t : TypeId} {sz : Nat} {h : Value} {n : Nat} {xs : List Value} (x : W.ownsRow B t sz h n xs) (hk : KeepsCells W W') : W'.ownsRow B t sz h n xs :=
  own_stands x fun k hh => by
    obtain ⟨_, _, cur, hc⟩ := own_block x hh
    rw [hc]
    exact hk.same k _ hc rfl
/-- the way out of a body that held some of them -/
def marked (Ds : List Nat) : List Deferred := Ds.map fun D => { target := .collected D, args := #[] }
theorem leaves_marked {fn : Func} {R : Ending → World → Prop} {tm : Array Value} : ∀ (Ds : List Nat) (W : World), (∀ D ∈ Ds, W.heap[D]? = some (.deferred (some []))) → Ds.Nodup →
    (∀ W' : World, W'.os = W.os → W'.tape = W.tape → W'.output = W.output → W'.heap.size = W.heap.size → (∀ k, k ∉ Ds → W'.heap[k]? = W.heap[k]?) → ∃ v, (results fn tm).run Try.prog W' = .ok v W' ∧ R (.returned v) W') →
    LeavesInM Fence.wide 2 Try.prog fn tm R (marked Ds) .returning W := by
  intro Ds
  induction Ds with
  | nil => intro W _ _ h; obtain ⟨v, h1, h2⟩ := h W rfl rfl rfl rfl fun _ _ => rfl; exact ⟨v, h1, h2⟩
  | cons D Ds ih =>
    intro W hD hN h
    have h0 := hD D (List.mem_cons_self ..)
    refine ⟨by simp, .inl ⟨D, W.putObj D (.deferred none), rfl, run_takeDeferred h0, ih _ ?_ (List.nodup_cons.1 hN).2 ?_⟩⟩
    · intro E hE
      rw [World.putObj_heap_other (show E ≠ D from fun e => (List.nodup_cons.1 hN).1 (e ▸ hE))]
      exact hD E (List.mem_cons_of_mem _ hE)
    · intro W' o1 o2 o3 o4 o5
      refine h W' o1 o2 o3 (by rw [o4]; simp) fun k hk => ?_
      simp only [List.mem_cons, not_or] at hk
      rw [o5 k hk.2, World.putObj_heap_other hk.1]
/-- marks that stand -/
structure Mk (B : Nat) (W : World) (Ds : List Nat) : Prop where
  ds : ∀ D ∈ Ds, B ≤ D ∧ W.heap[D]? = some (.deferred (some []))
  nd : Ds.Nodup
theorem Mk.on {B : Nat} {W W' : World} {Ds : List Nat} (h : Mk B W Ds) (hk : KeepsOthers W W') : Mk B W' Ds := ⟨fun D hD => ⟨(h.ds D hD).1, hk.same D _ (h.ds D hD).2 rfl⟩, h.nd⟩
theorem Mk.below {B : Nat} {W W' : World} {Ds : List Nat} (h : Mk B W Ds) (hb : Below W.heap.size W W') : Mk B W' Ds := ⟨fun D hD => ⟨(h.ds D hD).1, (hb.block _ (Array.getElem?_eq_some_iff.1 (h.ds D hD).2).1).trans (h.ds D hD).2⟩, h.nd⟩
theorem Mk.more {B : Nat} {W : World} {Ds : List Nat} (h : Mk B W Ds) {D : Nat} (hB : B ≤ D) (hK : W.heap[D]? = some (.deferred (some []))) (hn : D ∉ Ds) : Mk B W (D :: Ds) :=
  ⟨fun E hE => by
    rcases List.mem_cons.1 hE with rfl | hE
    · exact ⟨hB, hK⟩
    · exact h.ds E hE, List.nodup_cons.2 ⟨hn, h.nd⟩⟩
theorem Mk.grown {B C : Nat} {W W' : World} {Ds : List Nat} {row : Option Nat} (h : Mk B W Ds) (hC : ∀ D ∈ Ds, D < C) (hg : W.grownBy W' row) (hr : ∀ r, row = some r → C ≤ r) : Mk B W' Ds :=
  ⟨fun D hD => ⟨(h.ds D hD).1, (hg.block D (Array.getElem?_eq_some_iff.1 (h.ds D hD).2).1 fun e => by have := hr D e.symm; have := hC D hD; omega).trans (h.ds D hD).2⟩, h.nd⟩
theorem Mk.lt {B : Nat} {W : World} {Ds : List Nat} (h : Mk B W Ds) : ∀ D ∈ Ds, D < W.heap.size := fun D hD => (Array.getElem?_eq_some_iff.1 (h.ds D hD).2).1
theorem Mk.nil (B : Nat) (W : World) : Mk B W [] := ⟨by simp, by simp⟩
/-- how such a body is left -/
theorem leave_ret {fn : Func} {R : Ending → World → Prop} {tm : Array Value} {Ds : List Nat} {W : World} {B : Nat} (hm : Mk B W Ds)
    (h : ∀ W' : World, Below B W W' → KeepsCells W W' → ∃ v, (results fn tm).run Try.prog W' = .ok v W' ∧ R (.returned v) W') : postM fn R .ret { tmps := tm, defers := marked Ds } W :=
  leaves_marked Ds W (fun D hD => (hm.ds D hD).2) hm.nd fun W' o1 o2 o3 o4 o5 => h W' ⟨o1, o2, o3, by rw [o4]; exact Nat.le_refl _, fun k hk => o5 k fun hd => by have := (hm.ds k hd).1; omega⟩ ⟨by rw [o4]; exact Nat.le_refl _, fun k o hk ho => by
    rw [o5 k fun hd => by rw [(hm.ds k hd).2] at hk; cases hk; cases ho]; exact hk⟩

/-- arcs as the memory holds them -/
def toI (l : List Ar) : List Ai := l.map fun a => ((a.1 : Int), (a.2 : Int))
theorem toI_snoc (l : List Ar) (a : Ar) : toI (l ++ [a]) = toI l ++ [((a.1 : Int), (a.2 : Int))] := by simp [toI]
theorem toI_len (l : List Ar) : (toI l).length = l.length := by simp [toI]
theorem flatA_snoc (l : List Ai) (a : Ai) : flatA (l ++ [a]) = flatA l ++ [.int .i64 a.1, .int .i64 a.2] := by simp [flatA]
theorem gapTo_le (t : Nat → Bool) (n m : Nat) : (gapTo t n m).length ≤ m := by
  have := List.length_filterMap_le (fun i => if st t n i then some (i, rl t n i) else none) (List.range m)
  rwa [List.length_range] at this

/-- where the search stands: the list, where it goes on, and marks -/
structure GS (w W : World) (b n i : Nat) (l : List Ar) : Prop where
  bel : Below w.heap.size w W
  pb : W.heap[w.heap.size]? = some (.cells #[.slice (some ⟨b, 0, none⟩) n n] 65 (0, 0))
  fr : W.heap[w.heap.size + 1]? = some (.cells #[.int .i64 (i : Nat)] 3 (0, 0))
  ls : ∃ h, W.heap[w.heap.size + 1 + 1]? = some (.cells #[h] 34 (0, 0)) ∧ OwnA W (w.heap.size + 3) h (toI l)
theorem GS.on {w W W' : World} {b n i : Nat} {l : List Ar} (h : GS w W b n i l) (hb : Below W.heap.size W W') : GS w W' b n i l := by
  obtain ⟨v, h1, h2⟩ := h.ls
  exact ⟨h.bel.trans (hb.mono h.bel.size), (hb.block _ (Array.getElem?_eq_some_iff.1 h.pb).1).trans h.pb, (hb.block _ (Array.getElem?_eq_some_iff.1 h.fr).1).trans h.fr, v, (hb.block _ (Array.getElem?_eq_some_iff.1 h1).1).trans h1, own_below h2 hb (Nat.le_refl _)⟩
theorem GS.from {w A B : World} {b n i : Nat} {l : List Ar} {C : Nat} {row : Option Nat} (hs : GS w A b n i l) (hg : A.grownBy B row) (hr : ∀ r, row = some r → C ≤ r ∧ ∃ o : Obj, A.heap[r]? = some o ∧ o.isCells = false) (hC : w.heap.size ≤ C) : GS w B b n i l := by
  obtain ⟨h, h1, h2⟩ := hs.ls
  exact ⟨hs.bel.grown hg hs.bel.size fun k hk => by have := (hr k hk).1; omega, row_kept hs.pb hg hr, row_kept hs.fr hg hr, h, row_kept h1 hg hr, own_kept h2 hg hr⟩
/-- the search goes on elsewhere -/
theorem GS.goes {w W : World} {b n i : Nat} {l : List Ar} (h : GS w W b n i l) (j : Nat) : GS w (W.setCell ⟨w.heap.size + 1, 0, none⟩ (.int .i64 (j : Nat))) b n j l := by
  obtain ⟨v, h1, h2⟩ := h.ls
  refine ⟨h.bel.setCell (p := ⟨w.heap.size + 1, 0, none⟩) (by show w.heap.size ≤ w.heap.size + 1; omega) _, ?_, ?_, v, ?_, ?_⟩
  · rw [setCell_other (by omega)]; exact h.pb
  · rw [set_cells h.fr]; rfl
  · rw [setCell_other (by omega)]; exact h1
  · exact own_stands h2 fun k hk => setCell_other (by have := (own_block h2 hk).2.1; omega)
/-- what a cell of it says -/
theorem GS.cells {w W : World} {b n i : Nat} {l : List Ar} (h : GS w W b n i l) : W.cell? ⟨w.heap.size, 0, none⟩ = some (.slice (some ⟨b, 0, none⟩) n n) ∧ W.cell? ⟨w.heap.size + 1, 0, none⟩ = some (.int .i64 (i : Nat)) ∧ W.frozen? ⟨w.heap.size + 1, 0, none⟩ = false ∧ W.frozen? ⟨w.heap.size + 1 + 1, 0, none⟩ = false := by
  obtain ⟨v, h1, _⟩ := h.ls
  refine ⟨?_, ?_, ?_, ?_⟩
  · rw [cell_of_row _ _ _ _ _ _ h.pb]; rfl
  · rw [cell_of_row _ _ _ _ _ _ h.fr]; rfl
  · simp [World.frozen?, h.fr]
  · simp [World.frozen?, h1]
theorem GS.lt {w W : World} {b n i : Nat} {l : List Ar} (h : GS w W b n i l) : w.heap.size + 1 + 1 < W.heap.size := by
  obtain ⟨v, h1, _⟩ := h.ls
  exact (Array.getElem?_eq_some_iff.1 h1).1
theorem GS.old {w W : World} {b n i : Nat} {l : List Ar} (h : GS w W b n i l) {k : Nat} {o : Obj} (hk : w.heap[k]? = some o) : W.heap[k]? = some o := (h.bel.block k (Array.getElem?_eq_some_iff.1 hk).1).trans hk
end Go.Proofs.Ytmplioglihmkjaa
