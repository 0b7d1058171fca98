/-
  What serves loops that range over functions: marks that are left; stores of one's own boxes.
-/
import Derived.Test.YtpnpbnfjhnmhjaaPcI
namespace Go.Proofs.Ytpnpbnfjhnmhjaa
open Go.RowKit Go.Shelf
attribute [local go_sem] Oper.semAt_some
set_option linter.unusedVariables false
set_option linter.unusedSimpArgs false
set_option maxRecDepth 100000

structure KeepsCells (W W' : World) : Prop where
  size : W.heap.size ≤ W'.heap.size
  same : ∀ (k : Nat) (o : Obj), W.heap[k]? = some o → o.isCells = true → W'.heap[k]? = some o
theorem own_cells {W W' : World} {B : Nat} {t : TypeId} {sz : Nat} {h : Value} {n : Nat} {xs : List Value} (x : W.ownsRow B t sz h n xs) (hk : KeepsCells W W') : W'.ownsRow B t sz h n xs :=
  own_stands x fun k hh => by
    obtain ⟨_, _, cur, hc⟩ := own_block x hh
    rw [hc]
    exact hk.same k _ hc rfl
/-- the way out of a body that held some of them -/
def marked (Ds : List Nat) : List Deferred := Ds.map fun D => { target := .collected D, args := #[] }
theorem leaves_marked {fn : Func} {R : Ending → World → Prop} {tm : Array Value} : ∀ (Ds : List Nat) (W : World), (∀ D ∈ Ds, W.heap[D]? = some (.deferred (some []))) → Ds.Nodup →
    (∀ W' : World, W'.os = W.os → W'.tape = W.tape → W'.output = W.output → W'.heap.size = W.heap.size → (∀ k, k ∉ Ds → W'.heap[k]? = W.heap[k]?) → ∃ v, (results fn tm).run Try.prog W' = .ok v W' ∧ R (.returned v) W') →
    LeavesInM Fence.wide 2 Try.prog fn tm R (marked Ds) .returning W := by
  intro Ds
  induction Ds with
  | nil => intro W _ _ h; obtain ⟨v, h1, h2⟩ := h W rfl rfl rfl rfl fun _ _ => rfl; exact ⟨v, h1, h2⟩
  | cons D Ds ih =>
    intro W hD hN h
    have h0 := hD D (List.mem_cons_self ..)
    refine ⟨by simp, .inl ⟨D, W.putObj D (.deferred none), rfl, run_takeDeferred h0, ih _ ?_ (List.nodup_cons.1 hN).2 ?_⟩⟩
    · intro E hE
      rw [World.putObj_heap_other (show E ≠ D from fun e => (List.nodup_cons.1 hN).1 (e ▸ hE))]
      exact hD E (List.mem_cons_of_mem _ hE)
    · intro W' o1 o2 o3 o4 o5
      refine h W' o1 o2 o3 (by rw [o4]; simp) fun k hk => ?_
      simp only [List.mem_cons, not_or] at hk
      rw [o5 k hk.2, World.putObj_heap_other hk.1]
/-- marks that stand -/
structure Mk (B : Nat) (W : World) (Ds : List Nat) : Prop where
  ds : ∀ D ∈ Ds, B ≤ D ∧ W.heap[D]? = some (.deferred (some []))
  nd : Ds.Nodup
theorem Mk.on {B : Nat} {W W' : World} {Ds : List Nat} (h : Mk B W Ds) (hk : KeepsOthers W W') : Mk B W' Ds := ⟨fun D hD => ⟨(h.ds D hD).1, hk.same D _ (h.ds D hD).2 rfl⟩, h.nd⟩
theorem Mk.below {B : Nat} {W W' : World} {Ds : List Nat} (h : Mk B W Ds) (hb : Below W.heap.size W W') : Mk B W' Ds := ⟨fun D hD => ⟨(h.ds D hD).1, (hb.block _ (Array.getElem?_eq_some_iff.1 (h.ds D hD).2).1).trans (h.ds D hD).2⟩, h.nd⟩
theorem Mk.more {B : Nat} {W : World} {Ds : List Nat} (h : Mk B W Ds) {D : Nat} (hB : B ≤ D) (hK : W.heap[D]? = some (.deferred (some []))) (hn : D ∉ Ds) : Mk B W (D :: Ds) :=
  ⟨fun E hE => by
    rcases List.mem_cons.1 hE with rfl | hE
    · exact ⟨hB, hK⟩
    · exact h.ds E hE, List.nodup_cons.2 ⟨hn, h.nd⟩⟩
theorem Mk.grown {B C : Nat} {W W' : World} {Ds : List Nat} {row : Option Nat} (h : Mk B W Ds) (hC : ∀ D ∈ Ds, D < C) (hg : W.grownBy W' row) (hr : ∀ r, row = some r → C ≤ r) : Mk B W' Ds :=
  ⟨fun D hD => ⟨(h.ds D hD).1, (hg.block D (Array.getElem?_eq_some_iff.1 (h.ds D hD).2).1 fun e => by have := hr D e.symm; have := hC D hD; omega).trans (h.ds D hD).2⟩, h.nd⟩
theorem Mk.lt {B : Nat} {W : World} {Ds : List Nat} (h : Mk B W Ds) : ∀ D ∈ Ds, D < W.heap.size := fun D hD => (Array.getElem?_eq_some_iff.1 (h.ds D hD).2).1
theorem Mk.nil (B : Nat) (W : World) : Mk B W [] := ⟨by simp, by simp⟩
/-- how such a body is left -/
theorem leave_ret {fn : Func} {R : Ending → World → Prop} {tm : Array Value} {Ds : List Nat} {W : World} {B : Nat} (hm : Mk B W Ds)
    (h : ∀ W' : World, Below B W W' → KeepsCells W W' → ∃ v, (results fn tm).run Try.prog W' = .ok v W' ∧ R (.returned v) W') : postM fn R .ret { tmps := tm, defers := marked Ds } W :=
  leaves_marked Ds W (fun D hD => (hm.ds D hD).2) hm.nd fun W' o1 o2 o3 o4 o5 => h W' ⟨o1, o2, o3, by rw [o4]; exact Nat.le_refl _, fun k hk => o5 k fun hd => by have := (hm.ds k hd).1; omega⟩ ⟨by rw [o4]; exact Nat.le_refl _, fun k o hk ho => by
    rw [o5 k fun hd => by rw [(hm.ds k hd).2] at hk; cases hk; cases ho]; exact hk⟩


theorem st_hit {W : World} {g : Nat} {v v0 : Value} {t : TypeId} (h : W.heap[g]? = some (.cells #[v0] t (0, 0))) : (W.setCell ⟨g, 0, none⟩ v).heap[g]? = some (.cells #[v] t (0, 0)) := by rw [set_cells h]; rfl
theorem st_miss {W : World} {g k j : Nat} {v : Value} {o : Option Obj} (hne : k ≠ g) (h : W.heap[k]? = o) : (W.setCell ⟨g, j, none⟩ v).heap[k]? = o := (setCell_other hne).trans h
theorem ko_below {W W1 : World} (hb : Below W.heap.size W W1) : KeepsOthers W W1 :=
  KeepsOthers.of_grownBy (row := none) ⟨hb.os, hb.tape, hb.output, hb.size, fun k hk _ => hb.block k hk⟩ (fun j o e => by cases e)
/-- a box of one's own is set anew -/
theorem Kq.set {b0 m gl ol : Nat} {W : World} {g j : Nat} {v : Value} (hg : b0 ≤ g ∧ g < b0 + m) (hgl : g ≠ gl) : Kq b0 m gl ol W (W.setCell ⟨g, j, none⟩ v) := by
  have hcell : (W.setCell ⟨g, j, none⟩ v).heap[gl]? = W.heap[gl]? := setCell_other (fun e => hgl e.symm)
  refine ⟨by simp, fun a ha => .inl ?_, fun k cs t fr hk hb _ => ?_⟩
  · rw [lbQ_same hcell] at ha; exact ha
  · exact st_miss (fun e => hb (by omega)) hk
theorem lbQ_int {gl ol : Nat} {W : World} {z : Int} {k : IntKind} (h : W.cell? ⟨gl, ol, none⟩ = some (.int k z)) : lbQ gl ol W = none := by unfold lbQ; rw [h]
end Go.Proofs.Ytpnpbnfjhnmhjaa
