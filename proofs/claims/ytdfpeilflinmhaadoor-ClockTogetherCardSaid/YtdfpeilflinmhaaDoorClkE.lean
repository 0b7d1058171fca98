/-
  A clock's round ends.
-/
import Derived.Test.YtdfpeilflinmhaaDoorClkD
namespace Go.Proofs.YtdfpeilflinmhaaDoor
open Go.RowKit Go.Deep Go.Sort
set_option linter.unusedVariables false
set_option linter.unusedSimpArgs false

theorem set_cells_row (g : Nat) (t : TypeId) (fr : Nat × Nat) (post : List Value) : ∀ (vs mid pre : List Value) (W : World), W.heap[g]? = some (.cells (pre ++ mid ++ post).toArray t fr) → mid.length = vs.length → (W.setCells g pre.length vs).heap[g]? = some (.cells (pre ++ vs ++ post).toArray t fr)
  | [], mid, pre, W, h, hl => by
    have : mid = [] := List.length_eq_zero_iff.1 (by simpa using hl)
    subst this
    exact h
  | v :: vs, m :: mid, pre, W, h, hl => by
    have h1 := set_row (k := pre.length) (v := v) h
    have e : ((pre ++ (m :: mid) ++ post).toArray.setIfInBounds pre.length v) = (pre ++ [v] ++ mid ++ post).toArray := by
      rw [List.setIfInBounds_toArray]
      congr 1
      rw [List.append_assoc, List.set_append_right _ _ (Nat.le_refl _)]
      simp
    rw [e] at h1
    have h2 := set_cells_row g t fr post vs mid (pre ++ [v]) _ h1 (by simpa using hl)
    simp only [List.length_append, List.length_cons, List.length_nil] at h2
    simp only [World.setCells]
    simpa using h2
theorem set_cells_other (g : Nat) : ∀ (vs : List Value) (o : Nat) (W : World) (j : Nat), j ≠ g → (W.setCells g o vs).heap[j]? = W.heap[j]?
  | [], o, W, j, h => rfl
  | v :: vs, o, W, j, h => by simp only [World.setCells]; rw [set_cells_other g vs _ _ j h, set_other h]
theorem set_cells_size (g : Nat) : ∀ (vs : List Value) (o : Nat) (W : World), (W.setCells g o vs).heap.size = W.heap.size
  | [], o, W => rfl
  | v :: vs, o, W => by simp only [World.setCells]; rw [set_cells_size g vs, set_size]
theorem set_cells_below (g : Nat) : ∀ (vs : List Value) (o : Nat) (W : World), Below g W (W.setCells g o vs)
  | [], o, W => Below.refl _ _
  | v :: vs, o, W => by simp only [World.setCells]; exact ((Below.refl g W).setCell (p := ⟨g, o, none⟩) (Nat.le_refl _) _).trans (set_cells_below g vs _ _)

def zero16 : List (Int × Bool) := List.replicate 16 (0, false)
theorem zero_one : (zero16.flatMap rdC).toArray.all (·.oneCell') = true := by simp [zero16, List.replicate, rdC, Value.oneCell']
theorem CkAt.forget {W : World} {g : Nat} {k : Ck} (x : CkAt W g k) : CkAt (W.setCells g 7 (zero16.flatMap rdC)) g { k with rd := zero16 } := by
  refine ⟨?_, by simp [zero16]⟩
  have h := x.row
  have e : (k.cells g).toArray = (([.pointer (some ⟨g, 0, none⟩), .int .i64 k.nodes, .int .i64 k.drift, .int .i64 k.reading, .int .i64 k.margin, .int .i64 k.bound, .int .i64 k.off] : List Value) ++ k.rd.flatMap rdC ++ []).toArray := by simp [Ck.cells]
  rw [e] at h
  have h2 := set_cells_row g _ _ [] (zero16.flatMap rdC) (k.rd.flatMap rdC) _ W h (by rw [rd_len, rd_len, x.len]; rfl)
  rw [show ([.pointer (some ⟨g, 0, none⟩), .int .i64 k.nodes, .int .i64 k.drift, .int .i64 k.reading, .int .i64 k.margin, .int .i64 k.bound, .int .i64 k.off] : List Value).length = 7 from rfl] at h2
  rw [h2]
  simp [Ck.cells]
theorem CkAt.thereRd {W : World} {g : Nat} {k : Ck} (x : CkAt W g k) : W.there g 7 32 := by
  intro j hj
  have hl : (k.cells g).length = 39 := by
    have := rd_len k.rd
    rw [x.len] at this
    simp only [Ck.cells, List.length_cons, this]
  constructor
  · rw [cell_row x.row, List.getElem?_toArray, List.getElem?_eq_getElem (by omega)]; rfl
  · exact x.free _

set_option maxRecDepth 100000 in
set_option maxHeartbeats 1000000 in
theorem round_at {g N : Nat} {k : Ck} {w : World} (x : CkAt w g k) (mb own : Int) (hN : k.nodes = N) (hN16 : N ≤ 16) (hmb : 0 ≤ mb ∧ mb < 65536) (hr : ∀ z ∈ readsF k mb own, -2305843009213693952 ≤ z ∧ z ≤ 2305843009213693952)
    (ho : -ckEnd ≤ k.off ∧ k.off ≤ ckEnd) (hd : 0 ≤ k.bound ∧ k.bound ≤ ckEnd) :
    Calls Tryd.prog 36 #[.pointer (some ⟨g, 0, none⟩), .int .u16 mb, .int .i64 own] w fun e w' => e = .returned (.tuple #[.int .i64 (cutF (avg (readsF k mb own)) (-k.bound) k.bound), .int .i64 0]) ∧ Upd g w w' ∧
      CkAt w' g { k with off := cutF (k.off + cutF (avg (readsF k mb own)) (-k.bound) k.bound) (-ckEnd) ckEnd, rd := zero16 } := by
  have hmade := cmade_at g w (x.cell 0 _ rfl)
  have HA := hide (average_at x mb own hN hN16 hmb hr)
  generalize avg (readsF k mb own) = v at HA ⊢
  generalize decide (0 < (readsF k mb own).length) = vb at HA
  have h0 : ckEnd = 1099511627776 := rfl
  have hn : IntKind.i64.wrap (-k.bound) = -k.bound := by rw [IntKind.wrap_i64]; omega
  have hr := cutF_range v (show -k.bound ≤ k.bound by omega)
  have HC := hide (fun W => cut_at v (-k.bound) k.bound W)
  generalize cutF v (-k.bound) k.bound = r at hr HC ⊢
  have HM := hide (fun W (X : CkAt W g k) => move_at X r ho (by omega))
  have X := hide x
  clear x hN hN16 hmb ho hd hr h0
  obtain ⟨nodes, drift, reading, margin, bound, off, rd⟩ := k
  dsimp only at *
  go_enter Tryd.func36, Tryd.ntmps36
  go_wp2_with fail
  refine hmade.mono ?_
  rintro e w' ⟨rfl, rfl⟩
  clear hmade
  go_wp2_with fail
  refine HA.out.mono ?_
  rintro e w1 ⟨rfl, hb1⟩
  have X1 := hide (X.out.below hb1)
  have U1 := hide (Upd.of_below hb1 X.out.lt)
  have c5 := X1.out.cell 5 _ rfl
  clear hb1 HA X
  go_wp2_with fail
  go_quiet ((go_at_call 69; refine Calls.quiet_of_same (HC.out _)))
  have X2 := hide (X1.out.below (cdrewN (Below.refl _ _) nq))
  have U2 := hide (U1.out.trans (Upd.of_below (cdrewN (Below.refl w1.heap.size w1) nq) X1.out.lt))
  generalize w1.drewN nq = w2 at *
  go_wp2_with fail
  refine (HM.out _ X2.out).mono ?_
  rintro e w3 ⟨rfl, hu, hx⟩
  have U3 := hide (U2.out.trans hu)
  have X3 := hide hx
  clear hu hx
  go_wp2_with (refine wpList_store_mid rfl 157 (.tmp 39) (.tmp 37) rfl g 7 (zero16.flatMap rdC).toArray rfl rfl X3.out.thereRd (by kernel_rfl) zero_one ?_)
  go_ret2
  exact ⟨rfl, U3.out.trans ⟨fun j _ hj => set_cells_other g _ _ _ j hj, Nat.le_of_eq (set_cells_size g _ _ _).symm, set_cells_below g _ _ _⟩, X3.out.forget⟩
end Go.Proofs.YtdfpeilflinmhaaDoor
