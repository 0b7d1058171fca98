/-
  What a plan says of nodes and clocks.
-/
import Derived.Test.YtdennekkbdlhdaaDoorPnH
namespace Go.Proofs.YtdennekkbdlhdaaDoor
open Go.RowKit Go.Shelf
attribute [local go_sem] Oper.semAt_some
set_option linter.unusedVariables false
set_option linter.unusedSimpArgs false
set_option maxRecDepth 100000

theorem three_objs (w : World) (o0 o1 o2 : Obj) (W0 : World) (h : W0 = ((w.alloc o0).alloc o1).alloc o2) :
    Below w.heap.size w W0 ∧ W0.heap.size = w.heap.size + 3 ∧ W0.heap[w.heap.size]? = some o0 ∧ W0.heap[w.heap.size + 1]? = some o1 ∧ W0.heap[w.heap.size + 1 + 1]? = some o2 := by
  subst h
  have n0 := heap_alloc_new w o0
  have n1 := heap_alloc_new (w.alloc o0) o1
  have n2 := heap_alloc_new ((w.alloc o0).alloc o1) o2
  simp only [World.size_alloc] at n1 n2
  exact ⟨((bal w _).alloc (by simp) _).alloc (by simp; omega) _, by simp, (heap_alloc_old _ _ (by simp only [World.size_alloc]; omega)).trans ((heap_alloc_old _ _ (by simp only [World.size_alloc]; omega)).trans n0), (heap_alloc_old _ _ (by simp only [World.size_alloc]; omega)).trans n1, n2⟩
/-- a configuration that is being made, in its block -/
def CfB (W : World) (b : Nat) (n : Int) (v : Value) (dr re m bd rj qu : Int) : Prop := W.heap[b]? = some (.cells #[.int .i64 n, v, .int .i64 dr, .int .i64 re, .int .i64 m, .int .i64 bd, .int .i64 rj, .int .i64 qu, .slice none 0 0, .slice none 0 0, .slice none 0 0, .slice none 0 0] 34 (0, 0))
structure CfC (W : World) (b : Nat) (n : Int) (v : Value) (dr re m bd rj qu : Int) : Prop where
  lt : b < W.heap.size
  c0 : W.cell? ⟨b, 0, none⟩ = some (.int .i64 n)
  c1 : W.cell? ⟨b, 1, none⟩ = some v
  c2 : W.cell? ⟨b, 2, none⟩ = some (.int .i64 dr)
  c3 : W.cell? ⟨b, 3, none⟩ = some (.int .i64 re)
  c4 : W.cell? ⟨b, 4, none⟩ = some (.int .i64 m)
  c5 : W.cell? ⟨b, 5, none⟩ = some (.int .i64 bd)
  c6 : W.cell? ⟨b, 6, none⟩ = some (.int .i64 rj)
  c7 : W.cell? ⟨b, 7, none⟩ = some (.int .i64 qu)
  c8 : W.cell? ⟨b, 8, none⟩ = some (.slice none 0 0)
  c9 : W.cell? ⟨b, 9, none⟩ = some (.slice none 0 0)
  c10 : W.cell? ⟨b, 10, none⟩ = some (.slice none 0 0)
  c11 : W.cell? ⟨b, 11, none⟩ = some (.slice none 0 0)
  f1 : W.frozen? ⟨b, 1, none⟩ = false
  f4 : W.frozen? ⟨b, 4, none⟩ = false
  f5 : W.frozen? ⟨b, 5, none⟩ = false
theorem CfB.cells {W : World} {b : Nat} {n : Int} {v : Value} {dr re m bd rj qu : Int} (h : CfB W b n v dr re m bd rj qu) : CfC W b n v dr re m bd rj qu := by
  unfold CfB at h
  refine ⟨(Array.getElem?_eq_some_iff.1 h).1, ?_, ?_, ?_, ?_, ?_, ?_, ?_, ?_, ?_, ?_, ?_, ?_, by simp [World.frozen?, h], by simp [World.frozen?, h], by simp [World.frozen?, h]⟩ <;> (rw [cell_of_row _ _ _ _ _ _ h]; rfl)

/-- twelve cells of a block, written one behind the other -/
def set12 (W : World) (b : Nat) (v0 v1 v2 v3 v4 v5 v6 v7 v8 v9 v10 v11 : Value) : World := ((((((((((((W.setCell ⟨b, 0, none⟩ v0).setCell ⟨b, 1, none⟩ v1).setCell ⟨b, 2, none⟩ v2).setCell ⟨b, 3, none⟩ v3).setCell ⟨b, 4, none⟩ v4).setCell ⟨b, 5, none⟩ v5).setCell ⟨b, 6, none⟩ v6).setCell ⟨b, 7, none⟩ v7).setCell ⟨b, 8, none⟩ v8).setCell ⟨b, 9, none⟩ v9).setCell ⟨b, 10, none⟩ v10).setCell ⟨b, 11, none⟩ v11)
theorem set12_row {W : World} {b : Nat} {v0 v1 v2 v3 v4 v5 v6 v7 v8 v9 v10 v11 u0 u1 u2 u3 u4 u5 u6 u7 u8 u9 u10 u11 : Value} {t : TypeId} {f : Nat × Nat} (h : W.heap[b]? = some (.cells #[u0, u1, u2, u3, u4, u5, u6, u7, u8, u9, u10, u11] t f)) : (set12 W b v0 v1 v2 v3 v4 v5 v6 v7 v8 v9 v10 v11).heap[b]? = some (.cells #[v0, v1, v2, v3, v4, v5, v6, v7, v8, v9, v10, v11] t f) := by
  unfold set12
  have h0 : (W.setCell ⟨b, 0, none⟩ v0).heap[b]? = some (.cells #[v0, u1, u2, u3, u4, u5, u6, u7, u8, u9, u10, u11] t f) := by rw [set_cells h]; rfl
  generalize W.setCell ⟨b, 0, none⟩ v0 = W0 at *
  have h1 : (W0.setCell ⟨b, 1, none⟩ v1).heap[b]? = some (.cells #[v0, v1, u2, u3, u4, u5, u6, u7, u8, u9, u10, u11] t f) := by rw [set_cells h0]; rfl
  generalize W0.setCell ⟨b, 1, none⟩ v1 = W1 at *
  have h2 : (W1.setCell ⟨b, 2, none⟩ v2).heap[b]? = some (.cells #[v0, v1, v2, u3, u4, u5, u6, u7, u8, u9, u10, u11] t f) := by rw [set_cells h1]; rfl
  generalize W1.setCell ⟨b, 2, none⟩ v2 = W2 at *
  have h3 : (W2.setCell ⟨b, 3, none⟩ v3).heap[b]? = some (.cells #[v0, v1, v2, v3, u4, u5, u6, u7, u8, u9, u10, u11] t f) := by rw [set_cells h2]; rfl
  generalize W2.setCell ⟨b, 3, none⟩ v3 = W3 at *
  have h4 : (W3.setCell ⟨b, 4, none⟩ v4).heap[b]? = some (.cells #[v0, v1, v2, v3, v4, u5, u6, u7, u8, u9, u10, u11] t f) := by rw [set_cells h3]; rfl
  generalize W3.setCell ⟨b, 4, none⟩ v4 = W4 at *
  have h5 : (W4.setCell ⟨b, 5, none⟩ v5).heap[b]? = some (.cells #[v0, v1, v2, v3, v4, v5, u6, u7, u8, u9, u10, u11] t f) := by rw [set_cells h4]; rfl
  generalize W4.setCell ⟨b, 5, none⟩ v5 = W5 at *
  have h6 : (W5.setCell ⟨b, 6, none⟩ v6).heap[b]? = some (.cells #[v0, v1, v2, v3, v4, v5, v6, u7, u8, u9, u10, u11] t f) := by rw [set_cells h5]; rfl
  generalize W5.setCell ⟨b, 6, none⟩ v6 = W6 at *
  have h7 : (W6.setCell ⟨b, 7, none⟩ v7).heap[b]? = some (.cells #[v0, v1, v2, v3, v4, v5, v6, v7, u8, u9, u10, u11] t f) := by rw [set_cells h6]; rfl
  generalize W6.setCell ⟨b, 7, none⟩ v7 = W7 at *
  have h8 : (W7.setCell ⟨b, 8, none⟩ v8).heap[b]? = some (.cells #[v0, v1, v2, v3, v4, v5, v6, v7, v8, u9, u10, u11] t f) := by rw [set_cells h7]; rfl
  generalize W7.setCell ⟨b, 8, none⟩ v8 = W8 at *
  have h9 : (W8.setCell ⟨b, 9, none⟩ v9).heap[b]? = some (.cells #[v0, v1, v2, v3, v4, v5, v6, v7, v8, v9, u10, u11] t f) := by rw [set_cells h8]; rfl
  generalize W8.setCell ⟨b, 9, none⟩ v9 = W9 at *
  have h10 : (W9.setCell ⟨b, 10, none⟩ v10).heap[b]? = some (.cells #[v0, v1, v2, v3, v4, v5, v6, v7, v8, v9, v10, u11] t f) := by rw [set_cells h9]; rfl
  generalize W9.setCell ⟨b, 10, none⟩ v10 = W10 at *
  have h11 : (W10.setCell ⟨b, 11, none⟩ v11).heap[b]? = some (.cells #[v0, v1, v2, v3, v4, v5, v6, v7, v8, v9, v10, v11] t f) := by rw [set_cells h10]; rfl
  generalize W10.setCell ⟨b, 11, none⟩ v11 = W11 at *
  exact h11
theorem set12_other {W : World} {b k : Nat} {v0 v1 v2 v3 v4 v5 v6 v7 v8 v9 v10 v11 : Value} (h : k ≠ b) : (set12 W b v0 v1 v2 v3 v4 v5 v6 v7 v8 v9 v10 v11).heap[k]? = W.heap[k]? := by
  unfold set12
  simp only [setCell_other h]
theorem set12_below {W0 W : World} {B b : Nat} {v0 v1 v2 v3 v4 v5 v6 v7 v8 v9 v10 v11 : Value} (h : Below B W0 W) (hb : B ≤ b) : Below B W0 (set12 W b v0 v1 v2 v3 v4 v5 v6 v7 v8 v9 v10 v11) :=
  ((((((((((((h.setCell (p := ⟨b, 0, none⟩) hb v0).setCell (p := ⟨b, 1, none⟩) hb v1).setCell (p := ⟨b, 2, none⟩) hb v2).setCell (p := ⟨b, 3, none⟩) hb v3).setCell (p := ⟨b, 4, none⟩) hb v4).setCell (p := ⟨b, 5, none⟩) hb v5).setCell (p := ⟨b, 6, none⟩) hb v6).setCell (p := ⟨b, 7, none⟩) hb v7).setCell (p := ⟨b, 8, none⟩) hb v8).setCell (p := ⟨b, 9, none⟩) hb v9).setCell (p := ⟨b, 10, none⟩) hb v10).setCell (p := ⟨b, 11, none⟩) hb v11)
theorem set12_size {W : World} {b : Nat} {v0 v1 v2 v3 v4 v5 v6 v7 v8 v9 v10 v11 : Value} : (set12 W b v0 v1 v2 v3 v4 v5 v6 v7 v8 v9 v10 v11).heap.size = W.heap.size := by simp [set12]

set_option maxHeartbeats 4000000 in
theorem timed_at (d : Dm) (a : Da) (N : Nat) (w : World) (h : DmAt w d a) (ho : Okd d N) :
    Calls Tryd.prog 16 #[d.val a] w fun e w' => Below w.heap.size w w' ∧ ∃ A c, e = .returned (.agg #[.int .i64 d.nodes, .slice A N c, .int .i64 d.drift, .int .i64 d.reading, .int .i64 (boundF d), .int .i64 (boundF d), .int .i64 d.rejoin, .int .i64 d.quota, .slice none 0 0, .slice none 0 0, .slice none 0 0, .slice none 0 0]) ∧
      N ≤ c ∧ c ≤ maxLen ∧ ∀ W', Agr w w' W' → Ints W' A ((List.range N).map fun (n : Nat) => (n : Int)) := by
  have HBx := hide (dm_box w d a 25)
  have HB := hide (bal w (.cells (d.cells a) 25))
  unfold Dm.cells at HB HBx
  have hN := ho.hN
  have h16 := ho.n16
  have HBd := hide (show boundF d = 2 * (2 * (d.drift + d.reading) + 1) + d.reading from rfl)
  obtain ⟨d1, d2⟩ := ho.dr
  obtain ⟨r1, r2⟩ := ho.re
  unfold Dm.val
  have HNn := hide hN
  rw [← hN] at HBx HB ⊢
  clear hN h ho
  go_enter Tryd.func16, Tryd.ntmps16
  have HW0 := hide (three_objs w (.cells #[.int .i64 (N : Nat), .int .i64 d.drift, .int .i64 d.reading, .int .i64 d.rejoin, .int .i64 d.quota, .slice a.tA d.tasks.length a.tC, .slice a.sA d.streams.length a.sC] 25) (.cells #[.int .i64 0, .slice none 0 0, .int .i64 0, .int .i64 0, .int .i64 0, .int .i64 0, .int .i64 0, .int .i64 0, .slice none 0 0, .slice none 0 0, .slice none 0 0, .slice none 0 0] 34) (.cells #[.int .i64 (N : Nat), .slice none 0 0, .int .i64 d.drift, .int .i64 d.reading, .int .i64 0, .int .i64 0, .int .i64 d.rejoin, .int .i64 d.quota, .slice none 0 0, .slice none 0 0, .slice none 0 0, .slice none 0 0] 34) _ rfl)
  go_wp2_with fail
  generalize hW0 : ((w.alloc (.cells #[.int .i64 (N : Nat), .int .i64 d.drift, .int .i64 d.reading, .int .i64 d.rejoin, .int .i64 d.quota, .slice a.tA d.tasks.length a.tC, .slice a.sA d.streams.length a.sC] 25)).alloc (.cells #[.int .i64 0, .slice none 0 0, .int .i64 0, .int .i64 0, .int .i64 0, .int .i64 0, .int .i64 0, .int .i64 0, .slice none 0 0, .slice none 0 0, .slice none 0 0, .slice none 0 0] 34)).alloc (.cells #[.int .i64 (N : Nat), .slice none 0 0, .int .i64 d.drift, .int .i64 d.reading, .int .i64 0, .int .i64 0, .int .i64 d.rejoin, .int .i64 d.quota, .slice none 0 0, .slice none 0 0, .slice none 0 0, .slice none 0 0] 34) = W0 at *
  obtain ⟨hB0, hS0, b0, b1, b2⟩ := HW0.out
  have HB0 := hide hB0
  have Hb1 := hide b1
  have Hb2 := hide (show CfB W0 (w.heap.size + 1 + 1) (N : Nat) (.slice none 0 0) d.drift d.reading 0 0 d.rejoin d.quota from b2)
  clear hW0 HW0 HB HBx hB0 b0 b1 b2
  go_loopw [18] (fun kv wr => ∃ (k : Nat) (A : Option Addr) (c : Nat), k ≤ N ∧ kv = .int .i64 k ∧ wr.ownsRow (w.heap.size + 3) 3 1 (.slice A k c) k (((List.range k).map fun (n : Nat) => (n : Int)).map (Value.int .i64)) ∧ CfB wr (w.heap.size + 1 + 1) (N : Nat) (.slice A k c) d.drift d.reading 0 0 d.rejoin d.quota ∧
    wr.heap[w.heap.size + 1]? = some (.cells #[.int .i64 0, .slice none 0 0, .int .i64 0, .int .i64 0, .int .i64 0, .int .i64 0, .int .i64 0, .int .i64 0, .slice none 0 0, .slice none 0 0, .slice none 0 0, .slice none 0 0] 34 (0, 0)) ∧ Below w.heap.size w wr ∧ w.heap.size + 3 ≤ wr.heap.size) (fun kv _ => N - (intOf kv).toNat)
  case atStart => exact ⟨0, none, 0, Nat.zero_le _, rfl, World.ownsRow_nil _ _ _ _, Hb2.out, Hb1.out, HB0.out, by omega⟩
  case round =>
    clear hS0 HB0 Hb1 Hb2
    obtain ⟨k, A, c, hk, rfl, hO, hC, h1, hb, hs⟩ := hrel
    have HO := hide hO
    have HC := hide hC
    have H1 := hide h1
    have HBr := hide hb
    have hcc := hC.cells
    by_cases hlt : k < N
    · have hb8 := bal wr (.cells #[.int .i64 (k : Nat)] 3)
      have E := hide (fun v5 w5 (h5 : w5.ownsRow (w.heap.size + 3) 3 1 v5 (k + 1) (((List.range k).map fun (n : Nat) => (n : Int)).map (Value.int .i64) ++ [.int .i64 (k : Nat)])) (hg : (wr.alloc (.cells #[.int .i64 (k : Nat)] 3)).grownBy w5 (Value.slice A k c).ownBlock) =>
        show Below w.heap.size w (w5.setCell ⟨w.heap.size + 1 + 1, 1, none⟩ v5) ∧ CfB (w5.setCell ⟨w.heap.size + 1 + 1, 1, none⟩ v5) (w.heap.size + 1 + 1) (N : Nat) v5 d.drift d.reading 0 0 d.rejoin d.quota ∧ (w5.setCell ⟨w.heap.size + 1 + 1, 1, none⟩ v5).heap[w.heap.size + 1]? = some (.cells #[.int .i64 0, .slice none 0 0, .int .i64 0, .int .i64 0, .int .i64 0, .int .i64 0, .int .i64 0, .int .i64 0, .slice none 0 0, .slice none 0 0, .slice none 0 0, .slice none 0 0] 34 (0, 0)) ∧
          (w5.setCell ⟨w.heap.size + 1 + 1, 1, none⟩ v5).ownsRow (w.heap.size + 3) 3 1 v5 (k + 1) (((List.range (k + 1)).map fun (n : Nat) => (n : Int)).map (Value.int .i64)) ∧ w.heap.size + 3 ≤ (w5.setCell ⟨w.heap.size + 1 + 1, 1, none⟩ v5).heap.size ∧ w5.cell? ⟨w.heap.size + 1 + 1, 1, none⟩ = some (.slice A k c) ∧ w5.frozen? ⟨w.heap.size + 1 + 1, 1, none⟩ = false from by
          have hsz := hg.size
          simp only [World.size_alloc] at hsz
          have k2 := (app_keep HO.out hb8 hg (k := w.heap.size + 1 + 1) (by simp; omega) (.inl (by omega))).trans (hb8.block _ (by omega))
          have k1 := (app_keep HO.out hb8 hg (k := w.heap.size + 1) (by simp; omega) (.inl (by omega))).trans (hb8.block _ (by omega))
          have c2 : CfB w5 (w.heap.size + 1 + 1) (N : Nat) (.slice A k c) d.drift d.reading 0 0 d.rejoin d.quota := k2.trans HC.out
          refine ⟨(below_own (HBr.out.trans (hb8.mono HBr.out.size)) (own_below HO.out hb8 (Nat.le_refl _)) hg (by omega) (by simp; omega)).setCell (p := ⟨w.heap.size + 1 + 1, 1, none⟩) (by show w.heap.size ≤ w.heap.size + 1 + 1; omega) _, ?_, (setCell_other (by omega)).trans (k1.trans H1.out), ?_, by simp; omega, c2.cells.c1, c2.cells.f1⟩
          · unfold CfB at c2 ⊢
            rw [set_cells c2]; rfl
          · rw [List.range_succ, List.map_append, List.map_append]
            exact own_stands h5 fun j hj => setCell_other (by have := (own_block h5 hj).2.1; omega))
      obtain ⟨xl, _, c1, _⟩ := hcc
      clear hb8 hO hC h1 hb
      go_wp2_with (at_builtin; refine wpList_one _ rfl _ _ 28 rfl 3 (.int .i64 0) 1 8 Tryd.underlying28 info_num rfl (by decide) (by decide) (w.heap.size + 3) _ _ _ rfl (own_below HO.out (bal wr _) (Nat.le_refl _)) _ _ [.int .i64 (k : Nat)] rfl (heap_alloc_new wr _) rfl (by simp [Value.oneCell']) (by omega) (by simp; omega) ?_; intro v5 w5 hown5 hgr5 hwh; obtain ⟨x1, x2, x3, x4, x5, x6, x7⟩ := E.out v5 w5 hown5 hgr5; obtain ⟨A5, c5, rfl⟩ := own_slice hown5; have HX1 := hide x1; have HX2 := hide x2; have HX3 := hide x3; have HX4 := hide x4; have HX5 := hide x5; clear hown5 hgr5 hwh x1 x2 x3 x4 x5)
      go_roundw
      case rel => exact ⟨k + 1, _, _, hlt, by go_num, HX4.out, HX2.out, HX3.out, HX1.out, HX5.out⟩
      case measure => simp [intOf]; omega
    · obtain rfl : k = N := by omega
      clear hO hC h1 hb
      go_upto_region 7 with fail
      have hP := fun W => precision_at (k : Nat) d.drift d.reading 0 0 d.rejoin d.quota A k c W d1 d2 r1 r2
      have HP := hide hP
      clear hP
      have hb0 : Below wr.heap.size wr wr.drew := below_drewN (Below.refl _ _) 1
      have hC0 := hide (show CfB wr.drew (w.heap.size + 1 + 1) (k : Nat) (.slice A k c) d.drift d.reading 0 0 d.rejoin d.quota from HC.out)
      obtain ⟨xl, c0, c1, c2, c3, c4, c5, c6, c7, c8, c9, c10, c11, f1, f4, f5⟩ := hC0.out.cells
      have HB0 := hide (HBr.out.trans (hb0.mono HBr.out.size))
      have H10 := hide (show wr.drew.heap[w.heap.size + 1]? = _ from H1.out)
      have HO0 := hide (own_below HO.out hb0 (Nat.le_refl _))
      have hs0 : wr.drew.heap.size = wr.heap.size := rfl
      clear hcc hb0
      have hw1 : IntKind.i64.wrap (2 * (2 * (d.drift + d.reading) + 1)) = 2 * (2 * (d.drift + d.reading) + 1) := by rw [IntKind.wrap_i64]; omega
      have hw2 : IntKind.i64.wrap (2 * (2 * (d.drift + d.reading) + 1) + d.reading) = 2 * (2 * (d.drift + d.reading) + 1) + d.reading := by rw [IntKind.wrap_i64]; omega
      refine wp_region_held_drew (S := fun w' => w'.cell? ⟨w.heap.size + 1 + 1, 3, none⟩ = some (.int .i64 d.reading)) (by kernel_rfl) (c3) (fun hHeld => ?_)
      generalize hwd : wr.drew = wd at *
      refine wpAnyH_take (i := 3) (v := ?v2) rfl (by kernel_rfl) (by kernel_rfl) (by kernel_rfl) (fun _ _ _ h => h) (Or.inl ⟨by kernel_rfl, ?y2⟩) (by assumption) ?r2
      case y2 => (intro W hSW; (try dsimp only at hSW); go_simp; (try with_reducible rfl))
      change wpAnyH _ _ _ _ _ _ _ (Act.put _ (some 31) _) _
      (try simp only [Act.put, List.setIfInBounds_toArray, List.set_cons_zero, List.set_cons_succ])
      refine wpAnyH_take (i := 4) (v := ?v3) rfl (by kernel_rfl) (by kernel_rfl) (by kernel_rfl) (fun _ _ _ h => h) (Or.inl ⟨by kernel_rfl, ?y3⟩) (by assumption) ?r3
      case y3 => (intro W hSW; (try dsimp only at hSW); go_simp; (try with_reducible rfl))
      change wpAnyH _ _ _ _ _ _ _ (Act.put _ (some 32) _) _
      (try simp only [Act.put, List.setIfInBounds_toArray, List.set_cons_zero, List.set_cons_succ])
      refine wpAnyH_ready (rs := [0]) (by kernel_rfl) (by simp) ?_
      refine AllReadyH.cons rfl (fun K hK => ?_) AllReadyH.nil
      rw [if_pos (by rfl)]
      go_simp
      refine hK.out _ _ (c3) (fun hHeld => ?_)
      clear hK K
      (try simp only [Act.put, List.setIfInBounds_toArray, List.set_cons_zero, List.set_cons_succ])
      refine wpAnyH_ready (rs := [1]) (by kernel_rfl) (by simp) ?_
      refine AllReadyH.cons rfl (fun K hK => ?_) AllReadyH.nil
      rw [if_pos (by rfl)]
      go_simp
      refine (HP.out _).mono ?_
      rintro e w1 ⟨rfl, hb1⟩
      have HK1 := hide ((bcl hb1 xl).trans c3)
      have HX1 := hide (hC0.out.cells)
      have HB1 := hide (HB0.out.trans (hb1.mono HB0.out.size))
      have HC1 := hide (show CfB w1 (w.heap.size + 1 + 1) (k : Nat) (.slice A k c) d.drift d.reading 0 0 d.rejoin d.quota from (hb1.block _ xl).trans hC0.out)
      have HR1 := hide ((hb1.block (w.heap.size + 1) (by omega)).trans H10.out)
      have HO1 := hide (own_below HO0.out hb1 (Nat.le_refl _))
      have hs1 := hb1.size
      clear hb1 xl c0 c1 c2 c3 c4 c5 c6 c7 c8 c9 c10 c11 f1 f4 f5
      obtain ⟨xl, c0, c1, c2, c3, c4, c5, c6, c7, c8, c9, c10, c11, f1, f4, f5⟩ := HC1.out.cells
      go_simp
      refine hK.out _ _ (HK1.out) (fun hHeld => ?_)
      clear hK K
      (try simp only [Act.put, List.setIfInBounds_toArray, List.set_cons_zero, List.set_cons_succ])
      refine wpAnyH_take (i := 2) (v := ?v6) rfl (by kernel_rfl) (by kernel_rfl) (by kernel_rfl) (fun _ _ _ h => h) (Or.inl ⟨by kernel_rfl, ?y6⟩) (by assumption) ?r6
      case y6 => (intro W hSW; (try dsimp only at hSW); go_simp; (try with_reducible rfl))
      change wpAnyH _ _ _ _ _ _ _ (Act.put _ (some 30) _) _
      (try simp only [Act.put, List.setIfInBounds_toArray, List.set_cons_zero, List.set_cons_succ])
      refine wpAnyH_take (i := 5) (v := ?v7) rfl (by kernel_rfl) (by kernel_rfl) (by kernel_rfl) (fun _ _ _ h => h) (Or.inl ⟨by kernel_rfl, ?y7⟩) (by assumption) ?r7
      case y7 => (intro W hSW; (try dsimp only at hSW); go_simp; (try with_reducible rfl))
      change wpAnyH _ _ _ _ _ _ _ (Act.put _ (some 33) _) _
      (try simp only [Act.put, List.setIfInBounds_toArray, List.set_cons_zero, List.set_cons_succ])
      refine wpAnyH_take (i := 6) (v := ?v8) rfl (by kernel_rfl) (by kernel_rfl) (by kernel_rfl) (fun _ _ _ h => h) (Or.inl ⟨by kernel_rfl, ?y8⟩) (by assumption) ?r8
      case y8 => (intro W hSW; (try dsimp only at hSW); go_simp; (try with_reducible rfl))
      change wpAnyH _ _ _ _ _ _ _ (Act.put _ (some 34) _) _
      (try simp only [Act.put, List.setIfInBounds_toArray, List.set_cons_zero, List.set_cons_succ])
      refine wpAnyH_ready (rs := [7]) (by kernel_rfl) (by simp) ?_
      refine AllReadyH.cons rfl (fun K hK => ?_) AllReadyH.nil
      rw [if_pos (by rfl)]
      go_simp
      have HK2 := hide (show (w1.setCell ⟨w.heap.size + 1 + 1, 4, none⟩ (.int .i64 (2 * (2 * (d.drift + d.reading) + 1) + d.reading))).cell? ⟨w.heap.size + 1 + 1, 3, none⟩ = some (.int .i64 d.reading) from by simp [go_sem, c3])
      refine hK.out _ _ (HK2.out) (fun hHeld => ?_)
      clear hK K
      (try simp only [Act.put, List.setIfInBounds_toArray, List.set_cons_zero, List.set_cons_succ])
      refine wpAnyH_done (by kernel_rfl) ?_ _
      obtain ⟨B, hB⟩ : ∃ B, B = 2 * (2 * (d.drift + d.reading) + 1) + d.reading := ⟨_, rfl⟩
      rw [← hB]
      have HBd2 := hide (HBd.out.trans hB.symm)
      have hC2 := hide (show CfB (w1.setCell ⟨w.heap.size + 1 + 1, 4, none⟩ (.int .i64 B)) (w.heap.size + 1 + 1) (k : Nat) (.slice A k c) d.drift d.reading B 0 d.rejoin d.quota from by have := HC1.out; unfold CfB at this ⊢; rw [set_cells this]; rfl)
      have hR2 := hide (show CfB (w1.setCell ⟨w.heap.size + 1 + 1, 4, none⟩ (.int .i64 B)) (w.heap.size + 1) 0 (.slice none 0 0) 0 0 0 0 0 0 from (setCell_other (by omega)).trans HR1.out)
      have HO2 := hide (own_stands (W' := w1.setCell ⟨w.heap.size + 1 + 1, 4, none⟩ (.int .i64 B)) HO1.out fun j hj => setCell_other (by have := (own_block HO1.out hj).2.1; omega))
      have HB2 := hide (HB1.out.setCell (p := ⟨w.heap.size + 1 + 1, 4, none⟩) (by show w.heap.size ≤ w.heap.size + 1 + 1; omega) (.int .i64 B))
      clear hw1 hw2 hB hHeld HK2 c0 c1 c2 c3 c4 c5 c6 c7 c8 c9 c10 c11 f1 f4 f5 HX1 HC1 HR1 HO1 HB1
      generalize w1.setCell ⟨w.heap.size + 1 + 1, 4, none⟩ (.int .i64 B) = w2 at *
      have hC3 := hide (show CfB (w2.setCell ⟨w.heap.size + 1 + 1, 5, none⟩ (.int .i64 B)) (w.heap.size + 1 + 1) (k : Nat) (.slice A k c) d.drift d.reading B B d.rejoin d.quota from by have := hC2.out; unfold CfB at this ⊢; rw [set_cells this]; rfl)
      have hR3 := hide (show CfB (w2.setCell ⟨w.heap.size + 1 + 1, 5, none⟩ (.int .i64 B)) (w.heap.size + 1) 0 (.slice none 0 0) 0 0 0 0 0 0 from (setCell_other (by omega)).trans hR2.out)
      have HO3 := hide (own_stands (W' := w2.setCell ⟨w.heap.size + 1 + 1, 5, none⟩ (.int .i64 B)) HO2.out fun j hj => setCell_other (by have := (own_block HO2.out hj).2.1; omega))
      have HB3 := hide (HB2.out.setCell (p := ⟨w.heap.size + 1 + 1, 5, none⟩) (by show w.heap.size ≤ w.heap.size + 1 + 1; omega) (.int .i64 B))
      obtain ⟨xl, c0, c1, c2, c3, c4, c5, c6, c7, c8, c9, c10, c11, f1, f4, f5⟩ := hC2.out.cells
      go_upto_region 9 with fail
      clear xl c0 c1 c2 c3 c4 c5 c6 c7 c8 c9 c10 c11 f1 f4 f5
      generalize w2.setCell ⟨w.heap.size + 1 + 1, 5, none⟩ (.int .i64 B) = w3 at *
      obtain ⟨xl, c0, c1, c2, c3, c4, c5, c6, c7, c8, c9, c10, c11, f1, f4, f5⟩ := hC3.out.cells
      have hfr : ∀ j, w3.frozen? ⟨w.heap.size + 1, j, none⟩ = false := fun j => by have := hR3.out; unfold CfB at this; simp [World.frozen?, this]
      have g0 := hfr 0
      have g1 := hfr 1
      have g2 := hfr 2
      have g3 := hfr 3
      have g4 := hfr 4
      have g5 := hfr 5
      have g6 := hfr 6
      have g7 := hfr 7
      have g8 := hfr 8
      have g9 := hfr 9
      have g10 := hfr 10
      have g11 := hfr 11
      clear hfr
      obtain ⟨yl, e0, e1, e2, e3, e4, e5, e6, e7, e8, e9, e10, e11, _, _, _⟩ := hR3.out.cells
      go_wp2_with fail
      clear c0 c1 c2 c3 c4 c5 c6 c7 c8 c9 c10 c11 f1 f4 f5 g0 g1 g2 g3 g4 g5 g6 g7 g8 g9 g10 g11 e0 e1 e2 e3 e4 e5 e6 e7 e8 e9 e10 e11
      change bodyPost _ _ _ _ _ (set12 w3 (w.heap.size + 1) (.int .i64 (k : Nat)) (.slice A k c) (.int .i64 d.drift) (.int .i64 d.reading) (.int .i64 B) (.int .i64 B) (.int .i64 d.rejoin) (.int .i64 d.quota) (.slice none 0 0) (.slice none 0 0) (.slice none 0 0) (.slice none 0 0))
      have hR4 : CfB (set12 w3 (w.heap.size + 1) (.int .i64 (k : Nat)) (.slice A k c) (.int .i64 d.drift) (.int .i64 d.reading) (.int .i64 B) (.int .i64 B) (.int .i64 d.rejoin) (.int .i64 d.quota) (.slice none 0 0) (.slice none 0 0) (.slice none 0 0) (.slice none 0 0)) (w.heap.size + 1) (k : Nat) (.slice A k c) d.drift d.reading B B d.rejoin d.quota := set12_row hR3.out
      have hO4 := own_stands (W' := set12 w3 (w.heap.size + 1) (.int .i64 (k : Nat)) (.slice A k c) (.int .i64 d.drift) (.int .i64 d.reading) (.int .i64 B) (.int .i64 B) (.int .i64 d.rejoin) (.int .i64 d.quota) (.slice none 0 0) (.slice none 0 0) (.slice none 0 0) (.slice none 0 0)) HO3.out fun j hj => set12_other (by have := (own_block HO3.out hj).2.1; omega)
      have hB4 : Below w.heap.size w (set12 w3 (w.heap.size + 1) (.int .i64 (k : Nat)) (.slice A k c) (.int .i64 d.drift) (.int .i64 d.reading) (.int .i64 B) (.int .i64 B) (.int .i64 d.rejoin) (.int .i64 d.quota) (.slice none 0 0) (.slice none 0 0) (.slice none 0 0) (.slice none 0 0)) := set12_below HB3.out (by omega)
      generalize set12 w3 (w.heap.size + 1) (.int .i64 (k : Nat)) (.slice A k c) (.int .i64 d.drift) (.int .i64 d.reading) (.int .i64 B) (.int .i64 B) (.int .i64 d.rejoin) (.int .i64 d.quota) (.slice none 0 0) (.slice none 0 0) (.slice none 0 0) (.slice none 0 0) = w4 at *
      obtain ⟨xl, c0, c1, c2, c3, c4, c5, c6, c7, c8, c9, c10, c11, f1, f4, f5⟩ := hR4.cells
      have hln : (List.map (fun (n : Nat) => (n : Int)) (List.range k)).length = k := by simp
      have hfin := own_lies (f := inC) (n := 1) (fun _ => rfl) 0 (l := (List.range k).map fun (n : Nat) => (n : Int)) (by rw [hln, inC_map]; exact hO4)
      rw [hln] at hfin
      obtain ⟨A', c', e1, e2, e3, e4⟩ := hfin
      cases e1
      refine bodyPost_ret (v := .agg #[.int .i64 (k : Nat), .slice A k c, .int .i64 d.drift, .int .i64 d.reading, .int .i64 B, .int .i64 B, .int .i64 d.rejoin, .int .i64 d.quota, .slice none 0 0, .slice none 0 0, .slice none 0 0, .slice none 0 0]) ?_ rfl ⟨hB4, A, c, by rw [HBd2.out], e2, e3, fun W' hg => own_intsA (l := (List.range k).map fun (n : Nat) => (n : Int)) (c := c) (by rw [hln]; exact hg.own hO4 (by omega)) ?_⟩
      · simp [results, Tryd.results16, go_sem, c0, c1, c2, c3, c4, c5, c6, c7, c8, c9, c10, c11]
      · intro z hz
        obtain ⟨n, hn, rfl⟩ := List.mem_map.1 hz
        have := List.mem_range.1 hn
        unfold I64; omega
end Go.Proofs.YtdennekkbdlhdaaDoor
