/-
  The document's own reading of a frame's bytes, whatever their sum.
-/
import Derived.Test.YtihldmcakcobaaaReadAny
import Derived.Test.YtihldmcakcobaaaSlice
import Derived.Test.YtihldmcakcobaaaStr
import Derived.Test.YtihldmcakcobaaaRefEncOk
namespace Go.Proofs.Ytihldmcakcobaaa
open Go.RowKit Go.Shelf
set_option linter.unusedVariables false

set_option maxRecDepth 100000 in
set_option maxHeartbeats 1000000 in
theorem told_long (n : Nat) (A : Option Addr) (cap : Nat) (w : World) (hn : n ≠ 75) (hm : n ≤ maxLen) :
    Calls Try.prog 29 #[.slice A n cap] w fun e w' => e = .returned (.tuple #[.agg fr0, .bool false]) ∧ Below w.heap.size w w' := by
  have h1 : ((n : Int) != 75) = true := by simp; omega
  have h2 : ((n : Int) == 75) = false := by simp; omega
  have hz := (zero_of_info info_fr).1
  have H := hide hn; clear hn
  have H0 := hide (heap_alloc_new w (.cells fr0 27))
  go_enter Try.func29, Try.ntmps29
  go_wp2_with (refine wpList_store_row rfl 27 (.tmp 2) (.tmp 21) rfl w.heap.size fr0 rfl rfl 27 _ H0.out (fr_info fr0_size) rfl (frv_one _ _ _ _) ?_)
  refine bodyPost_ret (results_row_slot (fn := Try.f29) rfl _ _ w.heap.size 27 fr0 (0, 0) rfl _ rfl ?_ fr0_size) rfl ⟨rfl, ?_⟩
  · exact setRow_heap _ _ _ _ _ _ H0.out
  · exact below_setRow ((Below.refl _ _).alloc (Nat.le_refl _) _) (Nat.le_refl _) _

set_option maxRecDepth 100000 in
set_option maxHeartbeats 1000000 in
theorem told_no (c6 c0 : Nat) (blk off cap : Nat) (w : World) (hcap : 75 ≤ cap) (hm : cap ≤ maxLen) (h6 : w.cell? ⟨blk, off + 6, none⟩ = some (.int .u8 (c6 : Int))) (h0 : w.cell? ⟨blk, off, none⟩ = some (.int .u8 (c0 : Int)))
    (ho : 15 < c6 ∨ 127 < c0) :
    Calls Try.prog 29 #[.slice (some ⟨blk, off, none⟩) 75 cap] w fun e w' => e = .returned (.tuple #[.agg fr0, .bool false]) ∧ Below w.heap.size w w' := by
  have hz := (zero_of_info info_fr).1
  have hblk : blk < w.heap.size := World.block_lt_of_cell? w _ h6
  have h6' : (w.alloc (.cells fr0 27)).cell? ⟨blk, off + 6, none⟩ = some (.int .u8 (c6 : Int)) := (bcl (bal _ _) hblk).trans h6
  have h0' : (w.alloc (.cells fr0 27)).cell? ⟨blk, off, none⟩ = some (.int .u8 (c0 : Int)) := (bcl (bal _ _) hblk).trans h0
  have H0 := hide (heap_alloc_new w (.cells fr0 27))
  clear h6 h0
  by_cases h : 15 < c6
  · clear ho
    go_enter Try.func29, Try.ntmps29
    go_wp2_with (refine wpList_store_row rfl 27 (.tmp 2) (.tmp 21) rfl w.heap.size fr0 rfl rfl 27 _ H0.out (fr_info fr0_size) rfl (frv_one _ _ _ _) ?_)
    refine bodyPost_ret (results_row_slot (fn := Try.f29) rfl _ _ w.heap.size 27 fr0 (0, 0) rfl _ rfl ?_ fr0_size) rfl ⟨rfl, ?_⟩
    · exact setRow_heap _ _ _ _ _ _ H0.out
    · exact below_setRow ((Below.refl _ _).alloc (Nat.le_refl _) _) (Nat.le_refl _) _
  · have h2 : 127 < c0 := by omega
    clear ho
    go_enter Try.func29, Try.ntmps29
    go_wp2_with (refine wpList_store_row rfl 27 (.tmp 2) (.tmp 21) rfl w.heap.size fr0 rfl rfl 27 _ H0.out (fr_info fr0_size) rfl (frv_one _ _ _ _) ?_)
    refine bodyPost_ret (results_row_slot (fn := Try.f29) rfl _ _ w.heap.size 27 fr0 (0, 0) rfl _ rfl ?_ fr0_size) rfl ⟨rfl, ?_⟩
    · exact setRow_heap _ _ _ _ _ _ H0.out
    · exact below_setRow ((Below.refl _ _).alloc (Nat.le_refl _) _) (Nat.le_refl _) _

theorem built_fr1 (o : Int) : Try.prog.built 27 [(0, .int .i64 o)] = some (frv o 0 0 zeros64) := by kernel_rfl
theorem setCell_row {w : World} {g k : Nat} {v : Value} {cs : Array Value} {t : TypeId} {fr : Nat × Nat} (h : w.heap[g]? = some (.cells cs t fr)) : (w.setCell ⟨g, k, none⟩ v).heap[g]? = some (.cells (cs.setIfInBounds k v) t fr) := by
  show (w.heap.modify g _)[g]? = _
  rw [Array.getElem?_modify, if_pos rfl, h]
  rfl
theorem frv_set1 (o s m s' : Int) (p : List Nat) : (frv o s m p).setIfInBounds 1 (.int .i64 s') = frv o s' m p := by
  simp [frv]
theorem frv_set2 (o s m m' : Int) (p : List Nat) : (frv o s m p).setIfInBounds 2 (.int .u16 m') = frv o s m' p := by
  simp [frv]
theorem frv_set3 (o s m : Int) (p : List Nat) (k c : Nat) : (frv o s m p).setIfInBounds (3 + k) (.int .u8 (c : Int)) = frv o s m (p.set k c) := by
  rw [Nat.add_comm 3 k]
  simp [frv, bys, List.map_set]

theorem i64_small {n : Nat} (h : n < 4294967296) : IntKind.i64.wrap (n : Int) = n := by
  rw [IntKind.wrap_i64]
  omega
theorem wp_cut2 {c : Code} {Q : Exit → Act → World → Prop} {a : Act} {w : World} (I : Act → World → Prop) (h1 : c.wp Try.prog (fun e a w => e = .normal ∧ I a w) a w) (h2 : ∀ a w, I a w → Q .normal a w) : c.wp Try.prog Q a w :=
  (wpIn_wide (n := 0)).1 (wpIn_mono ((wpIn_wide (n := 0)).2 h1) fun e a w h => by obtain ⟨rfl, h⟩ := h; exact h2 a w h)
/-- where the loop over the payload stands -/
structure TI (w : World) (n m c6 : Nat) (p : List Nat) (k : Nat) (wr : World) : Prop where
  bel : Below w.heap.size w wr
  out : wr.heap[w.heap.size]? = some (.cells fr0 27 (0, 0))
  row : ∃ q : List Nat, q.length = 64 ∧ (∀ j, j < k → q.getD j 0 = p.getD j 0) ∧ wr.heap[w.heap.size + 1]? = some (.cells (frv c6 n m q) 27 (0, 0))
theorem TI.next {w wr : World} {n m c6 : Nat} {p : List Nat} {k : Nat} (h : TI w n m c6 p k wr) (hk : k < 64) (c : Nat) (hc : p.getD k 0 = c) : TI w n m c6 p (k + 1) (wr.setCell ⟨w.heap.size + 1, 3 + k, none⟩ (.int .u8 (c : Int))) := by
  obtain ⟨q, hq, hqk, hr⟩ := h.row
  refine ⟨h.bel.setCell (p := ⟨w.heap.size + 1, 3 + k, none⟩) (by show _ ≤ w.heap.size + 1; omega) _, (heap_setCell_other _ _ _ _ (by show w.heap.size ≠ w.heap.size + 1; omega)).trans h.out, q.set k c, by rw [List.length_set]; exact hq, fun j hj => ?_, ?_⟩
  · rw [List.getD_eq_getElem?_getD, List.getElem?_set]
    by_cases e : k = j
    · subst e
      rw [if_pos rfl, if_pos (by omega)]
      exact hc.symm
    · rw [if_neg e, ← List.getD_eq_getElem?_getD]
      exact hqk j (by omega)
  · rw [setCell_row hr, frv_set3]

theorem TI.there {w wr : World} {n m c6 : Nat} {p : List Nat} {k : Nat} (h : TI w n m c6 p k wr) (i : Nat) (hi : i < 67) : ∃ v, wr.cell? ⟨w.heap.size + 1, i, none⟩ = some v ∧ wr.frozen? ⟨w.heap.size + 1, i, none⟩ = false := by
  obtain ⟨q, hq, _, hr⟩ := h.row
  exact ⟨_, by rw [cell_of_row _ _ _ _ _ _ hr]; exact Array.getElem?_eq_getElem (by rw [frv_size, hq]; exact hi), by simp [World.frozen?, hr]⟩
/-- where the two regions stand that store the state: d is 0 (the slot) or 1 (the members) -/
structure TC (w : World) (blk off : Nat) (cs : List Nat) (c6 n m d n0 : Nat) (W : World) : Prop where
  bel : Below w.heap.size w W
  out : W.heap[w.heap.size]? = some (.cells fr0 27 (0, 0))
  row : W.heap[w.heap.size + 1]? = some (.cells (frv (c6 : Int) n0 0 zeros64) 27 (0, 0)) ∨ W.heap[w.heap.size + 1]? = some (.cells (frv (c6 : Int) n m zeros64) 27 (0, 0))
  bytes : ∀ k, k < 6 → W.cell? ⟨blk, off + k, none⟩ = some (.int .u8 ((cs.getD k 0 : Nat) : Int))
section
variable {w : World} {blk off : Nat} {cs : List Nat} {c6 n m d n0 : Nat} {W : World}
theorem TC.drew (h : TC w blk off cs c6 n m d n0 W) : TC w blk off cs c6 n m d n0 { W with drawn := W.drawn + 1 } := ⟨below_drewN h.bel 1, h.out, h.row, h.bytes⟩
theorem TC.set (h : TC w blk off cs c6 n m d n0 W) (hblk : blk < w.heap.size) (k : Nat) (v : Value) (hr : (W.setCell ⟨w.heap.size + 1, k, none⟩ v).heap[w.heap.size + 1]? = some (.cells (frv (c6 : Int) n m zeros64) 27 (0, 0))) :
    TC w blk off cs c6 n m d n0 (W.setCell ⟨w.heap.size + 1, k, none⟩ v) :=
  ⟨h.bel.setCell (p := ⟨w.heap.size + 1, k, none⟩) (by show _ ≤ w.heap.size + 1; omega) _, (heap_setCell_other _ _ _ _ (by show w.heap.size ≠ w.heap.size + 1; omega)).trans h.out, .inr hr,
    fun j hj => (World.cell?_of_block (a := ⟨blk, off + j, none⟩) (heap_setCell_other _ _ _ _ (by show blk ≠ w.heap.size + 1; omega))).trans (h.bytes j hj)⟩
theorem TC.row1 (h : TC w blk off cs c6 n 0 d n0 W) : (W.setCell ⟨w.heap.size + 1, 1, none⟩ (.int .i64 (n : Int))).heap[w.heap.size + 1]? = some (.cells (frv (c6 : Int) n 0 zeros64) 27 (0, 0)) := by
  rcases h.row with h | h
  · rw [setCell_row h, frv_set1]
  · rw [setCell_row h, frv_set1]; rfl
theorem TC.row2 (h : TC w blk off cs c6 n m d n W) : (W.setCell ⟨w.heap.size + 1, 2, none⟩ (.int .u16 (m : Int))).heap[w.heap.size + 1]? = some (.cells (frv (c6 : Int) n m zeros64) 27 (0, 0)) := by
  rcases h.row with h | h
  · rw [setCell_row h, frv_set2]
  · rw [setCell_row h, frv_set2]
theorem TC.set1 (h : TC w blk off cs c6 n 0 d n0 W) (hblk : blk < w.heap.size) : TC w blk off cs c6 n 0 d n0 (W.setCell ⟨w.heap.size + 1, 1, none⟩ (.int .i64 (n : Int))) := h.set hblk _ _ h.row1
theorem TC.set2 (h : TC w blk off cs c6 n m d n W) (hblk : blk < w.heap.size) : TC w blk off cs c6 n m d n (W.setCell ⟨w.heap.size + 1, 2, none⟩ (.int .u16 (m : Int))) := h.set hblk _ _ h.row2
theorem TC.there (h : TC w blk off cs c6 n m d n0 W) (k : Nat) (hk : k < 67) : ∃ v, W.cell? ⟨w.heap.size + 1, k, none⟩ = some v ∧ W.frozen? ⟨w.heap.size + 1, k, none⟩ = false := by
  rcases h.row with h | h
  · exact ⟨_, by rw [cell_of_row _ _ _ _ _ _ h]; exact Array.getElem?_eq_getElem (by rw [frv_size]; simpa [zeros64] using hk), by simp [World.frozen?, h]⟩
  · exact ⟨_, by rw [cell_of_row _ _ _ _ _ _ h]; exact Array.getElem?_eq_getElem (by rw [frv_size]; simpa [zeros64] using hk), by simp [World.frozen?, h]⟩
end
theorem factV {ops : Array Oper} {C R : World → Prop} {L : List Value} {K : Nat} {l : Array Bool} {vals : Nat → Value} {W : World} (hI : Inv .any ops C (fun j v W => v = L.getD j undef ∧ (j = K → R W)) (fun _ => 1000) l vals W) {j : Nat} (hj : l.getD j false = true) (hs : ops.size ≤ 1000) : vals j = L.getD j undef :=
  (hI.fact j hj (by rw [Array.getD_eq_getD_getElem?, Array.getElem?_eq_none (by rw [hI.siz]; exact hs)]; rfl)).1

set_option maxRecDepth 100000 in
set_option maxHeartbeats 3000000 in
theorem told_ok (p : List Nat) (c0 c1 c2 c3 c4 c5 c6 n m : Nat) (blk off cap : Nat) (w : World) (hcap : 75 ≤ cap) (hm : cap ≤ maxLen) (hp : p.length = 64) (hpc : ∀ j, j < 64 → w.cell? ⟨blk, off + 7 + j, none⟩ = some (.int .u8 ((p.getD j 0 : Nat) : Int)))
    (h0 : w.cell? ⟨blk, off, none⟩ = some (.int .u8 (c0 : Int))) (h1 : w.cell? ⟨blk, off + 1, none⟩ = some (.int .u8 (c1 : Int))) (h2 : w.cell? ⟨blk, off + 2, none⟩ = some (.int .u8 (c2 : Int))) (h3 : w.cell? ⟨blk, off + 3, none⟩ = some (.int .u8 (c3 : Int)))
    (h4 : w.cell? ⟨blk, off + 4, none⟩ = some (.int .u8 (c4 : Int))) (h5 : w.cell? ⟨blk, off + 5, none⟩ = some (.int .u8 (c5 : Int))) (h6 : w.cell? ⟨blk, off + 6, none⟩ = some (.int .u8 (c6 : Int)))
    (b0 : c0 ≤ 127) (b1 : c1 < 256) (b2 : c2 < 256) (b3 : c3 < 256) (b4 : c4 < 256) (b5 : c5 < 256) (b6 : c6 ≤ 15) (hn : ((c0 * 256 + c1) * 256 + c2) * 256 + c3 = n) (hmm : c4 * 256 + c5 = m) :
    Calls Try.prog 29 #[.slice (some ⟨blk, off, none⟩) 75 cap] w fun e w' => e = .returned (.tuple #[.agg (frv c6 n m p), .bool true]) ∧ Below w.heap.size w w' := by
  have hz := (zero_of_info info_fr).1
  have hblk : blk < w.heap.size := World.block_lt_of_cell? w _ h6
  obtain ⟨w1, hw1⟩ : ∃ w1, w.alloc (.cells fr0 27) = w1 := ⟨_, rfl⟩
  have hb1 : Below w.heap.size w w1 := by rw [← hw1]; exact bal w _
  have H0 := hide (show w1.heap[w.heap.size]? = some (.cells fr0 27 (0, 0)) by rw [← hw1]; exact heap_alloc_new w _)
  have z1 : w1.heap.size = w.heap.size + 1 := by rw [← hw1]; simp
  have g0 : w1.cell? ⟨blk, off, none⟩ = some (.int .u8 (c0 : Int)) := (bcl hb1 hblk).trans h0
  have g6 : w1.cell? ⟨blk, off + 6, none⟩ = some (.int .u8 (c6 : Int)) := (bcl hb1 hblk).trans h6
  have HPC := hide hpc; have HP := hide hp
  have HB1 := hide hb1; have Z1 := hide z1
  have G0 := hide h0; have G1 := hide h1; have G2 := hide h2; have G3 := hide h3; have G4 := hide h4; have G5 := hide h5
  have Hn := hide hn; have Hm := hide hmm
  have n1 := hide (heap_alloc_new w1 (.cells fr0 27))
  clear h0 h1 h2 h3 h4 h5 h6 hpc hp hb1 z1 hn hmm
  go_enter Try.func29, Try.ntmps29
  go_wp2_with (first
    | (refine wpList_built rfl 27 _ rfl (frv (c6 : Int) 0 0 zeros64) (by kernel_rfl) ?_)
    | (refine wpList_store_row rfl 27 (.tmp 4) (.tmp 26) rfl w1.heap.size (frv (c6 : Int) 0 0 zeros64) rfl rfl 27 _ n1.out (fr_info (by rw [frv_size]; rfl)) (by rw [fr0_size, frv_size]; rfl) (frv_one _ _ _ _) ?_))
  obtain ⟨w2, hw2⟩ : ∃ w2, (w1.alloc (.cells fr0 27)).setRow w1.heap.size (frv (c6 : Int) 0 0 zeros64) = w2 := ⟨_, rfl⟩
  have r2 : w2.heap[w.heap.size + 1]? = some (.cells (frv (c6 : Int) 0 0 zeros64) 27 (0, 0)) := by rw [← hw2, ← Z1.out]; exact setRow_heap _ _ _ _ _ _ n1.out
  have o2 : w2.heap[w.heap.size]? = some (.cells fr0 27 (0, 0)) := by
    rw [← hw2, setRow_other _ _ _ _ (by have := Z1.out; omega)]
    exact (heap_alloc_old w1 _ (by have := Z1.out; omega)).trans H0.out
  have hb2 : Below w.heap.size w w2 := by rw [← hw2]; exact below_setRow (HB1.out.alloc (by have := Z1.out; omega) _) (by have := Z1.out; omega) _
  rw [hw2]
  clear hw2 n1 g0 g6
  have k0 : w2.cell? ⟨blk, off, none⟩ = some (.int .u8 (c0 : Int)) := (bcl hb2 hblk).trans G0.out
  have k1 : w2.cell? ⟨blk, off + 1, none⟩ = some (.int .u8 (c1 : Int)) := (bcl hb2 hblk).trans G1.out
  have k2 : w2.cell? ⟨blk, off + 2, none⟩ = some (.int .u8 (c2 : Int)) := (bcl hb2 hblk).trans G2.out
  have k3 : w2.cell? ⟨blk, off + 3, none⟩ = some (.int .u8 (c3 : Int)) := (bcl hb2 hblk).trans G3.out
  -- from here on: tools/gentold.py
  rw [Z1.out]
  have v0 : IntKind.i64.wrap (c0 : Int) = c0 := i64_small (by omega)
  have v1 : IntKind.i64.wrap (c1 : Int) = c1 := i64_small (by omega)
  have v2 : IntKind.i64.wrap (c2 : Int) = c2 := i64_small (by omega)
  have v3 : IntKind.i64.wrap (c3 : Int) = c3 := i64_small (by omega)
  have v4 : IntKind.u16.wrap (c4 : Int) = c4 := by show (c4 : Int) % 65536 = _; omega
  have v5 : IntKind.u16.wrap (c5 : Int) = c5 := by show (c5 : Int) % 65536 = _; omega
  obtain ⟨y1, hy1, x1⟩ : ∃ y : Nat, y = c0 * 256 ∧ IntKind.i64.wrap ((c0 : Int) * 256) = (y : Int) := ⟨c0 * 256, rfl, by rw [show (c0 : Int) * 256 = ((c0 * 256 : Nat) : Int) by simp]; exact i64_small (by omega)⟩
  obtain ⟨y2, hy2, x2⟩ : ∃ y : Nat, y = y1 + c1 ∧ IntKind.i64.wrap ((y1 : Int) + c1) = (y : Int) := ⟨y1 + c1, rfl, by rw [show (y1 : Int) + c1 = ((y1 + c1 : Nat) : Int) by simp]; exact i64_small (by omega)⟩
  obtain ⟨y3, hy3, x3⟩ : ∃ y : Nat, y = y2 * 256 ∧ IntKind.i64.wrap ((y2 : Int) * 256) = (y : Int) := ⟨y2 * 256, rfl, by rw [show (y2 : Int) * 256 = ((y2 * 256 : Nat) : Int) by simp]; exact i64_small (by omega)⟩
  obtain ⟨y4, hy4, x4⟩ : ∃ y : Nat, y = y3 + c2 ∧ IntKind.i64.wrap ((y3 : Int) + c2) = (y : Int) := ⟨y3 + c2, rfl, by rw [show (y3 : Int) + c2 = ((y3 + c2 : Nat) : Int) by simp]; exact i64_small (by omega)⟩
  obtain ⟨y5, hy5, x5⟩ : ∃ y : Nat, y = y4 * 256 ∧ IntKind.i64.wrap ((y4 : Int) * 256) = (y : Int) := ⟨y4 * 256, rfl, by rw [show (y4 : Int) * 256 = ((y4 * 256 : Nat) : Int) by simp]; exact i64_small (by omega)⟩
  have x6 : IntKind.i64.wrap ((y5 : Int) + c3) = (n : Int) := by rw [show (y5 : Int) + c3 = ((y5 + c3 : Nat) : Int) by simp, i64_small (by omega)]; have := Hn.out; omega
  obtain ⟨u1, hu1, z1⟩ : ∃ y : Nat, y = c4 * 256 ∧ IntKind.u16.wrap ((c4 : Int) * 256) = (y : Int) := ⟨c4 * 256, rfl, by show ((c4 : Int) * 256) % 65536 = _; omega⟩
  have z2 : IntKind.u16.wrap ((u1 : Int) + c5) = (m : Int) := by show ((u1 : Int) + c5) % 65536 = _; have := Hm.out; omega
  clear hy1 hy2 hy3 hy4 hy5 hu1
  have hcells : ∀ W, Below w.heap.size w W → ∀ k, k < 6 → W.cell? ⟨blk, off + k, none⟩ = some (.int .u8 ((([c0, c1, c2, c3, c4, c5] : List Nat).getD k 0 : Nat) : Int)) := by
    intro W hb k hk
    refine (bcl hb hblk).trans ?_
    rcases k with _ | _ | _ | _ | _ | _ | k
    · exact G0.out
    · exact G1.out
    · exact G2.out
    · exact G3.out
    · exact G4.out
    · exact G5.out
    · omega
  have C2 : TC w blk off [c0, c1, c2, c3, c4, c5] c6 n 0 0 0 w2 := ⟨hb2, o2, .inl r2, hcells w2 hb2⟩
  have HCELLS := hide hcells
  clear hcells hb2 o2 r2 hw1
  refine wp_region_facts (TC w blk off [c0, c1, c2, c3, c4, c5] c6 n 0 0 0) (fun j v W => v = ([(.slice (some ⟨blk, off, none⟩) 75 cap : Value), (.pointer (some ⟨blk, off, none⟩) : Value), (.int .u8 (c0 : Int) : Value), (.int .i64 (c0 : Int) : Value), (.int .i64 (y1 : Int) : Value), (.slice (some ⟨blk, off, none⟩) 75 cap : Value), (.pointer (some ⟨blk, off + 1, none⟩) : Value), (.int .u8 (c1 : Int) : Value), (.int .i64 (c1 : Int) : Value), (.int .i64 (y2 : Int) : Value), (.int .i64 (y3 : Int) : Value), (.slice (some ⟨blk, off, none⟩) 75 cap : Value), (.pointer (some ⟨blk, off + 2, none⟩) : Value), (.int .u8 (c2 : Int) : Value), (.int .i64 (c2 : Int) : Value), (.int .i64 (y4 : Int) : Value), (.int .i64 (y5 : Int) : Value), (.slice (some ⟨blk, off, none⟩) 75 cap : Value), (.pointer (some ⟨blk, off + 3, none⟩) : Value), (.int .u8 (c3 : Int) : Value), (.int .i64 (c3 : Int) : Value), (.int .i64 (n : Int) : Value), (.pointer (some ⟨w.heap.size + 1, 1, none⟩) : Value), (.pointer (some ⟨w.heap.size + 1, 1, none⟩) : Value), (undef : Value)]).getD j undef ∧ (j = 24 → W.heap[w.heap.size + 1]? = some (.cells (frv (c6 : Int) n 0 zeros64) 27 (0, 0)))) (fun _ => 1000) (by kernel_rfl) (by kernel_rfl) C2.drew ?_ ?_
  · have hset := hide HCELLS
    refine AllFrom.cons (i := 0) (step_is (by kernel_rfl) ?s0) (AllFrom.cons (i := 1) (step_is (by kernel_rfl) ?s1) (AllFrom.cons (i := 2) (step_is (by kernel_rfl) ?s2) (AllFrom.cons (i := 3) (step_is (by kernel_rfl) ?s3) (AllFrom.cons (i := 4) (step_is (by kernel_rfl) ?s4) (AllFrom.cons (i := 5) (step_is (by kernel_rfl) ?s5) (AllFrom.cons (i := 6) (step_is (by kernel_rfl) ?s6) (AllFrom.cons (i := 7) (step_is (by kernel_rfl) ?s7) (AllFrom.cons (i := 8) (step_is (by kernel_rfl) ?s8) (AllFrom.cons (i := 9) (step_is (by kernel_rfl) ?s9) (AllFrom.cons (i := 10) (step_is (by kernel_rfl) ?s10) (AllFrom.cons (i := 11) (step_is (by kernel_rfl) ?s11) (AllFrom.cons (i := 12) (step_is (by kernel_rfl) ?s12) (AllFrom.cons (i := 13) (step_is (by kernel_rfl) ?s13) (AllFrom.cons (i := 14) (step_is (by kernel_rfl) ?s14) (AllFrom.cons (i := 15) (step_is (by kernel_rfl) ?s15) (AllFrom.cons (i := 16) (step_is (by kernel_rfl) ?s16) (AllFrom.cons (i := 17) (step_is (by kernel_rfl) ?s17) (AllFrom.cons (i := 18) (step_is (by kernel_rfl) ?s18) (AllFrom.cons (i := 19) (step_is (by kernel_rfl) ?s19) (AllFrom.cons (i := 20) (step_is (by kernel_rfl) ?s20) (AllFrom.cons (i := 21) (step_is (by kernel_rfl) ?s21) (AllFrom.cons (i := 22) (step_is (by kernel_rfl) ?s22) (AllFrom.cons (i := 23) (step_is (by kernel_rfl) ?s23) (AllFrom.cons (i := 24) (step_skip (by kernel_rfl) ?s24) (trivial)))))))))))))))))))))))))
    case s0 =>
      intro l vals W ρ hI hi hdep hnew hold hc
      have e0 : ρ (.tmp 0) = .slice (some ⟨blk, off, none⟩) 75 cap := (hold 0 (by kernel_rfl)).trans (by kernel_rfl)
      refine ⟨.slice (some ⟨blk, off, none⟩) 75 cap, ?_, rfl, fun h => by cases h⟩
      simp [execOp, e0, go_sem]
    case s1 =>
      intro l vals W ρ hI hi hdep hnew hold hc
      have e0 : ρ (.tmp 27) = .slice (some ⟨blk, off, none⟩) 75 cap := (hnew 0 27 (dep hdep 0 (by kernel_rfl)) (by kernel_rfl) (of_decide_eq_true (by kernel_rfl)) (of_decide_eq_true (by kernel_rfl))).trans (factV hI (dep hdep 0 (by kernel_rfl)) (of_decide_eq_true (by kernel_rfl)))
      refine ⟨.pointer (some ⟨blk, off, none⟩), ?_, rfl, fun h => by cases h⟩
      simp [execOp, e0, hc, go_sem]
    case s2 =>
      intro l vals W ρ hI hi hdep hnew hold hc
      have e0 : ρ (.tmp 28) = .pointer (some ⟨blk, off, none⟩) := (hnew 1 28 (dep hdep 1 (by kernel_rfl)) (by kernel_rfl) (of_decide_eq_true (by kernel_rfl)) (of_decide_eq_true (by kernel_rfl))).trans (factV hI (dep hdep 1 (by kernel_rfl)) (of_decide_eq_true (by kernel_rfl)))
      refine ⟨.int .u8 (c0 : Int), ?_, rfl, fun h => by cases h⟩
      have hk := hI.com.bytes 0 (by omega)
      rw [Nat.add_zero] at hk
      have hk2 : ([c0, c1, c2, c3, c4, c5] : List Nat).getD 0 0 = c0 := rfl
      rw [hk2] at hk
      simp [execOp, e0, go_sem, hk]
    case s3 =>
      intro l vals W ρ hI hi hdep hnew hold hc
      have e0 : ρ (.tmp 29) = .int .u8 (c0 : Int) := (hnew 2 29 (dep hdep 2 (by kernel_rfl)) (by kernel_rfl) (of_decide_eq_true (by kernel_rfl)) (of_decide_eq_true (by kernel_rfl))).trans (factV hI (dep hdep 2 (by kernel_rfl)) (of_decide_eq_true (by kernel_rfl)))
      refine ⟨.int .i64 (c0 : Int), ?_, rfl, fun h => by cases h⟩
      simp [execOp, e0, go_sem, v0]
    case s4 =>
      intro l vals W ρ hI hi hdep hnew hold hc
      have e0 : ρ (.tmp 30) = .int .i64 (c0 : Int) := (hnew 3 30 (dep hdep 3 (by kernel_rfl)) (by kernel_rfl) (of_decide_eq_true (by kernel_rfl)) (of_decide_eq_true (by kernel_rfl))).trans (factV hI (dep hdep 3 (by kernel_rfl)) (of_decide_eq_true (by kernel_rfl)))
      refine ⟨.int .i64 (y1 : Int), ?_, rfl, fun h => by cases h⟩
      simp [execOp, e0, hc, go_sem, x1]
    case s5 =>
      intro l vals W ρ hI hi hdep hnew hold hc
      have e0 : ρ (.tmp 0) = .slice (some ⟨blk, off, none⟩) 75 cap := (hold 0 (by kernel_rfl)).trans (by kernel_rfl)
      refine ⟨.slice (some ⟨blk, off, none⟩) 75 cap, ?_, rfl, fun h => by cases h⟩
      simp [execOp, e0, go_sem]
    case s6 =>
      intro l vals W ρ hI hi hdep hnew hold hc
      have e0 : ρ (.tmp 32) = .slice (some ⟨blk, off, none⟩) 75 cap := (hnew 5 32 (dep hdep 5 (by kernel_rfl)) (by kernel_rfl) (of_decide_eq_true (by kernel_rfl)) (of_decide_eq_true (by kernel_rfl))).trans (factV hI (dep hdep 5 (by kernel_rfl)) (of_decide_eq_true (by kernel_rfl)))
      refine ⟨.pointer (some ⟨blk, off + 1, none⟩), ?_, rfl, fun h => by cases h⟩
      simp [execOp, e0, hc, go_sem]
    case s7 =>
      intro l vals W ρ hI hi hdep hnew hold hc
      have e0 : ρ (.tmp 33) = .pointer (some ⟨blk, off + 1, none⟩) := (hnew 6 33 (dep hdep 6 (by kernel_rfl)) (by kernel_rfl) (of_decide_eq_true (by kernel_rfl)) (of_decide_eq_true (by kernel_rfl))).trans (factV hI (dep hdep 6 (by kernel_rfl)) (of_decide_eq_true (by kernel_rfl)))
      refine ⟨.int .u8 (c1 : Int), ?_, rfl, fun h => by cases h⟩
      have hk := hI.com.bytes 1 (by omega)
      have hk2 : ([c0, c1, c2, c3, c4, c5] : List Nat).getD 1 0 = c1 := rfl
      rw [hk2] at hk
      simp [execOp, e0, go_sem, hk]
    case s8 =>
      intro l vals W ρ hI hi hdep hnew hold hc
      have e0 : ρ (.tmp 34) = .int .u8 (c1 : Int) := (hnew 7 34 (dep hdep 7 (by kernel_rfl)) (by kernel_rfl) (of_decide_eq_true (by kernel_rfl)) (of_decide_eq_true (by kernel_rfl))).trans (factV hI (dep hdep 7 (by kernel_rfl)) (of_decide_eq_true (by kernel_rfl)))
      refine ⟨.int .i64 (c1 : Int), ?_, rfl, fun h => by cases h⟩
      simp [execOp, e0, go_sem, v1]
    case s9 =>
      intro l vals W ρ hI hi hdep hnew hold hc
      have e0 : ρ (.tmp 31) = .int .i64 (y1 : Int) := (hnew 4 31 (dep hdep 4 (by kernel_rfl)) (by kernel_rfl) (of_decide_eq_true (by kernel_rfl)) (of_decide_eq_true (by kernel_rfl))).trans (factV hI (dep hdep 4 (by kernel_rfl)) (of_decide_eq_true (by kernel_rfl)))
      have e1 : ρ (.tmp 35) = .int .i64 (c1 : Int) := (hnew 8 35 (dep hdep 8 (by kernel_rfl)) (by kernel_rfl) (of_decide_eq_true (by kernel_rfl)) (of_decide_eq_true (by kernel_rfl))).trans (factV hI (dep hdep 8 (by kernel_rfl)) (of_decide_eq_true (by kernel_rfl)))
      refine ⟨.int .i64 (y2 : Int), ?_, rfl, fun h => by cases h⟩
      simp [execOp, e0, e1, go_sem, x2]
    case s10 =>
      intro l vals W ρ hI hi hdep hnew hold hc
      have e0 : ρ (.tmp 36) = .int .i64 (y2 : Int) := (hnew 9 36 (dep hdep 9 (by kernel_rfl)) (by kernel_rfl) (of_decide_eq_true (by kernel_rfl)) (of_decide_eq_true (by kernel_rfl))).trans (factV hI (dep hdep 9 (by kernel_rfl)) (of_decide_eq_true (by kernel_rfl)))
      refine ⟨.int .i64 (y3 : Int), ?_, rfl, fun h => by cases h⟩
      simp [execOp, e0, hc, go_sem, x3]
    case s11 =>
      intro l vals W ρ hI hi hdep hnew hold hc
      have e0 : ρ (.tmp 0) = .slice (some ⟨blk, off, none⟩) 75 cap := (hold 0 (by kernel_rfl)).trans (by kernel_rfl)
      refine ⟨.slice (some ⟨blk, off, none⟩) 75 cap, ?_, rfl, fun h => by cases h⟩
      simp [execOp, e0, go_sem]
    case s12 =>
      intro l vals W ρ hI hi hdep hnew hold hc
      have e0 : ρ (.tmp 38) = .slice (some ⟨blk, off, none⟩) 75 cap := (hnew 11 38 (dep hdep 11 (by kernel_rfl)) (by kernel_rfl) (of_decide_eq_true (by kernel_rfl)) (of_decide_eq_true (by kernel_rfl))).trans (factV hI (dep hdep 11 (by kernel_rfl)) (of_decide_eq_true (by kernel_rfl)))
      refine ⟨.pointer (some ⟨blk, off + 2, none⟩), ?_, rfl, fun h => by cases h⟩
      simp [execOp, e0, hc, go_sem]
    case s13 =>
      intro l vals W ρ hI hi hdep hnew hold hc
      have e0 : ρ (.tmp 39) = .pointer (some ⟨blk, off + 2, none⟩) := (hnew 12 39 (dep hdep 12 (by kernel_rfl)) (by kernel_rfl) (of_decide_eq_true (by kernel_rfl)) (of_decide_eq_true (by kernel_rfl))).trans (factV hI (dep hdep 12 (by kernel_rfl)) (of_decide_eq_true (by kernel_rfl)))
      refine ⟨.int .u8 (c2 : Int), ?_, rfl, fun h => by cases h⟩
      have hk := hI.com.bytes 2 (by omega)
      have hk2 : ([c0, c1, c2, c3, c4, c5] : List Nat).getD 2 0 = c2 := rfl
      rw [hk2] at hk
      simp [execOp, e0, go_sem, hk]
    case s14 =>
      intro l vals W ρ hI hi hdep hnew hold hc
      have e0 : ρ (.tmp 40) = .int .u8 (c2 : Int) := (hnew 13 40 (dep hdep 13 (by kernel_rfl)) (by kernel_rfl) (of_decide_eq_true (by kernel_rfl)) (of_decide_eq_true (by kernel_rfl))).trans (factV hI (dep hdep 13 (by kernel_rfl)) (of_decide_eq_true (by kernel_rfl)))
      refine ⟨.int .i64 (c2 : Int), ?_, rfl, fun h => by cases h⟩
      simp [execOp, e0, go_sem, v2]
    case s15 =>
      intro l vals W ρ hI hi hdep hnew hold hc
      have e0 : ρ (.tmp 37) = .int .i64 (y3 : Int) := (hnew 10 37 (dep hdep 10 (by kernel_rfl)) (by kernel_rfl) (of_decide_eq_true (by kernel_rfl)) (of_decide_eq_true (by kernel_rfl))).trans (factV hI (dep hdep 10 (by kernel_rfl)) (of_decide_eq_true (by kernel_rfl)))
      have e1 : ρ (.tmp 41) = .int .i64 (c2 : Int) := (hnew 14 41 (dep hdep 14 (by kernel_rfl)) (by kernel_rfl) (of_decide_eq_true (by kernel_rfl)) (of_decide_eq_true (by kernel_rfl))).trans (factV hI (dep hdep 14 (by kernel_rfl)) (of_decide_eq_true (by kernel_rfl)))
      refine ⟨.int .i64 (y4 : Int), ?_, rfl, fun h => by cases h⟩
      simp [execOp, e0, e1, go_sem, x4]
    case s16 =>
      intro l vals W ρ hI hi hdep hnew hold hc
      have e0 : ρ (.tmp 42) = .int .i64 (y4 : Int) := (hnew 15 42 (dep hdep 15 (by kernel_rfl)) (by kernel_rfl) (of_decide_eq_true (by kernel_rfl)) (of_decide_eq_true (by kernel_rfl))).trans (factV hI (dep hdep 15 (by kernel_rfl)) (of_decide_eq_true (by kernel_rfl)))
      refine ⟨.int .i64 (y5 : Int), ?_, rfl, fun h => by cases h⟩
      simp [execOp, e0, hc, go_sem, x5]
    case s17 =>
      intro l vals W ρ hI hi hdep hnew hold hc
      have e0 : ρ (.tmp 0) = .slice (some ⟨blk, off, none⟩) 75 cap := (hold 0 (by kernel_rfl)).trans (by kernel_rfl)
      refine ⟨.slice (some ⟨blk, off, none⟩) 75 cap, ?_, rfl, fun h => by cases h⟩
      simp [execOp, e0, go_sem]
    case s18 =>
      intro l vals W ρ hI hi hdep hnew hold hc
      have e0 : ρ (.tmp 44) = .slice (some ⟨blk, off, none⟩) 75 cap := (hnew 17 44 (dep hdep 17 (by kernel_rfl)) (by kernel_rfl) (of_decide_eq_true (by kernel_rfl)) (of_decide_eq_true (by kernel_rfl))).trans (factV hI (dep hdep 17 (by kernel_rfl)) (of_decide_eq_true (by kernel_rfl)))
      refine ⟨.pointer (some ⟨blk, off + 3, none⟩), ?_, rfl, fun h => by cases h⟩
      simp [execOp, e0, hc, go_sem]
    case s19 =>
      intro l vals W ρ hI hi hdep hnew hold hc
      have e0 : ρ (.tmp 45) = .pointer (some ⟨blk, off + 3, none⟩) := (hnew 18 45 (dep hdep 18 (by kernel_rfl)) (by kernel_rfl) (of_decide_eq_true (by kernel_rfl)) (of_decide_eq_true (by kernel_rfl))).trans (factV hI (dep hdep 18 (by kernel_rfl)) (of_decide_eq_true (by kernel_rfl)))
      refine ⟨.int .u8 (c3 : Int), ?_, rfl, fun h => by cases h⟩
      have hk := hI.com.bytes 3 (by omega)
      have hk2 : ([c0, c1, c2, c3, c4, c5] : List Nat).getD 3 0 = c3 := rfl
      rw [hk2] at hk
      simp [execOp, e0, go_sem, hk]
    case s20 =>
      intro l vals W ρ hI hi hdep hnew hold hc
      have e0 : ρ (.tmp 46) = .int .u8 (c3 : Int) := (hnew 19 46 (dep hdep 19 (by kernel_rfl)) (by kernel_rfl) (of_decide_eq_true (by kernel_rfl)) (of_decide_eq_true (by kernel_rfl))).trans (factV hI (dep hdep 19 (by kernel_rfl)) (of_decide_eq_true (by kernel_rfl)))
      refine ⟨.int .i64 (c3 : Int), ?_, rfl, fun h => by cases h⟩
      simp [execOp, e0, go_sem, v3]
    case s21 =>
      intro l vals W ρ hI hi hdep hnew hold hc
      have e0 : ρ (.tmp 43) = .int .i64 (y5 : Int) := (hnew 16 43 (dep hdep 16 (by kernel_rfl)) (by kernel_rfl) (of_decide_eq_true (by kernel_rfl)) (of_decide_eq_true (by kernel_rfl))).trans (factV hI (dep hdep 16 (by kernel_rfl)) (of_decide_eq_true (by kernel_rfl)))
      have e1 : ρ (.tmp 47) = .int .i64 (c3 : Int) := (hnew 20 47 (dep hdep 20 (by kernel_rfl)) (by kernel_rfl) (of_decide_eq_true (by kernel_rfl)) (of_decide_eq_true (by kernel_rfl))).trans (factV hI (dep hdep 20 (by kernel_rfl)) (of_decide_eq_true (by kernel_rfl)))
      refine ⟨.int .i64 (n : Int), ?_, rfl, fun h => by cases h⟩
      simp [execOp, e0, e1, go_sem, x6]
    case s22 =>
      intro l vals W ρ hI hi hdep hnew hold hc
      have e0 : ρ (.tmp 4) = .pointer (some ⟨w.heap.size + 1, 0, none⟩) := (hold 4 (by kernel_rfl)).trans (by kernel_rfl)
      refine ⟨.pointer (some ⟨w.heap.size + 1, 1, none⟩), ?_, rfl, fun h => by cases h⟩
      simp [execOp, e0, go_sem]
    case s23 =>
      intro l vals W ρ hI hi hdep hnew hold hc
      have e0 : ρ (.tmp 49) = .pointer (some ⟨w.heap.size + 1, 1, none⟩) := (hnew 22 49 (dep hdep 22 (by kernel_rfl)) (by kernel_rfl) (of_decide_eq_true (by kernel_rfl)) (of_decide_eq_true (by kernel_rfl))).trans (factV hI (dep hdep 22 (by kernel_rfl)) (of_decide_eq_true (by kernel_rfl)))
      refine ⟨.pointer (some ⟨w.heap.size + 1, 1, none⟩), ?_, rfl, fun h => by cases h⟩
      simp [execOp, e0, go_sem]
    case s24 =>
      intro l vals W ρ hI hi hdep hnew hold hc
      have e0 : ρ (.tmp 50) = .pointer (some ⟨w.heap.size + 1, 1, none⟩) := (hnew 23 50 (dep hdep 23 (by kernel_rfl)) (by kernel_rfl) (of_decide_eq_true (by kernel_rfl)) (of_decide_eq_true (by kernel_rfl))).trans (factV hI (dep hdep 23 (by kernel_rfl)) (of_decide_eq_true (by kernel_rfl)))
      have e1 : ρ (.tmp 48) = .int .i64 (n : Int) := (hnew 21 48 (dep hdep 21 (by kernel_rfl)) (by kernel_rfl) (of_decide_eq_true (by kernel_rfl)) (of_decide_eq_true (by kernel_rfl))).trans (factV hI (dep hdep 21 (by kernel_rfl)) (of_decide_eq_true (by kernel_rfl)))
      refine ⟨W.setCell ⟨w.heap.size + 1, 1, none⟩ (.int .i64 (n : Int)), ?_, hI.com.set1 hblk, ⟨rfl, fun _ => hI.com.row1⟩, fun j hj _ hl hT => ⟨(hI.fact j hl hT).1, fun h => absurd h hj⟩⟩
      obtain ⟨cv, hcell, hfro⟩ := hI.com.there 1 (by omega)
      simp [execOp, e0, e1, go_sem, hcell, hfro]
  intro vals W hC hF
  have r3 := (hF 24 (by simp) (by simp)).2 rfl
  have hcells3 := HCELLS.out W hC.bel
  have C3 : TC w blk off [c0, c1, c2, c3, c4, c5] c6 n m 1 n W := ⟨hC.bel, hC.out, .inl r3, hcells3⟩
  simp [canon, dstOf, Act.put]
  clear hF hC C2 r3 hcells3
  go_wp2_with fail
  refine wp_region_facts (TC w blk off [c0, c1, c2, c3, c4, c5] c6 n m 1 n) (fun j v W => v = ([(.slice (some ⟨blk, off, none⟩) 75 cap : Value), (.pointer (some ⟨blk, off + 4, none⟩) : Value), (.int .u8 (c4 : Int) : Value), (.int .u16 (c4 : Int) : Value), (.int .u16 (u1 : Int) : Value), (.slice (some ⟨blk, off, none⟩) 75 cap : Value), (.pointer (some ⟨blk, off + 5, none⟩) : Value), (.int .u8 (c5 : Int) : Value), (.int .u16 (c5 : Int) : Value), (.int .u16 (m : Int) : Value), (.pointer (some ⟨w.heap.size + 1, 1, none⟩) : Value), (.pointer (some ⟨w.heap.size + 1, 2, none⟩) : Value), (undef : Value)]).getD j undef ∧ (j = 12 → W.heap[w.heap.size + 1]? = some (.cells (frv (c6 : Int) n m zeros64) 27 (0, 0)))) (fun _ => 1000) (by kernel_rfl) (by kernel_rfl) C3.drew ?_ ?_
  · have hset := hide HCELLS
    refine AllFrom.cons (i := 0) (step_is (by kernel_rfl) ?q0) (AllFrom.cons (i := 1) (step_is (by kernel_rfl) ?q1) (AllFrom.cons (i := 2) (step_is (by kernel_rfl) ?q2) (AllFrom.cons (i := 3) (step_is (by kernel_rfl) ?q3) (AllFrom.cons (i := 4) (step_is (by kernel_rfl) ?q4) (AllFrom.cons (i := 5) (step_is (by kernel_rfl) ?q5) (AllFrom.cons (i := 6) (step_is (by kernel_rfl) ?q6) (AllFrom.cons (i := 7) (step_is (by kernel_rfl) ?q7) (AllFrom.cons (i := 8) (step_is (by kernel_rfl) ?q8) (AllFrom.cons (i := 9) (step_is (by kernel_rfl) ?q9) (AllFrom.cons (i := 10) (step_is (by kernel_rfl) ?q10) (AllFrom.cons (i := 11) (step_is (by kernel_rfl) ?q11) (AllFrom.cons (i := 12) (step_skip (by kernel_rfl) ?q12) (trivial)))))))))))))
    case q0 =>
      intro l vals W ρ hI hi hdep hnew hold hc
      have e0 : ρ (.tmp 0) = .slice (some ⟨blk, off, none⟩) 75 cap := (hold 0 (by kernel_rfl)).trans (by kernel_rfl)
      refine ⟨.slice (some ⟨blk, off, none⟩) 75 cap, ?_, rfl, fun h => by cases h⟩
      simp [execOp, e0, go_sem]
    case q1 =>
      intro l vals W ρ hI hi hdep hnew hold hc
      have e0 : ρ (.tmp 51) = .slice (some ⟨blk, off, none⟩) 75 cap := (hnew 0 51 (dep hdep 0 (by kernel_rfl)) (by kernel_rfl) (of_decide_eq_true (by kernel_rfl)) (of_decide_eq_true (by kernel_rfl))).trans (factV hI (dep hdep 0 (by kernel_rfl)) (of_decide_eq_true (by kernel_rfl)))
      refine ⟨.pointer (some ⟨blk, off + 4, none⟩), ?_, rfl, fun h => by cases h⟩
      simp [execOp, e0, hc, go_sem]
    case q2 =>
      intro l vals W ρ hI hi hdep hnew hold hc
      have e0 : ρ (.tmp 52) = .pointer (some ⟨blk, off + 4, none⟩) := (hnew 1 52 (dep hdep 1 (by kernel_rfl)) (by kernel_rfl) (of_decide_eq_true (by kernel_rfl)) (of_decide_eq_true (by kernel_rfl))).trans (factV hI (dep hdep 1 (by kernel_rfl)) (of_decide_eq_true (by kernel_rfl)))
      refine ⟨.int .u8 (c4 : Int), ?_, rfl, fun h => by cases h⟩
      have hk := hI.com.bytes 4 (by omega)
      have hk2 : ([c0, c1, c2, c3, c4, c5] : List Nat).getD 4 0 = c4 := rfl
      rw [hk2] at hk
      simp [execOp, e0, go_sem, hk]
    case q3 =>
      intro l vals W ρ hI hi hdep hnew hold hc
      have e0 : ρ (.tmp 53) = .int .u8 (c4 : Int) := (hnew 2 53 (dep hdep 2 (by kernel_rfl)) (by kernel_rfl) (of_decide_eq_true (by kernel_rfl)) (of_decide_eq_true (by kernel_rfl))).trans (factV hI (dep hdep 2 (by kernel_rfl)) (of_decide_eq_true (by kernel_rfl)))
      refine ⟨.int .u16 (c4 : Int), ?_, rfl, fun h => by cases h⟩
      simp [execOp, e0, go_sem, v4]
    case q4 =>
      intro l vals W ρ hI hi hdep hnew hold hc
      have e0 : ρ (.tmp 54) = .int .u16 (c4 : Int) := (hnew 3 54 (dep hdep 3 (by kernel_rfl)) (by kernel_rfl) (of_decide_eq_true (by kernel_rfl)) (of_decide_eq_true (by kernel_rfl))).trans (factV hI (dep hdep 3 (by kernel_rfl)) (of_decide_eq_true (by kernel_rfl)))
      refine ⟨.int .u16 (u1 : Int), ?_, rfl, fun h => by cases h⟩
      simp [execOp, e0, hc, go_sem, z1]
    case q5 =>
      intro l vals W ρ hI hi hdep hnew hold hc
      have e0 : ρ (.tmp 0) = .slice (some ⟨blk, off, none⟩) 75 cap := (hold 0 (by kernel_rfl)).trans (by kernel_rfl)
      refine ⟨.slice (some ⟨blk, off, none⟩) 75 cap, ?_, rfl, fun h => by cases h⟩
      simp [execOp, e0, go_sem]
    case q6 =>
      intro l vals W ρ hI hi hdep hnew hold hc
      have e0 : ρ (.tmp 56) = .slice (some ⟨blk, off, none⟩) 75 cap := (hnew 5 56 (dep hdep 5 (by kernel_rfl)) (by kernel_rfl) (of_decide_eq_true (by kernel_rfl)) (of_decide_eq_true (by kernel_rfl))).trans (factV hI (dep hdep 5 (by kernel_rfl)) (of_decide_eq_true (by kernel_rfl)))
      refine ⟨.pointer (some ⟨blk, off + 5, none⟩), ?_, rfl, fun h => by cases h⟩
      simp [execOp, e0, hc, go_sem]
    case q7 =>
      intro l vals W ρ hI hi hdep hnew hold hc
      have e0 : ρ (.tmp 57) = .pointer (some ⟨blk, off + 5, none⟩) := (hnew 6 57 (dep hdep 6 (by kernel_rfl)) (by kernel_rfl) (of_decide_eq_true (by kernel_rfl)) (of_decide_eq_true (by kernel_rfl))).trans (factV hI (dep hdep 6 (by kernel_rfl)) (of_decide_eq_true (by kernel_rfl)))
      refine ⟨.int .u8 (c5 : Int), ?_, rfl, fun h => by cases h⟩
      have hk := hI.com.bytes 5 (by omega)
      have hk2 : ([c0, c1, c2, c3, c4, c5] : List Nat).getD 5 0 = c5 := rfl
      rw [hk2] at hk
      simp [execOp, e0, go_sem, hk]
    case q8 =>
      intro l vals W ρ hI hi hdep hnew hold hc
      have e0 : ρ (.tmp 58) = .int .u8 (c5 : Int) := (hnew 7 58 (dep hdep 7 (by kernel_rfl)) (by kernel_rfl) (of_decide_eq_true (by kernel_rfl)) (of_decide_eq_true (by kernel_rfl))).trans (factV hI (dep hdep 7 (by kernel_rfl)) (of_decide_eq_true (by kernel_rfl)))
      refine ⟨.int .u16 (c5 : Int), ?_, rfl, fun h => by cases h⟩
      simp [execOp, e0, go_sem, v5]
    case q9 =>
      intro l vals W ρ hI hi hdep hnew hold hc
      have e0 : ρ (.tmp 55) = .int .u16 (u1 : Int) := (hnew 4 55 (dep hdep 4 (by kernel_rfl)) (by kernel_rfl) (of_decide_eq_true (by kernel_rfl)) (of_decide_eq_true (by kernel_rfl))).trans (factV hI (dep hdep 4 (by kernel_rfl)) (of_decide_eq_true (by kernel_rfl)))
      have e1 : ρ (.tmp 59) = .int .u16 (c5 : Int) := (hnew 8 59 (dep hdep 8 (by kernel_rfl)) (by kernel_rfl) (of_decide_eq_true (by kernel_rfl)) (of_decide_eq_true (by kernel_rfl))).trans (factV hI (dep hdep 8 (by kernel_rfl)) (of_decide_eq_true (by kernel_rfl)))
      refine ⟨.int .u16 (m : Int), ?_, rfl, fun h => by cases h⟩
      simp [execOp, e0, e1, go_sem, z2]
    case q10 =>
      intro l vals W ρ hI hi hdep hnew hold hc
      have e0 : ρ (.tmp 4) = .pointer (some ⟨w.heap.size + 1, 0, none⟩) := (hold 4 (by kernel_rfl)).trans (by kernel_rfl)
      refine ⟨.pointer (some ⟨w.heap.size + 1, 1, none⟩), ?_, rfl, fun h => by cases h⟩
      simp [execOp, e0, go_sem]
    case q11 =>
      intro l vals W ρ hI hi hdep hnew hold hc
      have e0 : ρ (.tmp 61) = .pointer (some ⟨w.heap.size + 1, 1, none⟩) := (hnew 10 61 (dep hdep 10 (by kernel_rfl)) (by kernel_rfl) (of_decide_eq_true (by kernel_rfl)) (of_decide_eq_true (by kernel_rfl))).trans (factV hI (dep hdep 10 (by kernel_rfl)) (of_decide_eq_true (by kernel_rfl)))
      refine ⟨.pointer (some ⟨w.heap.size + 1, 2, none⟩), ?_, rfl, fun h => by cases h⟩
      simp [execOp, e0, go_sem]
    case q12 =>
      intro l vals W ρ hI hi hdep hnew hold hc
      have e0 : ρ (.tmp 62) = .pointer (some ⟨w.heap.size + 1, 2, none⟩) := (hnew 11 62 (dep hdep 11 (by kernel_rfl)) (by kernel_rfl) (of_decide_eq_true (by kernel_rfl)) (of_decide_eq_true (by kernel_rfl))).trans (factV hI (dep hdep 11 (by kernel_rfl)) (of_decide_eq_true (by kernel_rfl)))
      have e1 : ρ (.tmp 60) = .int .u16 (m : Int) := (hnew 9 60 (dep hdep 9 (by kernel_rfl)) (by kernel_rfl) (of_decide_eq_true (by kernel_rfl)) (of_decide_eq_true (by kernel_rfl))).trans (factV hI (dep hdep 9 (by kernel_rfl)) (of_decide_eq_true (by kernel_rfl)))
      refine ⟨W.setCell ⟨w.heap.size + 1, 2, none⟩ (.int .u16 (m : Int)), ?_, hI.com.set2 hblk, ⟨rfl, fun _ => hI.com.row2⟩, fun j hj _ hl hT => ⟨(hI.fact j hl hT).1, fun h => absurd h hj⟩⟩
      obtain ⟨cv, hcell, hfro⟩ := hI.com.there 2 (by omega)
      simp [execOp, e0, e1, go_sem, hcell, hfro]
  intro vals5 W5 hC5 hF5
  have r5 := (hF5 12 (by simp) (by simp)).2 rfl
  have T0 : TI w n m c6 p 0 W5 := ⟨hC5.bel, hC5.out, zeros64, rfl, fun j hj => by omega, r5⟩
  simp [canon, dstOf, Act.put]
  clear hF5 hC5 C3 r5
  go_wp2_with fail
  go_loopw [5] (fun i wr => ∃ k : Nat, k ≤ 64 ∧ i = .int .i64 k ∧ TI w n m c6 p k wr) (fun i _ => 64 - (intOf i).toNat)
  case atStart => exact ⟨0, by omega, rfl, T0⟩
  case round =>
    obtain ⟨k, hk, rfl, hT⟩ := hrel
    by_cases hlt : k < 64
    · have hget : wr.cell? ⟨blk, off + (7 + k), none⟩ = some (.int .u8 ((p.getD k 0 : Nat) : Int)) := by
        rw [← Nat.add_assoc]; exact (bcl hT.bel hblk).trans (HPC.out k hlt)
      obtain ⟨cv, hcell, hfro⟩ := hT.there (3 + k) (by omega)
      obtain ⟨c, hc⟩ : ∃ c, p.getD k 0 = c := ⟨_, rfl⟩
      rw [hc] at hget
      have H1 := hide (hT.next hlt c hc)
      clear hT hc
      go_wp2
      go_roundw
      case rel => exact ⟨k + 1, by omega, by go_num, H1.out⟩
      case measure => simp [intOf]; omega
    · obtain rfl : k = 64 := by omega
      obtain ⟨q, hq, hqk, hr⟩ := hT.row
      obtain rfl : q = p := ext_getD (by rw [hq, HP.out]) (fun t ht => hqk t (by omega))
      have HR := hide hr; have HT := hide hT
      have hsz : (frv (c6 : Int) n m q).size = 67 := by rw [frv_size, hq]
      have HS := hide hsz
      clear hr hT hqk hsz hq
      go_wp2_with (first
        | (refine wpList_load_row rfl 27 (.tmp 4) rfl (w.heap.size + 1) rfl 27 (frv (c6 : Int) n m q) (0, 0) _ HR.out Try.underlying27 rfl (fr_info HS.out) ?_)
        | (refine wpList_store_row rfl 27 (.tmp 2) (.tmp 75) rfl w.heap.size (frv (c6 : Int) n m q) rfl rfl 27 _ HT.out.out (fr_info HS.out) (by rw [fr0_size, HS.out]) (frv_one _ _ _ _) ?_))
      refine bodyPost_ret (results_row_slot (fn := Try.f29) rfl _ _ w.heap.size 27 (frv (c6 : Int) n m q) (0, 0) rfl (.bool true) rfl ?_ HS.out) rfl ⟨rfl, ?_⟩
      · exact setRow_heap _ _ _ _ _ _ HT.out.out
      · exact below_setRow HT.out.bel (Nat.le_refl _) _

theorem rtold_any (b : List Nat) (n : Nat) (A : Option Addr) (cap : Nat) (w : World) (hn : b.length = n) (hcap : n ≤ cap) (hm : cap ≤ maxLen) (hB : Bytes w A b) :
    Calls Try.prog 29 #[.slice A n cap] w fun e w' => e = .returned (.tuple #[.agg (frOf b), .bool (isFr b)]) ∧ Below w.heap.size w w' := by
  by_cases h75 : n = 75
  · subst h75
    obtain ⟨blk, off, rfl, hblk, hc⟩ := hB.at (k := 0) (by omega)
    have hlt := hB.byte
    have q0 := hlt 0; have q1 := hlt 1; have q2 := hlt 2; have q3 := hlt 3
    by_cases h6 : b.getD 6 0 < 16 ∧ b.getD 0 0 ≤ 127
    · have hi : isFr b = true := isFr_iff.2 ⟨hn, h6.1, by unfold slotB; omega⟩
      rw [show frOf b = frB b by unfold frOf; rw [if_pos hi], hi]
      refine told_ok (payB b) _ _ _ _ _ _ _ _ _ blk off cap w hcap hm (by simp [payB]; omega) (fun j hj => ?_) (hc 0 (by omega)) (hc 1 (by omega)) (hc 2 (by omega)) (hc 3 (by omega)) (hc 4 (by omega)) (hc 5 (by omega)) (hc 6 (by omega)) h6.2 (hlt 1) (hlt 2) (hlt 3) (hlt 4) (hlt 5) (by omega) rfl rfl
      have h := hc (7 + j) (by omega)
      rw [show off + 7 + j = off + (7 + j) by omega, h]
      simp [payB, List.getD_eq_getElem?_getD, hj]
    · have hi : isFr b = false := by
        have : ¬ isFr b = true := fun h => h6 ⟨(isFr_iff.1 h).2.1, by have h2 := (isFr_iff.1 h).2.2; unfold slotB at h2; omega⟩
        simpa using this
      rw [show frOf b = fr0 by unfold frOf; rw [hi]; rfl, hi]
      exact told_no _ _ blk off cap w hcap hm (hc 6 (by omega)) (hc 0 (by omega)) (by omega)
  · have hi : isFr b = false := by
      have : ¬ isFr b = true := fun h => h75 (by have := (isFr_iff.1 h).1; omega)
      simpa using this
    rw [show frOf b = fr0 by unfold frOf; rw [hi]; rfl, hi]
    exact told_long n A cap w h75 (by omega)
end Go.Proofs.Ytihldmcakcobaaa
