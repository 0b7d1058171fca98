/-
  What bytes tell as a frame, whatever their sum: read.
-/
import Derived.Test.YtihldmcakcobaaaSummed
import Derived.Laws.Rows
import Derived.Laws.Tables
import Derived.Laws.CopyOwn
import Derived.Deep.RegionLaw
namespace Go.Proofs.Ytihldmcakcobaaa
open Go.RowKit
set_option linter.unusedVariables false

/-- a frame's cells -/
def frv (o s m : Int) (p : List Nat) : Array Value := #[.int .i64 o, .int .i64 s, .int .u16 m] ++ bys p
theorem frv_size (o s m : Int) (p : List Nat) : (frv o s m p).size = 3 + p.length := by simp [frv, bys]; omega
theorem frv_one (o s m : Int) (p : List Nat) : (frv o s m p).all (·.oneCell') = true := by
  rw [Array.all_eq_true]
  intro i hi
  have h := bys_one p
  rw [Array.all_eq_true] at h
  simp only [frv, Array.getElem_append]
  split
  · rename_i h1
    simp at h1
    have : i = 0 ∨ i = 1 ∨ i = 2 := by omega
    rcases this with rfl | rfl | rfl <;> rfl
  · exact h _ _
theorem frv_0 (o s m : Int) (p : List Nat) : (frv o s m p)[0]? = some (.int .i64 o) := by rw [frv, Array.getElem?_append]; simp
theorem frv_1 (o s m : Int) (p : List Nat) : (frv o s m p)[1]? = some (.int .i64 s) := by rw [frv, Array.getElem?_append]; simp
theorem frv_2 (o s m : Int) (p : List Nat) : (frv o s m p)[2]? = some (.int .u16 m) := by rw [frv, Array.getElem?_append]; simp
def zeros64 : List Nat := List.replicate 64 0
/-- no frame -/
def fr0 : Array Value := frv 0 0 0 zeros64
theorem fr0_size : fr0.size = 67 := by rw [fr0, frv_size]; rfl
theorem info_fr : (Try.prog.info? 27).map (fun i => (i.zero, i.size)) = some (some (.agg fr0), 67) := by kernel_rfl
theorem built_fr : Try.prog.built 27 [] = some fr0 := by kernel_rfl
theorem built_st (s m : Int) : Try.prog.built 24 [(0, .int .i64 s), (1, .int .u16 m)] = some #[.int .i64 s, .int .u16 m] := by kernel_rfl
theorem built_fr2 (o s m : Int) : Try.prog.built 27 [(0, .int .i64 o), (1, .agg #[.int .i64 s, .int .u16 m])] = some (frv o s m zeros64) := by kernel_rfl

theorem fr_info {cs : Array Value} (h : cs.size = 67) : (Try.prog.info? 27).map (·.size) = some cs.size := by rw [h]; exact (zero_of_info info_fr).2

/-- two results: a struct that lies in memory, and a plain one -/
theorem results_row_slot {fn : Func} {p q : Tmp} (h : fn.results = #[.cell p 27, .tmp q]) (tmps : Array Value) (w : World) (g : Nat) (t : TypeId) (cs : Array Value) (fr : Nat × Nat)
    (hp : tmps.getD p undef = .pointer (some ⟨g, 0, none⟩)) (v : Value) (hq : tmps.getD q undef = v) (hg : w.heap[g]? = some (.cells cs t fr)) (hs : cs.size = 67) :
    (results fn tmps).run Try.prog w = .ok (.tuple #[.agg cs, v]) w := by
  have hp' : tmps[p]?.getD undef = .pointer (some ⟨g, 0, none⟩) := by simpa using hp
  have hq' : tmps[q]?.getD undef = v := by simpa using hq
  simp [results, h, hp', hq', asAddr, run_loadVar_row w g t _ cs fr _ hg Try.underlying27 rfl (fr_info hs)]

set_option maxRecDepth 100000 in
set_option maxHeartbeats 1000000 in
theorem read_long (n : Nat) (A : Option Addr) (cap : Nat) (w : World) (hn : n ≠ 75) (hm : n ≤ maxLen) :
    Calls Try.prog 27 #[.slice A n cap] w fun e w' => e = .returned (.tuple #[.agg fr0, .bool false]) ∧ Below w.heap.size w w' := by
  have h1 : ((n : Int) != 75) = true := by simp; omega
  have h2 : ((n : Int) == 75) = false := by simp; omega
  have hz := (zero_of_info info_fr).1
  have H := hide hn; clear hn
  have H0 := hide (heap_alloc_new w (.cells fr0 27))
  go_enter Try.func27, Try.ntmps27
  go_wp2_with (refine wpList_store_row rfl 27 (.tmp 2) (.tmp 15) rfl w.heap.size fr0 rfl rfl 27 _ H0.out (fr_info fr0_size) rfl (frv_one _ _ _ _) ?_)
  refine bodyPost_ret (results_row_slot (fn := Try.f27) rfl _ _ w.heap.size 27 fr0 (0, 0) rfl _ rfl ?_ fr0_size) rfl ⟨rfl, ?_⟩
  · exact setRow_heap _ _ _ _ _ _ H0.out
  · exact below_setRow ((Below.refl _ _).alloc (Nat.le_refl _) _) (Nat.le_refl _) _

/-- the slot that bytes tell -/
def slotB (b : List Nat) : Nat := ((b.getD 0 0 * 256 + b.getD 1 0) * 256 + b.getD 2 0) * 256 + b.getD 3 0
def memB (b : List Nat) : Nat := b.getD 4 0 * 256 + b.getD 5 0
def payB (b : List Nat) : List Nat := (b.drop 7).take 64

set_option maxRecDepth 100000 in
set_option maxHeartbeats 1000000 in
theorem read_owner (b : List Nat) (blk off cap : Nat) (w : World) (hn : b.length = 75) (hcap : 75 ≤ cap) (hm : cap ≤ maxLen) (hc : ∀ i, i < b.length → w.cell? ⟨blk, off + i, none⟩ = some (.int .u8 ((b.getD i 0 : Nat) : Int)))
    (ho : 16 ≤ b.getD 6 0) :
    Calls Try.prog 27 #[.slice (some ⟨blk, off, none⟩) 75 cap] w fun e w' => e = .returned (.tuple #[.agg fr0, .bool false]) ∧ Below w.heap.size w w' := by
  have hz := (zero_of_info info_fr).1
  have h6 := hc 6 (by omega)
  have hblk : blk < w.heap.size := World.block_lt_of_cell? w _ h6
  have h6' : (w.alloc (.cells fr0 27)).cell? ⟨blk, off + 6, none⟩ = some (.int .u8 ((b.getD 6 0 : Nat) : Int)) := (bcl (bal _ _) hblk).trans h6
  have H0 := hide (heap_alloc_new w (.cells fr0 27))
  generalize b.getD 6 0 = c at ho h6 h6'
  clear hc hn h6
  go_enter Try.func27, Try.ntmps27
  go_wp2_with (refine wpList_store_row rfl 27 (.tmp 2) (.tmp 15) rfl w.heap.size fr0 rfl rfl 27 _ H0.out (fr_info fr0_size) rfl (frv_one _ _ _ _) ?_)
  refine bodyPost_ret (results_row_slot (fn := Try.f27) rfl _ _ w.heap.size 27 fr0 (0, 0) rfl _ rfl ?_ fr0_size) rfl ⟨rfl, ?_⟩
  · exact setRow_heap _ _ _ _ _ _ H0.out
  · exact below_setRow ((Below.refl _ _).alloc (Nat.le_refl _) _) (Nat.le_refl _) _

theorem frv_set (o s m o' s' m' : Int) (p : List Nat) : (((frv o s m p).setIfInBounds 0 (.int .i64 o')).setIfInBounds 1 (.int .i64 s')).setIfInBounds 2 (.int .u16 m') = frv o' s' m' p := by
  simp [frv]
/-- a whole struct stored, as one step of a region that draws -/
theorem step_store_row {P : Program} {ops : Array Oper} {o : Oper} {a : Act} {w : World} {K : Act → World → Prop} {Q : Exit → Act → World → Prop} {E : Prop}
    (hgd : o.guard = none) (ty : TypeId) (x y : Operand) (ho : o.op = .store ty x y)
    (g : Nat) (cells : Array Value) (hx : a.eval x = .pointer (some ⟨g, 0, none⟩)) (hy : a.eval y = .agg cells)
    (t : TypeId) (old : Array Value) (hg : w.heap[g]? = some (.cells old t (0, 0))) (hi : (P.info? ty).map (·.size) = some cells.size)
    (hold : old.size = cells.size) (h1 : cells.all (·.oneCell') = true)
    (h : K (a.put o.dst undef) (w.setRow g cells)) : if Region.wanted o (yielded ops a.tmps) = true then Oper.wp P o a w K Q else E := by
  have hw : Region.wanted o (yielded ops a.tmps) = true := by simp [Region.wanted, hgd]
  rw [if_pos hw]
  exact wp_store_row ty x y ho g cells hx hy t old hg hi hold h1 h
/-- a struct built of a few parts, as one step of a region that draws -/
theorem step_build {P : Program} {ops : Array Oper} {o : Oper} {a : Act} {w : World} {K : Act → World → Prop} {Q : Exit → Act → World → Prop} {E : Prop}
    (hgd : o.guard = none) (t : TypeId) (parts : Array (Nat × Operand)) (ho : o.op = .build t parts) (cells : Array Value)
    (hb : P.built t (parts.map fun (i, x) => (i, a.eval x)).toList = some cells)
    (h : K (a.put o.dst (.agg cells)) w) : if Region.wanted o (yielded ops a.tmps) = true then Oper.wp P o a w K Q else E := by
  have hw : Region.wanted o (yielded ops a.tmps) = true := by simp [Region.wanted, hgd]
  rw [if_pos hw]
  refine wp_build t parts ho (by rw [hb]; rfl) ?_
  rw [hb]
  exact h
theorem heap_row_drew {w : World} {g : Nat} {o : Obj} (h : w.heap[g]? = some o) : w.drew.heap[g]? = some o := h

/-- four bytes, the highest first -/
theorem or_four (c0 c1 c2 c3 : Nat) (b0 : c0 < 256) (b1 : c1 < 256) (b2 : c2 < 256) (b3 : c3 < 256) :
    bits .or .u32 (bits .or .u32 (bits .or .u32 ((c0 : Int) * 16777216) ((c1 : Int) * 65536)) ((c2 : Int) * 256)) (c3 : Int) = (((c0 * 256 + c1) * 256 + c2) * 256 + c3 : Nat) := by
  have h : ∀ (i x y : Nat), y < 2 ^ i → 2 ^ i * x ||| y = 2 ^ i * x + y := fun i x y hy => (Nat.two_pow_add_eq_or_of_lt hy x).symm
  rw [show ((c0 : Int) * 16777216) = ((2 ^ 24 * c0 : Nat) : Int) by simp; omega, show ((c1 : Int) * 65536) = ((65536 * c1 : Nat) : Int) by simp; omega, u32_or_nat _ _ (by omega) (by omega), h 24 c0 _ (by omega),
    show 2 ^ 24 * c0 + 65536 * c1 = 2 ^ 16 * (256 * c0 + c1) by omega, show ((c2 : Int) * 256) = ((256 * c2 : Nat) : Int) by simp; omega, u32_or_nat _ _ (by omega) (by omega), h 16 _ _ (by omega),
    show 2 ^ 16 * (256 * c0 + c1) + 256 * c2 = 2 ^ 8 * (65536 * c0 + 256 * c1 + c2) by omega, u32_or_nat _ _ (by omega) (by omega), h 8 _ _ (by omega)]
  congr 1
  omega
theorem or_two (c4 c5 : Nat) (b4 : c4 < 256) (b5 : c5 < 256) : bits .or .u16 ((c4 : Int) * 256) (c5 : Int) = (c4 * 256 + c5 : Nat) := by
  have h : ∀ (i x y : Nat), y < 2 ^ i → 2 ^ i * x ||| y = 2 ^ i * x + y := fun i x y hy => (Nat.two_pow_add_eq_or_of_lt hy x).symm
  rw [show ((c4 : Int) * 256) = ((2 ^ 8 * c4 : Nat) : Int) by simp; omega, u16_or_nat _ _ (by omega) (by omega), h 8 _ _ (by omega)]
  congr 1
  omega

set_option maxRecDepth 100000 in
set_option maxHeartbeats 2000000 in
theorem read_ok (p : List Nat) (c0 c1 c2 c3 c4 c5 c6 n m : Nat) (blk off cap : Nat) (w : World) (hcap : 75 ≤ cap) (hm : cap ≤ maxLen) (hp : p.length = 64) (hpc : ∀ j, j < 64 → w.cell? ⟨blk, off + 7 + j, none⟩ = some (.int .u8 ((p.getD j 0 : Nat) : Int)))
    (h0 : w.cell? ⟨blk, off, none⟩ = some (.int .u8 (c0 : Int))) (h1 : w.cell? ⟨blk, off + 1, none⟩ = some (.int .u8 (c1 : Int))) (h2 : w.cell? ⟨blk, off + 2, none⟩ = some (.int .u8 (c2 : Int))) (h3 : w.cell? ⟨blk, off + 3, none⟩ = some (.int .u8 (c3 : Int)))
    (h4 : w.cell? ⟨blk, off + 4, none⟩ = some (.int .u8 (c4 : Int))) (h5 : w.cell? ⟨blk, off + 5, none⟩ = some (.int .u8 (c5 : Int))) (h6 : w.cell? ⟨blk, off + 6, none⟩ = some (.int .u8 (c6 : Int)))
    (b0 : c0 < 256) (b1 : c1 < 256) (b2 : c2 < 256) (b3 : c3 < 256) (b4 : c4 < 256) (b5 : c5 < 256) (b6 : c6 < 16) (hn : ((c0 * 256 + c1) * 256 + c2) * 256 + c3 = n) (hmm : c4 * 256 + c5 = m) (hlt : n ≤ 2147483647) :
    Calls Try.prog 27 #[.slice (some ⟨blk, off, none⟩) 75 cap] w fun e w' => e = .returned (.tuple #[.agg (frv c6 n m p), .bool true]) ∧ Below w.heap.size w w' := by
  have hz := (zero_of_info info_fr).1
  have hblk : blk < w.heap.size := World.block_lt_of_cell? w _ h6
  obtain ⟨w1, hw1⟩ : ∃ w1, w.alloc (.cells fr0 27) = w1 := ⟨_, rfl⟩
  have g0 : w1.cell? ⟨blk, off, none⟩ = some (.int .u8 (c0 : Int)) := by rw [← hw1]; exact (bcl (bal _ _) hblk).trans h0
  have g1 : w1.cell? ⟨blk, off + 1, none⟩ = some (.int .u8 (c1 : Int)) := by rw [← hw1]; exact (bcl (bal _ _) hblk).trans h1
  have g2 : w1.cell? ⟨blk, off + 2, none⟩ = some (.int .u8 (c2 : Int)) := by rw [← hw1]; exact (bcl (bal _ _) hblk).trans h2
  have g3 : w1.cell? ⟨blk, off + 3, none⟩ = some (.int .u8 (c3 : Int)) := by rw [← hw1]; exact (bcl (bal _ _) hblk).trans h3
  have g4 : w1.cell? ⟨blk, off + 4, none⟩ = some (.int .u8 (c4 : Int)) := by rw [← hw1]; exact (bcl (bal _ _) hblk).trans h4
  have g5 : w1.cell? ⟨blk, off + 5, none⟩ = some (.int .u8 (c5 : Int)) := by rw [← hw1]; exact (bcl (bal _ _) hblk).trans h5
  have g6 : w1.cell? ⟨blk, off + 6, none⟩ = some (.int .u8 (c6 : Int)) := by rw [← hw1]; exact (bcl (bal _ _) hblk).trans h6
  have H0 := hide (heap_alloc_new w (.cells fr0 27))
  have hor := or_four c0 c1 c2 c3 b0 b1 b2 b3
  have hor2 := or_two c4 c5 b4 b5
  rw [hn] at hor
  rw [hmm] at hor2
  have HPC := hide hpc; have HP := hide hp; clear hpc hp
  have Hn := hide hn; have Hm := hide hmm; have Hor := hide hor; have Hor2 := hide hor2
  clear h0 h1 h2 h3 h4 h5 h6 hn hmm hor hor2
  go_enter Try.func27, Try.ntmps27
  go_wp2_with fail
  go_quiet (fail)
  rw [Hor.out]
  go_wp2_with fail
  have g0' : (w1.drewN nq).cell? ⟨blk, off + 4, none⟩ = some (.int .u8 (c4 : Int)) := g4
  obtain ⟨w2, hw2⟩ : ∃ w2, w1.drewN nq = w2 := ⟨_, rfl⟩
  have k4 : w2.cell? ⟨blk, off + 4, none⟩ = some (.int .u8 (c4 : Int)) := by rw [← hw2]; exact g4
  have k5 : w2.cell? ⟨blk, off + 5, none⟩ = some (.int .u8 (c5 : Int)) := by rw [← hw2]; exact g5
  have k6 : w2.cell? ⟨blk, off + 6, none⟩ = some (.int .u8 (c6 : Int)) := by rw [← hw2]; exact g6
  have hblk2 : blk < w2.heap.size := World.block_lt_of_cell? w2 _ k6
  have q4 : (w2.alloc (.cells fr0 27)).cell? ⟨blk, off + 4, none⟩ = some (.int .u8 (c4 : Int)) := (bcl (bal _ _) hblk2).trans k4
  have q5 : (w2.alloc (.cells fr0 27)).cell? ⟨blk, off + 5, none⟩ = some (.int .u8 (c5 : Int)) := (bcl (bal _ _) hblk2).trans k5
  have q6 : (w2.alloc (.cells fr0 27)).cell? ⟨blk, off + 6, none⟩ = some (.int .u8 (c6 : Int)) := (bcl (bal _ _) hblk2).trans k6
  rw [hw2]
  have HW2 := hide hw2
  have HW1 := hide hw1
  clear hw2 g0' g0 g1 g2 g3 g4 g5 g6 hw1
  have hf0 : (fr0 = #[]) = False := eq_false (fun h => by have := fr0_size; rw [h] at this; cases this)
  have hfs := fr0_size
  obtain ⟨F, hF⟩ : ∃ F, frv (c6 : Int) (n : Int) (m : Int) zeros64 = F := ⟨_, rfl⟩
  have hFs : F.size = 67 := by rw [← hF, frv_size]; rfl
  have hset : ((fr0.setIfInBounds 0 (.int .i64 (c6 : Int))).setIfInBounds 1 (.int .i64 (n : Int))).setIfInBounds 2 (.int .u16 (m : Int)) = F := by rw [← hF]; exact frv_set _ _ _ _ _ _ _
  have hst : (storeCells ⟨w2.heap.size, 0, none⟩ F.toList).run Try.prog (w2.alloc (.cells fr0 27)).drew = .ok () ((w2.alloc (.cells fr0 27)).drew.setRow w2.heap.size F) := by
    have h := run_storeCells_from (P := Try.prog) w2.heap.size 27 F.toList 0 fr0 (w2.alloc (.cells fr0 27)).drew (heap_alloc_new w2 _) (by rw [Array.length_toList, hFs, hfs]) (fun v hv => by
      have h1 := frv_one (c6 : Int) (n : Int) (m : Int) zeros64
      rw [hF, Array.all_eq_true_iff_forall_mem] at h1
      exact h1 v (Array.mem_toList_iff.1 hv))
    simpa using h
  have hor2 := Hor2.out
  have HF := hide hF
  clear hF
  go_region
  have h1b : Below w.heap.size w w1 := by rw [← HW1.out]; exact bal _ _
  have h2b : Below w.heap.size w w2 := by rw [← HW2.out]; exact below_drewN h1b nq
  have h2z : w2.heap.size = w.heap.size + 1 := by rw [← HW2.out]; show w1.heap.size = _; rw [← HW1.out]; simp
  have h2r : w2.heap[w.heap.size]? = some (.cells fr0 27 (0, 0)) := by rw [← HW2.out]; show w1.heap[_]? = _; rw [← HW1.out]; exact heap_alloc_new w _
  obtain ⟨w3, hw3⟩ : ∃ w3, (w2.alloc (.cells fr0 27)).drew.setRow w2.heap.size F = w3 := ⟨_, rfl⟩
  have h3r : w3.heap[w2.heap.size]? = some (.cells F.toList.toArray 27 (0, 0)) := by rw [← hw3]; exact setRow_heap _ _ _ _ _ _ (heap_alloc_new w2 _)
  have h3o : w3.heap[w.heap.size]? = some (.cells fr0 27 (0, 0)) := by
    rw [← hw3, setRow_other _ _ _ _ (by omega)]
    show (w2.alloc (.cells fr0 27)).heap[_]? = _
    exact (heap_alloc_old w2 _ (by omega)).trans h2r
  have h3b : Below w.heap.size w w3 := by
    rw [← hw3]
    exact below_setRow (below_drewN (h2b.alloc (by omega) _) 1) (by omega) _
  have h3z : w3.heap.size = w.heap.size + 2 := by rw [← hw3]; show ((w2.alloc (.cells fr0 27)).drew.setRow w2.heap.size F).heap.size = _; simp; omega
  rw [hw3]
  have HT2 := hide h2z
  rw [h2z] at h3r ⊢
  clear hw3 hst hset hf0 hor2 k4 k5 k6 q4 q5 q6 h2r h2b h1b hblk2 h2z hfs hFs
  have H3r := hide h3r; have H3o := hide h3o; have H3b := hide h3b; have H3z := hide h3z
  clear h3r h3o h3b h3z
  have i71 : (71 : Int) ≤ (cap : Int) := by omega
  have i7 : (cap = 7) = False := eq_false (by omega)
  go_wp2_with fail
  have hFl : F.toList.length = 67 := by rw [← HF.out]; simp [frv, bys, zeros64]
  have hcs : (bys p).toList.length = Nat.min 64 64 := by simp [bys, HP.out]
  have hpos : 0 < (bys p).toList.length → (some (⟨w.heap.size + 1, 3, none⟩ : Addr) = some ⟨w.heap.size + 1, 3, none⟩ ∧ ∃ ad, some (⟨blk, off + 7, none⟩ : Addr) = some ad ∧ ∀ j v, (bys p).toList[j]? = some v → w3.drew.cell? (ad.add j) = some v) := by
    refine fun _ => ⟨rfl, _, rfl, fun j v hv => ?_⟩
    have hj : j < p.length := by
      rcases Nat.lt_or_ge j p.length with h | h
      · exact h
      · rw [List.getElem?_eq_none (by simp [bys]; omega)] at hv; cases hv
    have h2 : (bys p)[j]? = some v := by simpa using hv
    rw [bys_get p j hj] at h2
    rw [← h2, show (⟨blk, off + 7, none⟩ : Addr).add j = ⟨blk, off + 7 + j, none⟩ by unfold Addr.add; split <;> simp_all]
    exact (bcl H3b.out hblk).trans (HPC.out j (by have := HP.out; omega))
  have hfit : 3 + (bys p).toList.length ≤ F.toList.length := by rw [hFl]; simp [bys, HP.out]
  have hone : ∀ v ∈ (bys p).toList, v.oneCell' = true := fun v hv => Array.all_eq_true_iff_forall_mem.1 (bys_one p) v (Array.mem_toList_iff.1 hv)
  have C1 := hide hcs; have C2 := hide hpos; have C3 := hide hfit; have C4 := hide hone; have C5 := hide hFl
  clear hcs hpos hfit hone hFl
  go_region_law (refine step_copy_splice rfl (.tmp 60) (.tmp 62) 28 28 rfl 5 Try.underlying28 (by kernel_rfl) _ _ 64 64 64 (cap - 7) rfl rfl (w.heap.size + 1) 3 F.toList 27 H3r.out (bys p).toList C1.out C2.out C3.out C4.out (w.heap.size + 1) w3 (below_drewN (Below.refl _ w3) 1) (Nat.le_refl _) ?_; intro w4 h4r h4b)
  have hspl : (splice F.toList 3 (bys p).toList).toArray = frv c6 n m p := by
    rw [← HF.out]
    simp [splice, frv, bys, zeros64, HP.out]
  have h4r2 := h4r.out
  rw [hspl] at h4r2
  have h4o : w4.heap[w.heap.size]? = some (.cells fr0 27 (0, 0)) := (h4b.block _ (by omega)).trans H3o.out
  have h4z : w4.heap.size = w.heap.size + 2 ∨ True := .inr trivial
  have h4w : Below w.heap.size w w4 := H3b.out.trans (h4b.mono (by omega))
  have hz67 : (frv (c6 : Int) (n : Int) (m : Int) p).size = 67 := by rw [frv_size, HP.out]
  have H4r := hide h4r2; have H4o := hide h4o; have H4w := hide h4w; have H67 := hide hz67
  clear h4r2 h4o h4w h4z hspl h4r h4b hz67
  have HA := hide (frv_one (c6 : Int) (n : Int) (m : Int) p)
  obtain ⟨G, hG⟩ : ∃ G, frv (c6 : Int) (n : Int) (m : Int) p = G := ⟨_, rfl⟩
  rw [hG] at H4r H67 HA
  have HG := hide hG; clear hG
  go_wp2_with (first
    | (refine wpList_load_row rfl 27 (.tmp 5) rfl (w.heap.size + 1) rfl 27 G (0, 0) _ H4r.out Try.underlying27 rfl (fr_info H67.out) ?_)
    | (refine wpList_store_row rfl 27 (.tmp 2) (.tmp 64) rfl w.heap.size G rfl rfl 27 _ H4o.out (fr_info H67.out) (by rw [fr0_size, H67.out]) HA.out ?_))
  refine bodyPost_ret (results_row_slot (fn := Try.f27) rfl _ _ w.heap.size 27 G (0, 0) rfl (.bool true) rfl ?_ H67.out) rfl ⟨by rw [HG.out], ?_⟩
  · exact setRow_heap _ _ _ _ _ _ H4o.out
  · exact below_setRow H4w.out (Nat.le_refl _) _
end Go.Proofs.Ytihldmcakcobaaa
