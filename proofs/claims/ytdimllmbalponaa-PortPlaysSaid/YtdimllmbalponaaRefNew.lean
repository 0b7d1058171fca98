/-
  rotaref04.New.
-/
import Derived.Test.YtdimllmbalponaaAlone
namespace Go.Proofs.Ytdimllmbalponaa
open Go.RowKit Go.Shelf
set_option linter.unusedVariables false

def zref : Array Value := #[.int .i64 0, .int .i64 0, .int .i64 0, .int .i64 0, .int .i64 0, .int .i64 0, .slice none 0 0, .int .i64 0, .bool false]
theorem info_ref : (Try.prog.info? 31).map (fun i => (i.zero, i.size)) = some (some (.agg zref), 9) := by kernel_rfl
theorem ref_info {cs : Array Value} (h : cs.size = 9) : (Try.prog.info? 31).map (·.size) = some cs.size := by rw [h]; exact (zero_of_info info_ref).2

theorem results_ref (tmps : Array Value) (w : World) (g : Nat) (t : TypeId) (cs : Array Value) (v : Value) (fr : Nat × Nat)
    (hp : tmps.getD 2 undef = .pointer (some ⟨g, 0, none⟩)) (h3 : tmps.getD 3 undef = v) (hg : w.heap[g]? = some (.cells cs t fr)) (hs : cs.size = 9) : (results Try.f5 tmps).run Try.prog w = .ok (.tuple #[.agg cs, v]) w := by
  have hp' : tmps[2]?.getD undef = .pointer (some ⟨g, 0, none⟩) := by simpa using hp
  have h3' : tmps[3]?.getD undef = v := by simpa using h3
  simp [results, Try.results5, hp', h3', asAddr, run_loadVar_row w g t _ cs fr _ hg Try.underlying31 rfl (ref_info hs)]

set_option maxRecDepth 100000 in
set_option maxHeartbeats 2000000 in
theorem ref_new (pt k d s e f : Int) (w : World) : Calls Try.prog 5 #[.agg #[.int .i64 pt, .int .i64 k, .int .i64 d, .int .i64 s, .int .i64 e, .int .i64 f]] w fun e' w' =>
    ((May k d s e f ∧ e' = .returned (.tuple #[.agg #[.int .i64 pt, .int .i64 k, .int .i64 d, .int .i64 s, .int .i64 e, .int .i64 f, .slice none 0 0, .int .i64 0, .bool false], .int .i64 0])) ∨ (¬ May k d s e f ∧ e' = .returned (.tuple #[.agg zref, .int .i64 40]))) ∧ Below w.heap.size w w' := by
  have hz := (zero_of_info info_ref).1
  have hb := (bal w (.cells #[.int .i64 pt, .int .i64 k, .int .i64 d, .int .i64 s, .int .i64 e, .int .i64 f] 23)).alloc (by simp) (.cells zref 31)
  have hr := heap_alloc2_old w (.cells #[.int .i64 pt, .int .i64 k, .int .i64 d, .int .i64 s, .int .i64 e, .int .i64 f] 23) (.cells zref 31)
  have hn := heap_alloc2_new w (.cells #[.int .i64 pt, .int .i64 k, .int .i64 d, .int .i64 s, .int .i64 e, .int .i64 f] 23) (.cells zref 31)
  have hsz : w.heap.size + 1 < ((w.alloc (.cells #[.int .i64 pt, .int .i64 k, .int .i64 d, .int .i64 s, .int .i64 e, .int .i64 f] 23)).alloc (.cells zref 31)).heap.size := by simp
  obtain ⟨w1, hw1⟩ : ∃ w1, (w.alloc (.cells #[.int .i64 pt, .int .i64 k, .int .i64 d, .int .i64 s, .int .i64 e, .int .i64 f] 23)).alloc (.cells zref 31) = w1 := ⟨_, rfl⟩
  rw [hw1] at hb hr hn hsz
  have HB := hide hb; have HN := hide hn
  have c0 : w1.cell? ⟨w.heap.size, 0, none⟩ = some (.int .i64 pt) := by rw [cell_of_row _ _ _ _ _ _ hr]; rfl
  have c1 : w1.cell? ⟨w.heap.size, 1, none⟩ = some (.int .i64 k) := by rw [cell_of_row _ _ _ _ _ _ hr]; rfl
  have c2 : w1.cell? ⟨w.heap.size, 2, none⟩ = some (.int .i64 d) := by rw [cell_of_row _ _ _ _ _ _ hr]; rfl
  have c3 : w1.cell? ⟨w.heap.size, 3, none⟩ = some (.int .i64 s) := by rw [cell_of_row _ _ _ _ _ _ hr]; rfl
  have c4 : w1.cell? ⟨w.heap.size, 4, none⟩ = some (.int .i64 e) := by rw [cell_of_row _ _ _ _ _ _ hr]; rfl
  have c5 : w1.cell? ⟨w.heap.size, 5, none⟩ = some (.int .i64 f) := by rw [cell_of_row _ _ _ _ _ _ hr]; rfl
  have HR := hide hr
  clear hb hr hn
  go_enter Try.func5, Try.ntmps5
  go_wp2_with fail
  refine (alone_at pt k d s e f w1).mono ?_
  rintro e' w2 ⟨rfl, hb2⟩
  have hz2 := hb2.size
  have HN2 := hide ((hb2.block (w.heap.size + 1) (by omega)).trans HN.out)
  have HB2 := hide (HB.out.trans (hb2.mono (by omega)))
  have hr2 := (hb2.block w.heap.size (by omega)).trans HR.out
  have d0 : w2.cell? ⟨w.heap.size, 0, none⟩ = some (.int .i64 pt) := by rw [cell_of_row _ _ _ _ _ _ hr2]; rfl
  have d1 : w2.cell? ⟨w.heap.size, 1, none⟩ = some (.int .i64 k) := by rw [cell_of_row _ _ _ _ _ _ hr2]; rfl
  have d2 : w2.cell? ⟨w.heap.size, 2, none⟩ = some (.int .i64 d) := by rw [cell_of_row _ _ _ _ _ _ hr2]; rfl
  have d3 : w2.cell? ⟨w.heap.size, 3, none⟩ = some (.int .i64 s) := by rw [cell_of_row _ _ _ _ _ _ hr2]; rfl
  have d4 : w2.cell? ⟨w.heap.size, 4, none⟩ = some (.int .i64 e) := by rw [cell_of_row _ _ _ _ _ _ hr2]; rfl
  have d5 : w2.cell? ⟨w.heap.size, 5, none⟩ = some (.int .i64 f) := by rw [cell_of_row _ _ _ _ _ _ hr2]; rfl
  clear hb2 hr2 c0 c1 c2 c3 c4 c5 hw1
  by_cases hm : May k d s e f
  · rw [decide_eq_true hm]
    have HM := hide hm
    clear hm
    go_wp2_with (first
      | (refine wpList_built rfl 31 _ rfl #[.int .i64 pt, .int .i64 k, .int .i64 d, .int .i64 s, .int .i64 e, .int .i64 f, .slice none 0 0, .int .i64 0, .bool false] (by kernel_rfl) ?_)
      | (refine wpList_store_row rfl 31 (.tmp 2) (.tmp 11) rfl (w.heap.size + 1) #[.int .i64 pt, .int .i64 k, .int .i64 d, .int .i64 s, .int .i64 e, .int .i64 f, .slice none 0 0, .int .i64 0, .bool false] rfl rfl 31 _ HN2.out (ref_info rfl) rfl (by simp [Value.oneCell']) ?_))
    refine bodyPost_ret (results_ref _ _ (w.heap.size + 1) 31 _ _ (0, 0) rfl rfl (setRow_heap _ _ _ _ _ _ HN2.out) rfl) rfl ⟨.inl ⟨HM.out, rfl⟩, below_setRow HB2.out (by omega) _⟩
  · rw [decide_eq_false hm]
    have HM := hide hm
    clear hm
    go_wp2_with (first
      | (refine wpList_built rfl 31 _ rfl zref (by kernel_rfl) ?_)
      | (refine wpList_store_row rfl 31 (.tmp 2) (.tmp 9) rfl (w.heap.size + 1) zref rfl rfl 31 _ HN2.out (ref_info rfl) rfl (by simp [Value.oneCell', zref]) ?_))
    refine bodyPost_ret (results_ref _ _ (w.heap.size + 1) 31 _ _ (0, 0) rfl rfl (setRow_heap _ _ _ _ _ _ HN2.out) rfl) rfl ⟨.inr ⟨HM.out, rfl⟩, below_setRow HB2.out (by omega) _⟩
end Go.Proofs.Ytdimllmbalponaa
