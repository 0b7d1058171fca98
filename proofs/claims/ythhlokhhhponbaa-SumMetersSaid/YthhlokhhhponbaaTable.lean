/-
  The table: Table and the document's Table hand back what eight steps make of 0, 1, .. 255.
-/
import Derived.Test.YthhlokhhhponbaaSum
import Derived.Deep.WholeRow
import Derived.Laws.CopyOwn
namespace Go.Proofs.Ythhlokhhhponbaa
open Go.RowKit
set_option linter.unusedVariables false

/-- 256 numbers -/
def cells (f : Nat → Nat) : Array Value := (Array.range 256).map fun i => .int .u32 ((f i : Nat) : Int)
theorem cells_size (f : Nat → Nat) : (cells f).size = 256 := by simp [cells]
theorem cells_get (f : Nat → Nat) (i : Nat) (h : i < 256) : (cells f)[i]? = some (.int .u32 ((f i : Nat) : Int)) := by simp [cells, h]
theorem cells_one (f : Nat → Nat) : (cells f).all (·.oneCell') = true := by
  rw [Array.all_eq_true]
  intro i hi
  simp [cells, Value.oneCell']
theorem cells_set (f g : Nat → Nat) (k : Nat) (v : Nat) (hk : k < 256) (hg : ∀ i, i < 256 → g i = if i = k then v else f i) : (cells f).setIfInBounds k (.int .u32 (v : Int)) = cells g := by
  apply Array.ext_getElem?
  intro i
  rw [Array.getElem?_setIfInBounds, cells_size]
  rcases Nat.lt_or_ge i 256 with hi | hi
  · rw [cells_get g i hi, cells_get f i hi, hg i hi]
    by_cases e : k = i
    · rw [if_pos e, if_pos hk, if_pos e.symm]
    · rw [if_neg e, if_neg (fun e2 => e e2.symm)]
  · rw [if_neg (by omega), Array.getElem?_eq_none (by rw [cells_size]; exact hi), Array.getElem?_eq_none (by rw [cells_size]; exact hi)]
theorem cells_congr (f g : Nat → Nat) (h : ∀ i, i < 256 → f i = g i) : cells f = cells g := by
  apply Array.ext_getElem?
  intro i
  rcases Nat.lt_or_ge i 256 with hi | hi
  · rw [cells_get f i hi, cells_get g i hi, h i hi]
  · rw [Array.getElem?_eq_none (by rw [cells_size]; exact hi), Array.getElem?_eq_none (by rw [cells_size]; exact hi)]
theorem info_tab : (Try.prog.info? 24).map (fun i => (i.zero, i.size)) = some (some (.agg (cells fun _ => 0)), 256) := by kernel_rfl
def tab : Array Value := cells fun i => SumMath.steps 8 i
theorem tab_size : tab.size = 256 := cells_size _
theorem tab_info : (Try.prog.info? 24).map (·.size) = some tab.size := by rw [tab_size]; exact (zero_of_info info_tab).2

set_option maxRecDepth 100000 in
set_option maxHeartbeats 400000 in
theorem table_any (w : World) :
    Calls Try.prog 11 #[] w fun e w' => e = .returned (.agg tab) ∧ Below w.heap.size w w' := by
  have hz := (zero_of_info info_tab).1
  go_enter Try.func11, Try.ntmps11
  go_wp2_with fail
  go_loopw [2, 3] (fun _ i wr => ∃ (k : Nat), k ≤ 256 ∧ i = .int .i64 k ∧ (w.alloc (.cells (cells fun _ => 0) 24)).alloc (.cells (cells fun i => if i < k then SumMath.steps 8 i else 0) 24) = wr) (fun _ i _ => 256 - (intOf i).toNat)
  case atStart => exact ⟨0, by omega, rfl, by simp⟩
  case round =>
    obtain ⟨k, hk, rfl, rfl⟩ := hrel
    by_cases hlt : k < 256
    · have hset := cells_set (fun i => if i < k then SumMath.steps 8 i else 0) (fun i => if i < k + 1 then SumMath.steps 8 i else 0) k (SumMath.steps 8 k) hlt (fun i hi => by
        by_cases e : i = k
        · subst e; rw [if_pos rfl, if_pos (by omega)]
        · rw [if_neg e]; by_cases e2 : i < k
          · rw [if_pos e2, if_pos (by omega)]
          · rw [if_neg e2, if_neg (by omega)])
      have HS := hide hset; clear hset
      have hcg := cells_get (fun i => if i < k then SumMath.steps 8 i else 0) k hlt
      have hcs := cells_size (fun i => if i < k then SumMath.steps 8 i else 0)
      go_wp2_with (go_at_call 24; refine (eight_any _ _ (by omega)).mono ?_; rintro e w' ⟨rfl, rfl⟩)
      go_roundw
      case rel => exact ⟨k + 1, by omega, by go_num, by rw [HS.out]⟩
      case measure => simp [intOf]; omega
    · obtain rfl : k = 256 := by omega
      rw [show (cells fun i => if i < 256 then SumMath.steps 8 i else 0) = tab from cells_congr _ _ (fun i hi => if_pos hi)]
      have h0 := heap_alloc2_old w (.cells (cells fun _ => 0) 24) (.cells tab 24)
      have h1 := heap_alloc2_new w (.cells (cells fun _ => 0) 24) (.cells tab 24)
      have H0 := hide h0; have H1 := hide h1; clear h0 h1 hz
      go_wp2_with (first
        | (refine wpList_load_row rfl 24 (.tmp 1) rfl (w.heap.size + 1) rfl 24 tab (0, 0) _ H1.out Try.underlying24 rfl tab_info ?_)
        | (refine wpList_store_row rfl 24 (.tmp 0) (.tmp 12) rfl w.heap.size tab rfl rfl 24 _ H0.out tab_info (by rw [cells_size, tab_size]) (cells_one _) ?_))
      refine bodyPost_ret (results_cell_row (fn := Try.f11) rfl _ _ w.heap.size 24 tab (0, 0) _ rfl ?_ Try.underlying24 rfl tab_info) rfl ⟨rfl, ?_⟩
      · unfold World.setRow
        rw [Array.getElem?_modify, if_pos rfl, H0.out]; rfl
      · exact below_setRow (((Below.refl _ _).alloc (Nat.le_refl _) _).alloc (by simp) _) (Nat.le_refl _) _
end Go.Proofs.Ythhlokhhhponbaa
