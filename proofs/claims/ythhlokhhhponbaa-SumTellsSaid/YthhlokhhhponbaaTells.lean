/-
  The walk of SumTells: Sum, More and Table answer what the document's own Sum, More and Table answer, of any bytes, and the bytes stay.
-/
import Derived.Test.YthhlokhhhponbaaRef
import Derived.Test.YthhlokhhhponbaaCopy
import Derived.Laws.BytesArg
namespace Go.Proofs.Ythhlokhhhponbaa
open Go.RowKit
set_option linter.unusedVariables false

/-- bytes as a string -/
def str (l : List Nat) : ByteArray := strOfNums (l.map fun c : Nat => (c : Int))
theorem str_of (w : World) (A : Option Addr) (n cap : Nat) (l : List Nat) (hB : Bytes w A l) (hn : l.length = n) :
    (convert 22 9 (.slice A n cap)).run Try.prog w = .ok (.string (str l)) w := by
  subst hn
  rcases hB.2 with rfl | ⟨b, off, rfl, _, hc⟩
  · show (convert 22 9 (.slice A 0 cap)).run Try.prog w = _
    rcases A with _ | ad
    · exact run_convert_bytes_nil (P := Try.prog) w 22 5 Try.underlying22 Try.underlying5 0 cap 9 Try.underlying9
    · rw [run_convert_bytes_string w 22 9 5 _ 0 cap Try.underlying22 Try.underlying5 Try.underlying9,
        run_bytesToString w ad 0 cap [] (by simp [loadCells, loadCellsFrom])]
      rfl
  · exact run_convert_bytes_arg (P := Try.prog) w 22 5 Try.underlying22 Try.underlying5 b off _ cap (l.map fun c : Nat => (c : Int)) (by simp) (fun i hi => by
      rw [hc i hi]
      simp [List.getD_eq_getElem?_getD, hi]) 9 Try.underlying9

theorem two_tabs (w : World) (c d : Array Value) :
    (∀ j, j < 256 → ((((w.alloc (.cells c 24)).alloc (.cells d 24)).setRow w.heap.size tab).setRow (w.heap.size + 1) tab).cell? ⟨w.heap.size, j, none⟩ = some (.int .u32 ((SumMath.steps 8 j : Nat) : Int))) ∧
    (∀ j, j < 256 → ((((w.alloc (.cells c 24)).alloc (.cells d 24)).setRow w.heap.size tab).setRow (w.heap.size + 1) tab).cell? ⟨w.heap.size + 1, j, none⟩ = some (.int .u32 ((SumMath.steps 8 j : Nat) : Int))) := by
  have a1 := heap_alloc2_old w (.cells c 24) (.cells d 24)
  have a2 := heap_alloc2_new w (.cells c 24) (.cells d 24)
  generalize (w.alloc (.cells c 24)).alloc (.cells d 24) = x at a1 a2
  have b1 : (x.setRow w.heap.size tab).heap[w.heap.size]? = some (.cells tab 24 (0, 0)) := by
    unfold World.setRow; rw [Array.getElem?_modify, if_pos rfl, a1]; rfl
  have b2 : (x.setRow w.heap.size tab).heap[w.heap.size + 1]? = some (.cells d 24 (0, 0)) := (setRow_other _ _ _ _ (by omega)).trans a2
  generalize x.setRow w.heap.size tab = y at b1 b2
  refine ⟨fun j hj => ?_, fun j hj => ?_⟩
  · rw [cell_of_row _ _ j tab 24 (0, 0) ((setRow_other _ _ _ _ (by omega)).trans b1)]
    exact cells_get _ j hj
  · rw [cell_of_row _ _ j tab 24 (0, 0) (by unfold World.setRow; rw [Array.getElem?_modify, if_pos rfl, b2]; rfl)]
    exact cells_get _ j hj

set_option maxRecDepth 100000 in
set_option maxHeartbeats 800000 in
theorem tells_any (l : List Nat) (n : Nat) (A : Option Addr) (cap s : Nat) (w : World) (hn : l.length = n) (hB : Bytes w A l) (hs : s < 4294967296) :
    Calls Try.prog 3 #[.slice A n cap, .int .u32 s] w fun e w' => e = .returned (.bool true) ∧ Below w.heap.size w w' := by
  have Hn := hide hn; clear hn
  by_cases hlen : 100000 < n
  · go_enter Try.func3, Try.ntmps3
    go_wp2
    go_ret
    exact ⟨rfl, Below.refl _ _⟩
  · have hz := (zero_of_info info_tab).1
    go_enter Try.func3, Try.ntmps3
    go_wp2_with (first
      | (at_builtin; refine wpList_copy _ rfl (.tmp 12) (.tmp 13) rfl w.heap.size rfl (heap_alloc_new w _) A n cap l rfl (hB.later (Below.refl _ _) _) Hn.out (by omega) ?_; intro g c w2 hc1 hc2 hg hrow hb2)
      | (go_at_call 11; refine (table_any _).mono ?_; rintro e w3 ⟨rfl, hb3⟩)
      | (go_at_call 12; refine (rtable_any _).mono ?_; rintro e w4 ⟨rfl, hb4⟩)
      | (refine wpList_store_row rfl 24 (.tmp 6) (.tmp 15) rfl w4.heap.size tab rfl rfl 24 _ (heap_alloc2_old w4 _ _) tab_info (by rw [cells_size, tab_size]) (cells_one _) ?_)
      | (refine wpList_store_row rfl 24 (.tmp 7) (.tmp 16) rfl (w4.heap.size + 1) tab rfl rfl 24 _ ((setRow_other _ _ _ _ (by omega)).trans (heap_alloc2_new w4 _ _)) tab_info (by rw [cells_size, tab_size]) (cells_one _) ?_))
    have hrow4 := (hrow.below hb3 hrow.1).below (hb4.mono hb3.size) hrow.1
    have hb24 : Below w.heap.size w w4 := (((Below.refl _ _).alloc (Nat.le_refl _) _).trans hb2).trans ((hb3.mono (Nat.le_trans (by simp) hb2.size)).trans (hb4.mono (Nat.le_trans (Nat.le_trans (by simp) hb2.size) hb3.size)))
    have h6 := two_tabs w4 (cells fun _ => 0) (cells fun _ => 0)
    have h7 : Below w.heap.size w ((((w4.alloc (.cells (cells fun _ => 0) 24)).alloc (.cells (cells fun _ => 0) 24)).setRow w4.heap.size tab).setRow (w4.heap.size + 1) tab) :=
      below_setRow (below_setRow ((hb24.alloc hb24.size _).alloc (by have := hb24.size; simp; omega) _) hb24.size _) (by have := hb24.size; omega) _
    have h8 : Row ((((w4.alloc (.cells (cells fun _ => 0) 24)).alloc (.cells (cells fun _ => 0) 24)).setRow w4.heap.size tab).setRow (w4.heap.size + 1) tab) g n (fun t => l.getD t 0) :=
      hrow4.below (below_setRow (below_setRow (((Below.refl _ w4).alloc (Nat.le_refl _) _).alloc (by simp) _) (Nat.le_refl _) _) (by omega) _) hrow4.1
    generalize (((w4.alloc (.cells (cells fun _ => 0) 24)).alloc (.cells (cells fun _ => 0) 24)).setRow w4.heap.size tab).setRow (w4.heap.size + 1) tab = w5 at h6 h7 h8
    generalize w4.heap.size = q at h6
    clear hrow hrow4 hb24 hb2 hb3 hb4 hz
    go_loopw [8, 19] (fun _ i wr => ∃ k m : Nat, k ≤ n ∧ i = .int .i64 k ∧ w5.drewN m = wr) (fun _ i _ => n - (intOf i).toNat)
    case atStart => exact ⟨0, 0, by omega, rfl, rfl⟩
    case round =>
      obtain ⟨k, m, hk, rfl, rfl⟩ := hrel
      have hBr := hB.of_below h7 (Nat.le_refl _)
      by_cases hlt : k < n
      · obtain ⟨b, off, rfl, hb, hcell⟩ := hBr.at (k := k) (by have := Hn.out; omega)
        have v := hcell k (by have := Hn.out; omega)
        have u := hBr.byte k
        have c1 := h6.1 (l.getD k 0) u
        have c2 := h6.2 (l.getD k 0) u
        clear hcell
        generalize l.getD k 0 = d at v u c1 c2
        have i1 : (0 : Int) ≤ (d : Int) := by omega
        have i2 : (d : Int) < 256 := by omega
        have i3 : (k : Int) < (n : Int) := by omega
        go_wp2_with fail
        go_quiet (fail)
        go_wp2
        go_roundw
        case rel => exact ⟨k + 1, _, by omega, by go_num, rfl⟩
        case measure => simp [intOf]; omega
      · have ho : Bytes (w5.drewN m) (some ⟨g, 0, none⟩) l := ⟨hB.1, .inr ⟨g, 0, rfl, h8.1, fun i hi => by rw [Nat.zero_add]; exact (h8.2 i (by rw [← Hn.out]; exact hi)).1⟩⟩
        have hb5 : Bytes (w5.drewN m) A l := hBr.drewN m
        have s1 := str_of _ _ _ c l ho Hn.out
        have s2 := str_of _ _ _ cap l hb5 Hn.out
        have hfin : Below w.heap.size w (w5.drewN m) := below_drewN h7 m
        clear h8 h7 h6 hBr
        go_wp2_with fail
        refine (sum_at l _ _ _ _ Hn.out ho (by omega)).mono ?_
        rintro e w' ⟨rfl, rfl⟩
        go_wp2_with fail
        refine (rsum_at l _ _ _ _ Hn.out hb5 (by omega)).mono ?_
        rintro e w' ⟨rfl, rfl⟩
        go_wp2_with fail
        refine (more_at l _ _ _ _ _ hs Hn.out ho (by omega)).mono ?_
        rintro e w' ⟨rfl, rfl⟩
        go_wp2_with fail
        refine (rmore_at l _ _ _ _ _ hs Hn.out hb5 (by omega)).mono ?_
        rintro e w' ⟨rfl, rfl⟩
        go_wp2_with fail
        go_ret
        exact ⟨rfl, hfin⟩
end Go.Proofs.Ythhlokhhhponbaa
