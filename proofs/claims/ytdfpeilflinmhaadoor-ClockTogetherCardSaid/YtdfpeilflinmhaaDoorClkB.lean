/-
  The average of a list of one's own: sorted, without the extremes, halved.
-/
import Derived.Test.YtdfpeilflinmhaaDoorClkA
import Derived.Test.YtdfpeilflinmhaaDoorShelf
import Derived.Sort.OwnSortedInts
namespace Go.Proofs.YtdfpeilflinmhaaDoor
open Go.RowKit Go.Deep Go.Sort
set_option linter.unusedVariables false
set_option linter.unusedSimpArgs false

theorem average_none (A : Option Addr) (c : Nat) (w : World) : Calls Tryd.prog 68 #[.slice A 0 c] w fun e w' => e = .returned (.tuple #[.int .i64 0, .bool false]) ∧ w' = w := by
  go_enter Tryd.func68, Tryd.ntmps68
  go_wp2
  go_ret2
  exact ⟨rfl, rfl⟩

theorem sorted_cell {W : World} {g n : Nat} {cur : Array Value} {e : TypeId} {s : List Int} (h : W.heap[g]? = some (.cells (putCells (Value.int .i64) 0 s.toArray cur) e (0, 0))) (hl : s.length ≤ cur.size) {j : Nat} (hj : j < s.length) : W.cell? ⟨g, j, none⟩ = some (.int .i64 (s.getD j 0)) := by
  rw [cell_row h]
  have h1 := take_putCellsI cur s hl
  have h2 : ((putCells (Value.int .i64) 0 s.toArray cur).toList.take s.length)[j]? = (s.map (Value.int .i64))[j]? := by rw [h1]
  rw [List.getElem?_take_of_lt hj, Array.getElem?_toList] at h2
  rw [h2]
  simp [List.getElem?_eq_getElem hj]

set_option maxRecDepth 100000 in
set_option maxHeartbeats 1000000 in
theorem average_some (zs : List Int) (g cap : Nat) (cur : Array Value) (w : World) (hb : w.heap[g]? = some (.cells cur 3 (0, 0))) (ht : cur.toList.take zs.length = zs.map (Value.int .i64)) (h0 : 0 < zs.length) (h1 : zs.length ≤ 1000) (hc : zs.length ≤ cap) (hm : cap ≤ maxLen)
    (hz : ∀ z ∈ zs, -2305843009213693952 ≤ z ∧ z ≤ 2305843009213693952) :
    Calls Tryd.prog 68 #[.slice (some ⟨g, 0, none⟩) zs.length cap] w fun e w' => e = .returned (.tuple #[.int .i64 (avg zs), .bool true]) ∧ Below g w w' := by
  have hg : g < w.heap.size := (Array.getElem?_eq_some_iff.1 hb).1
  have hcur : zs.length ≤ cur.size := by
    have := congrArg List.length ht
    simp only [List.length_take, List.length_map, Array.length_toList] at this
    omega
  have HS := hide ((Tryd.slices_Sort_int g 0 cap zs w (holds_of_blockI hb ht) hg (by omega)).mono (R' := fun e w' => e = .returned (.tuple #[]) ∧ Below g w w' ∧ ∀ j, j < zs.length → w'.cell? ⟨g, j, none⟩ = some (.int .i64 ((isort zs).getD j 0))) (by
    rintro e w' ⟨rfl, n, os, rfl⟩
    refine ⟨rfl, (Below.refl g w).grown (grownBy_sortedI _) (Nat.le_of_lt hg) (fun k hk => by cases hk; exact Nat.le_refl _), fun j hj => ?_⟩
    exact sorted_cell (n := 0) (heap_sortedI _ hb) (s := isort zs) (by rw [isort_len]; exact hcur) (by rw [isort_len]; exact hj)))
  have hr : ∀ j, j < zs.length → -2305843009213693952 ≤ (isort zs).getD j 0 ∧ (isort zs).getD j 0 ≤ 2305843009213693952 := by
    intro j hj
    have hj' : j < (isort zs).length := by rw [isort_len]; exact hj
    rw [List.getD_eq_getElem?_getD, List.getElem?_eq_getElem hj']
    exact hz _ (isort_mem.1 (List.getElem_mem hj'))
  have HA : Hid (avg zs = mid (isort zs)) := by show _ = _; unfold avg; rw [if_neg (by omega)]
  have HL := hide (isort_len zs)
  rw [HA.out]
  generalize isort zs = s at *
  generalize zs.length = n at *
  clear HA hb ht hz hcur
  have HM : maxLen = 9223372036854775807 := rfl
  rw [HM] at hm
  clear HM
  by_cases h3 : 3 ≤ n
  · obtain ⟨m, rfl⟩ : ∃ m, n = m + 3 := ⟨n - 3, by omega⟩
    have HE : Hid (mid s = (s.getD 1 0 + s.getD (m + 1) 0) / 2) := by
      show _ = _
      unfold mid
      rw [HL.out, if_pos (by omega)]
      rfl
    rw [HE.out]
    have r1 := hr 1 (by omega)
    have r2 := hr (m + 1) (by omega)
    have hw : IntKind.i64.wrap (s.getD 1 0 + s.getD (m + 1) 0) = s.getD 1 0 + s.getD (m + 1) 0 := by rw [IntKind.wrap_i64]; omega
    have HS1 : Hid (Calls Tryd.prog 98 #[.slice (some ⟨g, 0, none⟩) (m + 3) cap] w fun e w' => e = .returned (.tuple #[]) ∧ Below g w w' ∧ w'.cell? ⟨g, 1, none⟩ = some (.int .i64 (s.getD 1 0)) ∧ w'.cell? ⟨g, 1 + m, none⟩ = some (.int .i64 (s.getD (m + 1) 0))) :=
      HS.out.mono (by rintro e w' ⟨h1, h2, h3⟩; exact ⟨h1, h2, h3 1 (by omega), by rw [Nat.add_comm 1 m]; exact h3 (m + 1) (by omega)⟩)
    clear HE HL hr HS
    generalize s.getD 1 0 = t1 at *
    generalize s.getD (m + 1) 0 = t2 at *
    go_enter Tryd.func68, Tryd.ntmps68
    go_wp2_with fail
    refine HS1.out.mono ?_
    rintro e w1 ⟨rfl, hb1, c1, c2⟩
    have HB1 := hide hb1
    clear hb1 HS1
    go_wp2_with fail
    rw [show m + 3 - 1 - 1 = m + 1 by omega]
    go_quiet (fail)
    go_wp2
    all_goals go_ret2
    exact ⟨rfl, cdrewN HB1.out _⟩
  · have hr0 := hr 0 h0
    have hr1 := hr (n - 1) (by omega)
    obtain ⟨m, rfl⟩ : ∃ m, n = m + 1 := ⟨n - 1, by omega⟩
    have HE : Hid (mid s = (s.getD 0 0 + s.getD m 0) / 2) := by
      show _ = _
      unfold mid
      rw [HL.out, if_neg (by omega)]
      rfl
    rw [HE.out]
    rw [Nat.add_sub_cancel] at hr1
    have hw : IntKind.i64.wrap (s.getD 0 0 + s.getD m 0) = s.getD 0 0 + s.getD m 0 := by rw [IntKind.wrap_i64]; omega
    have HS1 : Hid (Calls Tryd.prog 98 #[.slice (some ⟨g, 0, none⟩) (m + 1) cap] w fun e w' => e = .returned (.tuple #[]) ∧ Below g w w' ∧ w'.cell? ⟨g, 0, none⟩ = some (.int .i64 (s.getD 0 0)) ∧ w'.cell? ⟨g, m, none⟩ = some (.int .i64 (s.getD m 0))) :=
      HS.out.mono (by rintro e w' ⟨h1, h2, h3⟩; exact ⟨h1, h2, h3 0 (by omega), h3 m (by omega)⟩)
    clear HE HL hr HS
    generalize s.getD 0 0 = t1 at *
    generalize s.getD m 0 = t2 at *
    go_enter Tryd.func68, Tryd.ntmps68
    go_wp2_with fail
    refine HS1.out.mono ?_
    rintro e w1 ⟨rfl, hb1, c1, c2⟩
    have HB1 := hide hb1
    clear hb1 HS1
    go_wp2_with fail
    go_quiet (fail)
    go_wp2
    all_goals go_ret2
    exact ⟨rfl, cdrewN HB1.out _⟩
end Go.Proofs.YtdfpeilflinmhaaDoor
