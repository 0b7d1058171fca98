/-
  Great answers something, whatever the tables are.
-/
import Derived.Test.YtdfpeilflinmhaaDoorChkD
namespace Go.Proofs.YtdfpeilflinmhaaDoor
open Go.RowKit Go.Deep
set_option linter.unusedVariables false
set_option linter.unusedSimpArgs false

def SomeTruth (w : World) (e : Ending) (w' : World) : Prop := (∃ b, e = .returned (.bool b)) ∧ Below w.heap.size w w'
theorem truth_of {w w' : World} {b : Bool} {v : Value} (h : v = .bool b) (hb : Below w.heap.size w w') : SomeTruth w (.returned v) w' := ⟨⟨b, by rw [h]⟩, hb⟩

set_option maxRecDepth 100000 in
set_option maxHeartbeats 4000000 in
theorem great_some (c : Conf) (d : Ad) (w : World) (h : ConfAt w c d) :
    Calls Tryd.prog 13 #[c.val d] w (SomeTruth w) := by
  have ha := (Below.refl w.heap.size w).alloc (Nat.le_refl _) (.cells (c.cells d) 28)
  have hx := boxed_new w c d 28
  have hW := h.windows.of_below ha (Nat.le_refl _)
  have hL := h.links.of_below ha (Nat.le_refl _)
  have hw1 := h.wLen; have hl1 := h.lLen; have ho1 := h.oLen; have hp1 := h.pLen; have hq1 := h.qLen
  have hM : maxLen = 9223372036854775807 := rfl
  rw [hM] at hw1 hl1 ho1 hp1 hq1
  clear h hM
  obtain ⟨oA, oC, pA, pC, wA, wC, qA, qC, lA, lC⟩ := d
  obtain ⟨nodes, owners, drift, reading, margin, bound, rejoin, quota, parts, windows, ports, links⟩ := c
  unfold Conf.val
  unfold Conf.cells at ha hx hW hL
  dsimp only at ha hx hW hL hw1 hl1 ho1 hp1 hq1 ⊢
  obtain ⟨hlt0, e0, e1, e2, e3, e4, e5, e6, e7, e8, e9, e10, e11⟩ := hx
  dsimp only at e0 e1 e2 e3 e4 e5 e6 e7 e8 e9 e10 e11
  go_enter Tryd.func13, Tryd.ntmps13
  go_upto_region 2 with fail
  generalize w.alloc (.cells #[.int .i64 nodes, .slice oA owners.length oC, .int .i64 drift, .int .i64 reading, .int .i64 margin, .int .i64 bound, .int .i64 rejoin, .int .i64 quota, .slice pA parts.length pC, .slice wA windows.length wC, .slice qA ports.length qC, .slice lA links.length lC] 28) = W at *
  have HB := hide ha
  have HW := hide hW
  have HL := hide hL
  clear ha hW hL
  go_wp2_with fail
  go_loop [3, 4] (fun n i => ∃ (k : Nat) (z : Int), k ≤ windows.length ∧ k ≤ 100 ∧ i = .int .i64 k ∧ n = .int .i64 z) (fun _ i => windows.length - (intOf i).toNat)
  case atStart => exact ⟨0, _, by omega, by omega, rfl, rfl⟩
  case round =>
    obtain ⟨k, z, hk, hk1, rfl, rfl⟩ := hrel
    by_cases hlt : k < windows.length
    · by_cases hlt2 : k < 100
      · obtain ⟨b, off, Ai, ci, hA, hb, hc, hl, hm, _⟩ := HW.out.at hlt
        subst hA
        generalize (windows.getD k []).length = x at hc hl
        go_wp2
        go_round
        case rel => exact ⟨k + 1, _, by omega, by omega, by go_num, rfl⟩
        case measure => simp [intOf]; omega
      · obtain rfl : k = 100 := by omega
        go_wp2
        go_loop [3, 5] (fun n i => ∃ (k : Nat) (z : Int), k ≤ links.length ∧ k ≤ 100 ∧ i = .int .i64 k ∧ n = .int .i64 z) (fun _ i => links.length - (intOf i).toNat)
        case atStart => exact ⟨0, _, by omega, by omega, rfl, rfl⟩
        case round =>
          obtain ⟨k, z, hk, hk1, rfl, rfl⟩ := hrel
          by_cases hlt3 : k < links.length
          · by_cases hlt4 : k < 100
            · obtain ⟨b, off, Ai, ci, hA, hb, hc0, hc, hc2, hl, hm, _⟩ := HL.out.at hlt3
              subst hA
              generalize (links.getD k default).dests.length = x at hc hl
              clear hc0 hc2
              go_wp2
              go_round
              case rel => exact ⟨k + 1, _, by omega, by omega, by go_num, rfl⟩
              case measure => simp [intOf]; omega
            · obtain rfl : k = 100 := by omega
              go_wp2
              all_goals go_ret
              all_goals exact truth_of rfl HB.out
          · obtain rfl : k = links.length := by omega
            go_wp2
            all_goals go_ret
            all_goals exact truth_of rfl HB.out
    · obtain rfl : k = windows.length := by omega
      go_wp2
      go_loop [3, 5] (fun n i => ∃ (k : Nat) (z : Int), k ≤ links.length ∧ k ≤ 100 ∧ i = .int .i64 k ∧ n = .int .i64 z) (fun _ i => links.length - (intOf i).toNat)
      case atStart => exact ⟨0, _, by omega, by omega, rfl, rfl⟩
      case round =>
        obtain ⟨k, z, hk, hk1, rfl, rfl⟩ := hrel
        by_cases hlt3 : k < links.length
        · by_cases hlt4 : k < 100
          · obtain ⟨b, off, Ai, ci, hA, hb, hc0, hc, hc2, hl, hm, _⟩ := HL.out.at hlt3
            subst hA
            generalize (links.getD k default).dests.length = x at hc hl
            clear hc0 hc2
            go_wp2
            go_round
            case rel => exact ⟨k + 1, _, by omega, by omega, by go_num, rfl⟩
            case measure => simp [intOf]; omega
          · obtain rfl : k = 100 := by omega
            go_wp2
            all_goals go_ret
            all_goals exact truth_of rfl HB.out
        · obtain rfl : k = links.length := by omega
          go_wp2
          all_goals go_ret
          all_goals exact truth_of rfl HB.out
end Go.Proofs.YtdfpeilflinmhaaDoor
