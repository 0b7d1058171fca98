/-
  What the document's answers make of a configuration: precision, owner, turn, and how great it is.
-/
import Derived.Test.YthngjegimecaaaaDoorCfg
import Derived.WalkSpells
import Derived.WalkLawsBesides
import Derived.Deep.RegionHeld
import Derived.Deep.QuietTactic
import Derived.BigQuiet
namespace Go.Proofs.YthngjegimecaaaaDoor
open Go.RowKit Go.Deep
set_option linter.unusedVariables false

/-- 2 times drift and reading together, and 1, as Go's int has it -/
def precision (c : Conf) : Int := wrap64 (wrap64 (2 * wrap64 (c.drift + c.reading)) + 1)

/-- whose a slot is -/
def ownerOf (c : Conf) (slot : Int) : Int := if slot < 0 ∨ c.nodes < 1 ∨ (c.owners.length : Int) ≠ c.nodes then -1 else c.owners.getD (slot % c.nodes).toNat 0

/-- at which place of a list a number stands first, from place k on -/
def firstAt (l : List Int) (n : Int) : Int := match l.findIdx? (· == n) with | some i => (i : Int) | none => -1

theorem firstAt_hit (l : List Int) (n : Int) (i : Nat) (hi : i < l.length) (h : l.getD i 0 = n) (hno : ∀ j, j < i → l.getD j 0 ≠ n) : firstAt l n = (i : Int) := by
  have : l.findIdx? (· == n) = some i := by
    rw [List.findIdx?_eq_some_iff_getElem]
    refine ⟨hi, by simpa [List.getD_eq_getElem?_getD, hi] using h, fun j hj => ?_⟩
    have hj' : j < l.length := by omega
    simpa [List.getD_eq_getElem?_getD, hj'] using hno j hj
  unfold firstAt; rw [this]
theorem firstAt_miss (l : List Int) (n : Int) (hno : ∀ j, j < l.length → l.getD j 0 ≠ n) : firstAt l n = -1 := by
  have : l.findIdx? (· == n) = none := by
    rw [List.findIdx?_eq_none_iff]
    intro x hx
    obtain ⟨j, hj, rfl⟩ := List.getElem_of_mem hx
    simpa [List.getD_eq_getElem?_getD, hj] using hno j hj
  unfold firstAt; rw [this]

set_option maxHeartbeats 400000 in
/-- two lists of numbers are told to be the same just if they are -/
theorem rints_any (a b : List Int) (A B : Option Addr) (m n : Nat) (w : World) (hA : Ints w A a) (hB : Ints w B b) (la : a.length ≤ 9223372036854775807) (lb : b.length ≤ 9223372036854775807) :
    Calls Tryd.prog 13 #[.slice A a.length m, .slice B b.length n] w fun e w' => e = .returned (.bool (decide (a = b))) ∧ ∃ n, w' = w.drewN n := by
  by_cases hl : a.length = b.length
  · go_enter Tryd.func13, Tryd.ntmps13
    go_wp2
    go_loopw [5] (fun i wr => ∃ k : Nat, k ≤ a.length ∧ i = .int .i64 k ∧ Hid (∀ j, j < k → a.getD j 0 = b.getD j 0) ∧ ∃ n, wr = w.drewN n) (fun i _ => a.length - (intOf i).toNat)
    case atStart => exact ⟨0, by omega, rfl, (fun j hj => by omega), 0, rfl⟩
    case round =>
      obtain ⟨k, hk, rfl, H, nd, rfl⟩ := hrel
      by_cases hlt : k < a.length
      · obtain ⟨ba, oa, rfl, hba, hca⟩ := hA.at hlt
        obtain ⟨bb, ob, rfl, hbb, hcb⟩ := hB.at (k := k) (by omega)
        have hna := hA.num k
        have hnb := hB.num k
        clear hA hB
        by_cases he : a.getD k 0 = b.getD k 0
        · have H2 : Hid (∀ j, j < k + 1 → a.getD j 0 = b.getD j 0) := fun j hj => by
            rcases Nat.lt_succ_iff_lt_or_eq.1 hj with h1 | rfl
            · exact H j h1
            · exact he
          generalize a.getD k 0 = x at hca hna he
          generalize b.getD k 0 = y at hcb hnb he
          go_wp2
          go_region
          go_wp2
          go_round
          case rel => exact ⟨k + 1, by omega, by go_num, H2, nd + 1, rfl⟩
          case measure => simp [intOf]; omega
        · have H2 : Hid (decide (a = b) = false) := by show _ = _; simp; rintro rfl; exact he rfl
          generalize a.getD k 0 = x at hca hna he
          generalize b.getD k 0 = y at hcb hnb he
          go_wp2
          go_region
          go_wp2
          go_ret
          exact ⟨by rw [H2.out]; rfl, nd + 1, rfl⟩
      · have H2 : Hid (decide (a = b) = true) := by
          show _ = _
          rw [decide_eq_true_eq]
          apply List.ext_getElem hl
          intro i h1 h2
          have := H i (by omega)
          simpa [List.getD_eq_getElem?_getD, h1, h2] using this
        obtain rfl : k = a.length := by omega
        clear hA hB
        go_wp2
        go_ret
        exact ⟨by rw [H2.out]; rfl, nd, rfl⟩
  · have H : Hid (decide (a = b) = false) := by show _ = _; simp; rintro rfl; exact hl rfl
    go_enter Tryd.func13, Tryd.ntmps13
    go_wp2
    go_ret
    exact ⟨by rw [H.out]; rfl, 0, rfl⟩
end Go.Proofs.YthngjegimecaaaaDoor
