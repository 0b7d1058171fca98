/-
  What the document's answers make of a configuration: precision, owner, turn, and how great it is.
-/
import Derived.Test.YtbeggdahbhfhpaaDoorCfg
import Derived.WalkSpells
import Derived.WalkLawsBesides
import Derived.Deep.RegionHeld
import Derived.Deep.QuietTactic
import Derived.BigQuiet
namespace Go.Proofs.YtbeggdahbhfhpaaDoor
open Go.RowKit Go.Deep
set_option linter.unusedVariables false

/-- 2 times drift and reading together, and 1, as Go's int has it -/
def precision (c : Conf) : Int := wrap64 (wrap64 (2 * wrap64 (c.drift + c.reading)) + 1)

set_option maxHeartbeats 400000 in
theorem rprecision_any (c : Conf) (d : Ad) (w : World) (h : ConfAt w c d) :
    Calls Tryd.prog 137 #[c.val d] w fun e w' => e = .returned (.int .i64 (precision c)) ∧ Below w.heap.size w w' := by
  unfold Conf.val
  go_enter Tryd.func137, Tryd.ntmps137
  go_wp2
  go_ret
  exact ⟨rfl, (Below.refl _ _).alloc (Nat.le_refl _) _⟩

/-- whose a slot is -/
def ownerOf (c : Conf) (slot : Int) : Int := if slot < 0 ∨ c.nodes < 1 ∨ (c.owners.length : Int) ≠ c.nodes then -1 else c.owners.getD (slot % c.nodes).toNat 0

/-- at which place of a list a number stands first, from place k on -/
def firstAt (l : List Int) (n : Int) : Int := match l.findIdx? (· == n) with | some i => (i : Int) | none => -1

theorem firstAt_hit (l : List Int) (n : Int) (i : Nat) (hi : i < l.length) (h : l.getD i 0 = n) (hno : ∀ j, j < i → l.getD j 0 ≠ n) : firstAt l n = (i : Int) := by
  have : l.findIdx? (· == n) = some i := by
    rw [List.findIdx?_eq_some_iff_getElem]
    refine ⟨hi, by simpa [List.getD_eq_getElem?_getD, hi] using h, fun j hj => ?_⟩
    have hj' : j < l.length := by omega
    simpa [List.getD_eq_getElem?_getD, hj'] using hno j hj
  unfold firstAt; rw [this]
theorem firstAt_miss (l : List Int) (n : Int) (hno : ∀ j, j < l.length → l.getD j 0 ≠ n) : firstAt l n = -1 := by
  have : l.findIdx? (· == n) = none := by
    rw [List.findIdx?_eq_none_iff]
    intro x hx
    obtain ⟨j, hj, rfl⟩ := List.getElem_of_mem hx
    simpa [List.getD_eq_getElem?_getD, hj] using hno j hj
  unfold firstAt; rw [this]

end Go.Proofs.YtbeggdahbhfhpaaDoor
