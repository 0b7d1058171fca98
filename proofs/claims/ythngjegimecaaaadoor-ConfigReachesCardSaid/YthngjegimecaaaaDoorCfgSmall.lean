/-
  The document's small helpers: how often a number is among some, whether two spans meet, whether a port may be, whose a port is.
-/
import Derived.Test.YthngjegimecaaaaDoorCfgRef
namespace Go.Proofs.YthngjegimecaaaaDoor
open Go.RowKit Go.Deep
set_option linter.unusedVariables false

/-- do two spans meet? -/
def meetB (a b c d : Int) : Bool := decide (max a c < min b d)

theorem count_snoc (l : List Int) (n : Int) (k : Nat) (h : k < l.length) : (l.take (k + 1)).count n = (l.take k).count n + if l.getD k 0 = n then 1 else 0 := by
  rw [List.take_succ_eq_append_getElem h, List.count_append, List.count_singleton, List.getD_eq_getElem?_getD, List.getElem?_eq_getElem h]
  by_cases he : l[k] = n
  · rw [if_pos (by simpa using he), if_pos (by simpa using he)]
  · rw [if_neg (by simpa using he), if_neg (by simpa using he)]

/-- is a number a port's? -/
def isB (c : Conf) (n : Int) : Bool := decide (0 ≤ n ∧ n < c.ports.length)

set_option maxHeartbeats 400000 in
theorem ris_any (c : Conf) (d : Ad) (n : Int) (w : World) (h : ConfAt w c d) :
    Calls Tryd.prog 15 #[c.val d, .int .i64 n] w fun e w' => e = .returned (.bool (isB c n)) ∧ Below w.heap.size w w' := by
  unfold Conf.val
  by_cases h1 : 0 ≤ n
  · have H : Hid (isB c n = decide (n < c.ports.length)) := by show _ = _; unfold isB; simp [h1]
    clear h
    go_enter Tryd.func15, Tryd.ntmps15
    go_wp2
    go_ret
    exact ⟨by rw [H.out]; rfl, (Below.refl _ _).alloc (Nat.le_refl _) _⟩
  · have H : Hid (isB c n = false) := by show _ = _; unfold isB; simp; omega
    clear h
    go_enter Tryd.func15, Tryd.ntmps15
    go_wp2
    go_ret
    exact ⟨by rw [H.out]; rfl, (Below.refl _ _).alloc (Nat.le_refl _) _⟩

def Po.val (p : Po) : Value := .agg #[.int .i64 p.part, .int .i64 p.kind, .int .i64 p.dir, .int .i64 p.size, .int .i64 p.depth, .int .i64 p.fresh]
/-- may a port be, but for its partition? -/
def Alone (p : Po) : Prop := 1 ≤ p.kind ∧ p.kind ≤ 2 ∧ 1 ≤ p.dir ∧ p.dir ≤ 2 ∧ 1 ≤ p.size ∧ p.size ≤ 32 ∧
  ((p.kind = 2 ∧ 1 ≤ p.depth ∧ p.depth ≤ 8 ∧ p.fresh = 0) ∨ (p.kind ≠ 2 ∧ p.dir = 2 ∧ p.depth = 0 ∧ 1 ≤ p.fresh ∧ p.fresh ≤ 65535) ∨ (p.kind ≠ 2 ∧ p.dir ≠ 2 ∧ p.depth = 0 ∧ p.fresh = 0))
instance (p : Po) : Decidable (Alone p) := by unfold Alone; infer_instance

end Go.Proofs.YthngjegimecaaaaDoor
