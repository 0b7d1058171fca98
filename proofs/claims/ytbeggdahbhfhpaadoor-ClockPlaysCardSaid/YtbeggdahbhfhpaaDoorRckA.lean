/-
  The document's own rows on nodes and clocks, in the program's words.
-/
import Derived.Test.YtbeggdahbhfhpaaDoorCfgNodes
import Derived.Test.YtbeggdahbhfhpaaDoorTurns
import Derived.Test.YtbeggdahbhfhpaaDoorChkP
import Derived.Deep.RegionHeld
namespace Go.Proofs.YtbeggdahbhfhpaaDoor
open Go.RowKit Go.Deep
set_option linter.unusedVariables false
set_option linter.unusedSimpArgs false

theorem nodup_count : ∀ {l : List Int} {a : Int}, l.Nodup → a ∈ l → l.count a = 1
  | [], a, _, h => by cases h
  | x :: l, a, hd, h => by
    obtain ⟨h1, h2⟩ := List.nodup_cons.1 hd
    by_cases e : x = a
    · subst e
      rw [List.count_cons_self, List.count_eq_zero.2 h1]
    · have hm : a ∈ l := (List.mem_cons.1 h).resolve_left (fun q => e q.symm)
      rw [List.count_cons_of_ne (by simpa using e), nodup_count h2 hm]
theorem nodes_same (c : Conf) : NodesOk c ↔ NodesK c := by
  unfold NodesOk NodesK
  constructor
  · rintro ⟨h1, h2, h3, h4⟩
    exact ⟨h1, h2, h3, fun n hn => List.count_pos_iff.1 (by rw [h4 n hn]; omega)⟩
  · rintro ⟨h1, h2, h3, h4⟩
    obtain ⟨_, h5⟩ := all_once c.owners.length c.owners h4
    have hd := (h5 rfl).1
    exact ⟨h1, h2, h3, fun n hn => nodup_count hd (h4 n hn)⟩
theorem rnodesK (c : Conf) (d : Ad) (w : World) (h : ConfAt w c d) :
    Calls Tryd.prog 103 #[c.val d] w fun e w' => e = .returned (.bool (decide (NodesK c))) ∧ Below w.heap.size w w' := by
  have e : decide (NodesOk c) = decide (NodesK c) := decide_eq_decide.2 (nodes_same c)
  rw [← e]
  exact rnodes_any c d w h

/-- the document's, under bounds -/
theorem rprec (c : Conf) (d : Ad) (w : World) (h1 : 0 ≤ c.drift) (h2 : c.drift ≤ 1048576) (h3 : 0 ≤ c.reading) (h4 : c.reading ≤ 1048576) :
    Calls Tryd.prog 137 #[c.val d] w fun e w' => e = .returned (.int .i64 (precF c)) ∧ Below w.heap.size w w' := by
  have H : Hid (precF c = 2 * (c.drift + c.reading) + 1) := rfl
  unfold Conf.val
  go_enter Tryd.func137, Tryd.ntmps137
  go_wp2
  go_ret
  exact ⟨by rw [H.out]; rfl, (Below.refl _ _).alloc (Nat.le_refl _) _⟩
end Go.Proofs.YtbeggdahbhfhpaaDoor
