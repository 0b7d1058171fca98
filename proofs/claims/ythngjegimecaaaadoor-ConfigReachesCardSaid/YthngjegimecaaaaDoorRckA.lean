/-
  The document's own rows on nodes and clocks, in the program's words.
-/
import Derived.Test.YthngjegimecaaaaDoorCfgNodes
import Derived.Test.YthngjegimecaaaaDoorTurns
import Derived.Test.YthngjegimecaaaaDoorChkP
import Derived.Deep.RegionHeld
namespace Go.Proofs.YthngjegimecaaaaDoor
open Go.RowKit Go.Deep
set_option linter.unusedVariables false
set_option linter.unusedSimpArgs false

theorem nodup_count : ∀ {l : List Int} {a : Int}, l.Nodup → a ∈ l → l.count a = 1
  | [], a, _, h => by cases h
  | x :: l, a, hd, h => by
    obtain ⟨h1, h2⟩ := List.nodup_cons.1 hd
    by_cases e : x = a
    · subst e
      rw [List.count_cons_self, List.count_eq_zero.2 h1]
    · have hm : a ∈ l := (List.mem_cons.1 h).resolve_left (fun q => e q.symm)
      rw [List.count_cons_of_ne (by simpa using e), nodup_count h2 hm]
theorem nodes_same (c : Conf) : NodesOk c ↔ NodesK c := by
  unfold NodesOk NodesK
  constructor
  · rintro ⟨h1, h2, h3, h4⟩
    exact ⟨h1, h2, h3, fun n hn => List.count_pos_iff.1 (by rw [h4 n hn]; omega)⟩
  · rintro ⟨h1, h2, h3, h4⟩
    obtain ⟨_, h5⟩ := all_once c.owners.length c.owners h4
    have hd := (h5 rfl).1
    exact ⟨h1, h2, h3, fun n hn => nodup_count hd (h4 n hn)⟩
end Go.Proofs.YthngjegimecaaaaDoor
