/-
  Two boxes that hold the same give out the same.
-/
import Derived.Test.YtdimllmbalponaaAsk
namespace Go.Proofs.Ytdimllmbalponaa
open Go.RowKit Go.Shelf
set_option linter.unusedVariables false

/-- two boxes side by side -/
structure Pair (W : World) (base b1 b2 : Nat) (P : Prm) (h1 h2 : Value) (ms1 ms2 : List Msg) (S1 S2 : St) : Prop where
  x1 : BoxS W base b1 P h1 ms1 S1
  x2 : BoxS W base b2 P h2 ms2 S2
  nb : b1 ≠ b2
  nh : ∀ k, h1.ownBlock = some k → h2.ownBlock ≠ some k
section
variable {W W' : World} {base b1 b2 : Nat} {P : Prm} {h1 h2 : Value} {ms1 ms2 : List Msg} {S1 S2 S : St}
theorem Pair.swap (t : Pair W base b1 b2 P h1 h2 ms1 ms2 S1 S2) : Pair W base b2 b1 P h2 h1 ms2 ms1 S2 S1 := ⟨t.x2, t.x1, fun e => t.nb e.symm, fun k h e => t.nh k e h⟩
theorem Pair.first (t : Pair W base b1 b2 P h1 h2 ms1 ms2 S1 S2) (g : Went W W' base b1 P h1 ms1 S) : ∃ h1' ms1', Pair W' base b1 b2 P h1' h2 ms1' ms2 S S2 := by
  obtain ⟨h', ms', y, k, hm⟩ := g.is
  exact ⟨h', ms', y, { t.x2 with box := t.x1.box.beside k.toKeep t.x2.box t.nb t.nh }, t.nb, apart_after k t.x2.box t.nh⟩
theorem Pair.second (t : Pair W base b1 b2 P h1 h2 ms1 ms2 S1 S2) (g : Went W W' base b2 P h2 ms2 S) : ∃ h2' ms2', Pair W' base b1 b2 P h1 h2' ms1 ms2' S1 S := by
  obtain ⟨h', ms', t'⟩ := t.swap.first g
  exact ⟨h', ms', t'.swap⟩
theorem Pair.later (t : Pair W base b1 b2 P h1 h2 ms1 ms2 S1 S2) (hb : Below W.heap.size W W') : Pair W' base b1 b2 P h1 h2 ms1 ms2 S1 S2 := ⟨t.x1.later hb, t.x2.later hb, t.nb, t.nh⟩
end

end Go.Proofs.Ytdimllmbalponaa
