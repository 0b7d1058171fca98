/-
  ask: a call on any box, by its kind; two boxes that hold the same give out the same.
-/
import Derived.Test.YtdimllmbalponaaGen
import Derived.Deep.LoopGhost
import Derived.Deep.DeepCutAuto
namespace Go.Proofs.Ytdimllmbalponaa
open Go.RowKit Go.Shelf
set_option linter.unusedVariables false

section
variable {base b : Nat} {P : Prm} {h : Value} {ms : List Msg} {S S' : St} {w w1 w' : World}
theorem Went.pre (hb : Below w.heap.size w w1) (x : BoxS w base b P h ms S) (g : Went w1 w' base b P h ms S') : Went w w' base b P h ms S' := by
  obtain ⟨h', ms', y, k, hm⟩ := g.is
  have hz := hb.size
  refine ⟨h', ms', y, ⟨⟨(hb.mono (by have := x.box.lt; have := x.box.lo; omega)).trans k.bel, fun j hj h1 h2 => (k.blk j (by omega) h1 h2).trans (hb.block j hj), Nat.le_trans hz k.siz⟩, k.wh.imp id fun h j hj => Nat.le_trans hz (h j hj)⟩, fun m hm' => (hm m hm').imp id fun h => Nat.le_trans hz h⟩
theorem Went.post (g : Went w w1 base b P h ms S') (hb : Below w1.heap.size w1 w') : Went w w' base b P h ms S' := by
  obtain ⟨h', ms', y, k, hm⟩ := g.is
  exact ⟨h', ms', y.later hb, ⟨⟨k.bel.trans (hb.mono (by have := y.box.lt; have := y.box.lo; omega)), fun j hj h1 h2 => (hb.block j (by have := k.siz; omega)).trans (k.blk j hj h1 h2), Nat.le_trans k.siz hb.size⟩, k.wh⟩, hm⟩
theorem Went.siz (g : Went w w1 base b P h ms S') : w.heap.size ≤ w1.heap.size := by
  obtain ⟨h', ms', y, k, hm⟩ := g.is
  exact k.siz
theorem Went.bel (g : Went w w1 base b P h ms S') : Below base w w1 := by
  obtain ⟨h', ms', y, k, hm⟩ := g.is
  exact k.bel
theorem Got.str {W W' : World} {v : Value} {l : List Nat} (g : Got W W' v l) : (convert 37 9 v).run Try.prog W' = .ok (.string (str l)) W' := by
  rcases g with ⟨rfl, rfl⟩ | ⟨g, c, rfl, h⟩
  · exact str_of W' none 0 0 [] (Bytes.empty W' _) rfl
  · exact str_of W' _ _ c l h.bytes rfl
end

def askF (P : Prm) (S : St) (k : Int) (l : List Nat) (z : Int) : (List Nat × Int) × St :=
  if k = 0 then (([], (sendF P S l).1), (sendF P S l).2)
  else if k = 1 then (if (takeF P S).1.2 then (((takeF P S).1.1, 1), (takeF P S).2) else (([], ((takeF P S).2.1.length : Int)), (takeF P S).2))
  else if k = 2 then (([], (arriveF P S l z).1), (arriveF P S l z).2)
  else if k = 3 then recvF P S z
  else (([], (S.1.length : Int)), S)

end Go.Proofs.Ytdimllmbalponaa
