/-
  The walk of PortCopies.
-/
import Derived.Test.YtdimllmbalponaaRefuses
namespace Go.Proofs.Ytdimllmbalponaa
open Go.RowKit Go.Shelf Go.ChangeShapes
set_option linter.unusedVariables false

section
variable {W W' : World} {base b1 b2 b3 : Nat} {P : Prm} {h1 h2 h3 h' : Value} {ms1 ms2 ms3 ms' : List Msg} {S1 S2 S3 S : St}
theorem Pair.with (t : Pair W base b1 b2 P h1 h2 ms1 ms2 S1 S2) (y : BoxS W' base b1 P h' ms' S) (k : KeepH base b1 h1 h' W W') : Pair W' base b1 b2 P h' h2 ms' ms2 S S2 :=
  ⟨y, { t.x2 with box := t.x1.box.beside k.toKeep t.x2.box t.nb t.nh }, t.nb, apart_after k t.x2.box t.nh⟩
/-- three boxes side by side -/
structure Trio (W : World) (base b1 b2 b3 : Nat) (P : Prm) (h1 h2 h3 : Value) (ms1 ms2 ms3 : List Msg) (S1 S2 S3 : St) : Prop where
  ab : Pair W base b1 b2 P h1 h2 ms1 ms2 S1 S2
  ac : Pair W base b1 b3 P h1 h3 ms1 ms3 S1 S3
  bc : Pair W base b2 b3 P h2 h3 ms2 ms3 S2 S3
theorem Trio.first (t : Trio W base b1 b2 b3 P h1 h2 h3 ms1 ms2 ms3 S1 S2 S3) (g : Went W W' base b1 P h1 ms1 S) : ∃ h1' ms1', Trio W' base b1 b2 b3 P h1' h2 h3 ms1' ms2 ms3 S S2 S3 := by
  obtain ⟨h', ms', y, k, _⟩ := g.is
  have u := t.ab.with y k; have v := t.ac.with y k
  exact ⟨h', ms', u, v, u.x2, v.x2, t.bc.nb, t.bc.nh⟩
theorem Trio.second (t : Trio W base b1 b2 b3 P h1 h2 h3 ms1 ms2 ms3 S1 S2 S3) (g : Went W W' base b2 P h2 ms2 S) : ∃ h2' ms2', Trio W' base b1 b2 b3 P h1 h2' h3 ms1 ms2' ms3 S1 S S3 := by
  obtain ⟨h', ms', y, k, _⟩ := g.is
  have u := t.ab.swap.with y k; have v := t.bc.with y k
  exact ⟨h', ms', u.swap, ⟨u.x2, v.x2, t.ac.nb, t.ac.nh⟩, v⟩
/-- a copy: as much as is known of it -/
theorem BoxS.copied (x : BoxS W base b1 P h1 ms1 S) (ok : Okay P) :
    Calls Try.prog 23 #[.pointer (some ⟨b1, 0, none⟩)] W fun e W' => (∃ (b2 : Nat) (h2 : Value) (ms2 : List Msg), e = .returned (.pointer (some ⟨b2, 0, none⟩)) ∧ BoxS W' base b2 P h2 ms2 S ∧ W.heap.size ≤ b2 ∧ ∀ k, h2.ownBlock = some k → W.heap.size ≤ k) ∧ Below W.heap.size W W' := by
  have g1 : P.p.oneCell' = true ∧ P.g.oneCell' = true := by
    rcases ok.is with ⟨_, _, hp, hg⟩ | ⟨_, _, hp, hg, _⟩ | ⟨_, _, hp, hg, _⟩ | ⟨_, _, hp, hg, _⟩ <;> rw [hp, hg] <;> exact ⟨rfl, rfl⟩
  have g2 := ok.s2
  refine (copy_at x.box g1.1 g1.2 (fun m hm => by have := x.size m hm; omega) (by have := x.few; omega)).mono ?_
  rintro e W' ⟨⟨b2, h', ms', rfl, y, ht⟩, hb⟩
  have t := pair_of x hb y ht
  exact ⟨⟨b2, h', ms', rfl, t.x2, y.lo, fun k hk => (y.own_lt hk).2.1⟩, hb⟩
theorem pair_new (x : BoxS W base b1 P h1 ms1 S1) (hb : Below W.heap.size W W') (y : BoxS W' base b2 P h2 ms2 S2) (hl : W.heap.size ≤ b2) (ho : ∀ k, h2.ownBlock = some k → W.heap.size ≤ k) : Pair W' base b1 b2 P h1 h2 ms1 ms2 S1 S2 := by
  have hbl := x.box.lt
  refine ⟨x.later hb, y, by omega, fun k hk e => ?_⟩
  have := (x.box.own_lt hk).1; have := ho k e; omega
end
/-- what calls make of what a box holds -/
def runF (P : Prm) (L : List OpD) (S : St) : Nat → St
  | 0 => S
  | j + 1 => (askF P (runF P L S j) (L.getD j default).k (L.getD j default).l (L.getD j default).z).2

end Go.Proofs.Ytdimllmbalponaa
