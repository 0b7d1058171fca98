/-
  Two boxes side by side, and bytes beside them.
-/
import Derived.Test.YtdimllmbalponaaAlive
import Derived.Test.YtdimllmbalponaaWait
import Derived.Test.YtdimllmbalponaaCutS
import Derived.Deep.Grids
namespace Go.Proofs.Ytdimllmbalponaa
open Go.RowKit Go.Shelf Go.ChangeShapes
set_option linter.unusedVariables false

/-- a box whose own blocks stand -/
theorem BoxW.stands {W W' : World} {base b : Nat} {P : Prm} {h : Value} {ms : List Msg} {lost : Bool} (x : BoxW W base b P h ms lost) (hb : W'.heap[b]? = W.heap[b]?) (hh : ∀ k, h.ownBlock = some k → W'.heap[k]? = W.heap[k]?) (hm : ∀ m ∈ ms, W'.heap[m.blk]? = W.heap[m.blk]?) : BoxW W' base b P h ms lost := by
  refine ⟨x.lo, hb.trans x.row, ⟨x.held.1, ?_⟩, fun m hm' => OwnS.kept (x.each m hm') (hm m hm')⟩
  rcases x.held.2 with h1 | ⟨g, cap, cur, rfl, h2, h3, h4⟩
  · exact .inl h1
  · exact .inr ⟨g, cap, cur, rfl, h2, (hh g rfl).trans h3, h4⟩
theorem BoxW.own_ne {W : World} {base b : Nat} {P : Prm} {h : Value} {ms : List Msg} {lost : Bool} (x : BoxW W base b P h ms lost) {k : Nat} {cs : Array Value} {t : TypeId} (hk : W.heap[k]? = some (.cells cs t (0, 0))) (ht : t ≠ 76) : some k ≠ h.ownBlock := by
  intro hke
  obtain ⟨_, _, cur, hcur⟩ := x.own_lt hke.symm
  rw [hk] at hcur
  injection hcur with hcur
  injection hcur with _ hcur
  exact ht hcur
/-- bytes of the call's own stand beside a box that was written -/
theorem OwnS.beside {W W' : World} {base b : Nat} {P : Prm} {h : Value} {ms : List Msg} {lost : Bool} (x : BoxW W base b P h ms lost) (k : Keep base b h W W') {B g n c : Nat} {l : List Nat} (o : OwnS W B g n c l) : OwnS W' B g n c l := by
  refine o.kept (k.blk g o.blk (bytes_block o x.row (by decide)) ?_)
  obtain ⟨cur, h1, _⟩ := o.row
  exact x.own_ne h1 (by decide)
theorem CutB.beside {W W' : World} {base b : Nat} {P : Prm} {h : Value} {ms : List Msg} {lost : Bool} (x : BoxW W base b P h ms lost) (k : Keep base b h W W') {B : Nat} {v : Value} {l : List Nat} (o : CutB W B v l) : CutB W' B v l := by
  refine o.kept fun g hg => ?_
  obtain ⟨h1, _, cur, h3⟩ := o.blk hg
  refine k.blk g h1 ?_ (x.own_ne h3 (by decide))
  rintro rfl
  rw [x.row] at h3
  injection h3 with h3
  injection h3 with _ h3
  exact absurd h3 (by decide)
theorem BoxW.beside {W W' : World} {base base2 b b2 : Nat} {P P2 : Prm} {h h2 : Value} {ms ms2 : List Msg} {lost lost2 : Bool} (x : BoxW W base b P h ms lost) (k : Keep base b h W W') (y : BoxW W base2 b2 P2 h2 ms2 lost2) (hb : b ≠ b2) (hh : ∀ k, h.ownBlock = some k → h2.ownBlock ≠ some k) : BoxW W' base2 b2 P2 h2 ms2 lost2 := by
  refine y.stands (k.blk b2 y.lt (fun e => hb e.symm) (x.own_ne y.row (by decide))) (fun j hj => k.blk j (y.own_lt hj).1 ?_ ?_) (fun m hm => k.blk _ (OwnS.blk (y.each m hm)) (bytes_block (y.each m hm) x.row (by decide)) ?_)
  · rintro rfl
    exact y.own_ne x.row (by decide) hj.symm
  · exact fun e => hh j e.symm hj
  · obtain ⟨cur, h1, _⟩ := (y.each m hm).row
    exact x.own_ne h1 (by decide)
theorem apart_after {W W' : World} {base base2 b b2 : Nat} {P2 : Prm} {h h' h2 : Value} {ms2 : List Msg} {lost2 : Bool} (k : KeepH base b h h' W W') (y : BoxW W base2 b2 P2 h2 ms2 lost2) (hh : ∀ k, h.ownBlock = some k → h2.ownBlock ≠ some k) : ∀ k, h'.ownBlock = some k → h2.ownBlock ≠ some k := by
  intro j hj e
  rcases k.wh with h1 | h1
  · exact hh j (h1 ▸ hj) e
  · have := h1 j hj; have := (y.own_lt e).1; omega
/-- a box stands where bytes of another block were put -/
theorem BoxW.wrote {W W' : World} {base b : Nat} {P : Prm} {h : Value} {ms : List Msg} {lost : Bool} (x : BoxW W base b P h ms lost) {B : Nat} {v : Value} {l : List Nat} (o : CutB W B v l) (hg : W.grownBy W' v.ownBlock) (hn : ∀ m ∈ ms, v.ownBlock ≠ some m.blk) : BoxW W' base b P h ms lost := by
  have key : ∀ {k : Nat} {cs : Array Value} {t : TypeId}, W.heap[k]? = some (.cells cs t (0, 0)) → t ≠ 5 → some k ≠ v.ownBlock := by
    intro k cs t hk ht e
    obtain ⟨_, _, cur, h3⟩ := o.blk e.symm
    rw [hk] at h3
    injection h3 with h3
    injection h3 with _ h3
    exact ht h3
  refine x.stands (hg.block b x.lt (key x.row (by decide))) (fun k hk => ?_) (fun m hm => hg.block _ (OwnS.blk (x.each m hm)) (fun e => hn m hm e.symm))
  obtain ⟨h1, _, cur, h3⟩ := x.own_lt hk
  exact hg.block k h1 (key h3 (by decide))

def two (c : Nat) : List Nat := [c, 255 - c]
theorem two_lt {c : Nat} (h : c < 256) : ∀ x ∈ two c, x < 256 := by intro x hx; simp [two] at hx; omega
/-- a queuing port that receives -/
def qd (s e : Int) : Prm := ⟨0, 2, 2, s, e, 0, 1, 8, 0, 0, .func (.func 30) #[] #[], .func (.func 31) #[] #[]⟩
theorem new_dest (s e : Int) (w : World) (hs : 1 ≤ s ∧ s ≤ 32) (he : 1 ≤ e ∧ e ≤ 8) : Calls Try.prog 4 #[.agg #[.int .i64 0, .int .i64 2, .int .i64 2, .int .i64 s, .int .i64 e, .int .i64 0]] w fun e' w' => (∃ b, e' = .returned (.tuple #[.pointer (some ⟨b, 0, none⟩), .int .i64 0]) ∧ BoxW w' w.heap.size b (qd s e) (.slice none 0 0) [] false) ∧ Below w.heap.size w w' := by
  refine (new_at 0 2 2 s e 0 1 8 0 0 (.func (.func 30) #[] #[]) (.func (.func 31) #[] #[]) _ true w rfl (by simp [Value.oneCell']) rfl rfl true (by simp [hs, he])).mono ?_
  rintro e' w' ⟨⟨h1, _⟩, h2⟩
  obtain ⟨b, h3, h4, h5⟩ := h1 rfl
  exact ⟨⟨b, h3, BoxW.new h4 h5⟩, h2⟩
theorem BoxW.from {W : World} {base base' b : Nat} {P : Prm} {h : Value} {ms : List Msg} {lost : Bool} (x : BoxW W base b P h ms lost) (hb : base' ≤ base) : BoxW W base' b P h ms lost := by
  refine ⟨Nat.le_trans hb x.lo, x.row, ⟨x.held.1, ?_⟩, fun m hm => OwnS.from (x.each m hm) (Nat.le_trans hb (OwnS.base (x.each m hm)))⟩
  rcases x.held.2 with h1 | ⟨g, cap, cur, h1, h2, h3⟩
  · exact .inl h1
  · exact .inr ⟨g, cap, cur, h1, Nat.le_trans hb h2, h3⟩

/-- both boxes, and what is wanted of them -/
structure Two (w0 : World) (base bs bd : Nat) (n : Int) (W : World) (v : Value) (lost : Bool) (l : List Nat) (hs hd : Value) (ms md : List Msg) : Prop where
  xs : BoxW W base bs (qs 2 n) hs ms false
  xd : BoxW W base bd (qd 2 n) hd md lost
  ts : ms.map Msg.txt = l.map two
  td : md.map Msg.txt = l.map two
  nb : bs ≠ bd
  nh : ∀ k, hs.ownBlock = some k → hd.ownBlock ≠ some k
  cut : CutB W base v l
  ns : ∀ m ∈ ms, v.ownBlock ≠ some m.blk
  nd : ∀ m ∈ md, v.ownBlock ≠ some m.blk
  bel : Below w0.heap.size w0 W
  hw : w0.heap.size ≤ base
section
variable {w0 : World} {base bs bd : Nat} {n : Int} {W W' : World} {v : Value} {lost : Bool} {l : List Nat} {hs hd : Value} {ms md : List Msg}
theorem Two.lens (t : Two w0 base bs bd n W v lost l hs hd ms md) : ms.length = l.length ∧ md.length = l.length := by
  have h1 := congrArg List.length t.ts; have h2 := congrArg List.length t.td
  simpa using And.intro h1 h2
theorem Two.later (t : Two w0 base bs bd n W v lost l hs hd ms md) (hb : Below W.heap.size W W') (hB : base ≤ W.heap.size) : Two w0 base bs bd n W' v lost l hs hd ms md :=
  { t with xs := t.xs.later hb, xd := t.xd.later hb, cut := t.cut.later hb, bel := t.bel.trans (hb.mono (by have := t.hw; omega)) }
/-- another box that sends -/
theorem Two.src {hs' : Value} {ms' : List Msg} (t : Two w0 base bs bd n W v lost l hs hd ms md) (k : KeepH base bs hs hs' W W') (x : BoxW W' base bs (qs 2 n) hs' ms' false) (hn : ∀ m ∈ ms', v.ownBlock ≠ some m.blk) :
    BoxW W' base bd (qd 2 n) hd md lost ∧ CutB W' base v l ∧ (∀ k, hs'.ownBlock = some k → hd.ownBlock ≠ some k) ∧ Below w0.heap.size w0 W' :=
  ⟨t.xs.beside k.toKeep t.xd t.nb t.nh, t.cut.beside t.xs k.toKeep, apart_after k t.xd t.nh, t.bel.trans (k.bel.mono t.hw)⟩
/-- another box that receives -/
theorem dst_beside {hd' : Value} (xs : BoxW W base bs (qs 2 n) hs ms false) (xd : BoxW W base bd (qd 2 n) hd md lost) (nb : bs ≠ bd) (nh : ∀ k, hs.ownBlock = some k → hd.ownBlock ≠ some k) (c : CutB W base v l) (hbe : Below w0.heap.size w0 W) (hw : w0.heap.size ≤ base) (k : KeepH base bd hd hd' W W') :
    BoxW W' base bs (qs 2 n) hs ms false ∧ CutB W' base v l ∧ (∀ k, hs.ownBlock = some k → hd'.ownBlock ≠ some k) ∧ Below w0.heap.size w0 W' := by
  refine ⟨xd.beside k.toKeep xs (fun e => nb e.symm) (fun j hj e => nh j e hj), c.beside xd k.toKeep, fun j hj e => ?_, hbe.trans (k.bel.mono hw)⟩
  exact apart_after k xs (fun j hj e => nh j e hj) j e hj
end

/-- a slice of Booleans that can be read -/
def Bools (w : World) (A : Option Addr) (l : List Bool) : Prop :=
  l = [] ∨ ∃ b off, A = some ⟨b, off, none⟩ ∧ b < w.heap.size ∧ ∀ i, i < l.length → w.cell? ⟨b, off + i, none⟩ = some (.bool (l.getD i false))
theorem Bools.at {w : World} {A : Option Addr} {l : List Bool} (h : Bools w A l) {k : Nat} (hk : k < l.length) :
    ∃ b off, A = some ⟨b, off, none⟩ ∧ b < w.heap.size ∧ w.cell? ⟨b, off + k, none⟩ = some (.bool (l.getD k false)) := by
  rcases h with rfl | ⟨b, off, h1, h2, h3⟩
  · simp at hk
  · exact ⟨b, off, h1, h2, h3 k hk⟩
theorem Bools.of_below {w w' : World} {A : Option Addr} {l : List Bool} {B : Nat} (h : Bools w A l) (hb : Below B w w') (hB : w.heap.size ≤ B) : Bools w' A l := by
  rcases h with rfl | ⟨b, off, rfl, hlt, hc⟩
  · exact .inl rfl
  · refine .inr ⟨b, off, rfl, ?_, fun i hi => ?_⟩
    · have := hb.size; omega
    · rw [hb.cell (p := ⟨b, off + i, none⟩) (by show b < B; omega)]; exact hc i hi
section
variable {H : Type} {enc : TypeId × Value → H} {w : World} {base : Nat} {spare : Nat → Bool} {held : Bool}
end
end Go.Proofs.Ytdimllmbalponaa
