/-
  What a call may have written; bytes that were handed back, written over, and put to what is kept.
-/
import Derived.Test.YtdimllmbalponaaKeep
import Derived.Test.YtdimllmbalponaaGenB
namespace Go.Proofs.Ytdimllmbalponaa
open Go.RowKit Go.Shelf
set_option linter.unusedVariables false

/-- all blocks but these are as they were -/
structure Ch (B : Nat) (K : Nat → Prop) (w w' : World) : Prop where
  bel : Below B w w'
  blk : ∀ k, k < w.heap.size → ¬ K k → w'.heap[k]? = w.heap[k]?
  siz : w.heap.size ≤ w'.heap.size
section
variable {B : Nat} {K K' : Nat → Prop} {w w' w2 : World}
theorem Ch.refl (B : Nat) (K : Nat → Prop) (w : World) : Ch B K w w := ⟨Below.refl _ _, fun _ _ _ => rfl, Nat.le_refl _⟩
theorem Ch.of (hb : Below w.heap.size w w') (hB : B ≤ w.heap.size) : Ch B K w w' := ⟨hb.mono hB, fun k hk _ => hb.block k hk, hb.size⟩
theorem Ch.trans (h : Ch B K w w') (h2 : Ch B K w' w2) : Ch B K w w2 :=
  ⟨h.bel.trans h2.bel, fun k hk hn => (h2.blk k (by have := h.siz; omega) hn).trans (h.blk k hk hn), Nat.le_trans h.siz h2.siz⟩
/-- what is new may be written -/
theorem Ch.then (h : Ch B K w w') (h2 : Ch B K' w' w2) (hK : ∀ k, k < w.heap.size → K' k → K k) : Ch B K w w2 :=
  ⟨h.bel.trans h2.bel, fun k hk hn => (h2.blk k (by have := h.siz; omega) (fun e => hn (hK k hk e))).trans (h.blk k hk hn), Nat.le_trans h.siz h2.siz⟩
theorem Ch.wide (h : Ch B K w w') (hK : ∀ k, k < w.heap.size → K k → K' k) : Ch B K' w w' := ⟨h.bel, fun k hk hn => h.blk k hk (fun e => hn (hK k hk e)), h.siz⟩
theorem Ch.mono (h : Ch B K w w') {B' : Nat} (hB : B' ≤ B) : Ch B' K w w' := ⟨h.bel.mono hB, h.blk, h.siz⟩
theorem Ch.grown {row : Option Nat} (hg : w.grownBy w' row) (hB : B ≤ w.heap.size) (hr : ∀ k, row = some k → B ≤ k) (hK : ∀ k, row = some k → K k) : Ch B K w w' :=
  ⟨(Below.refl _ _).grown hg hB hr, fun k hk hn => hg.block k hk (fun e => hn (hK k e.symm)), hg.size⟩
theorem Ch.set {b j : Nat} {v : Value} (hB : B ≤ b) (hK : K b) : Ch B K w (w.setCell ⟨b, j, none⟩ v) :=
  ⟨(Below.refl _ _).setCell (p := ⟨b, j, none⟩) hB _, fun k _ hn => heap_setCell_other _ _ _ _ (fun e => hn (e ▸ hK)), by show _ ≤ (w.heap.modify _ _).size; rw [Array.size_modify]; exact Nat.le_refl _⟩
end
/-- bytes of the call's own: none, or in a block from zm on -/
def GotB (W : World) (zm : Nat) (v : Value) (l : List Nat) : Prop := (v = .slice none 0 0 ∧ l = []) ∨ ∃ g c, v = .slice (some ⟨g, 0, none⟩) l.length c ∧ OwnS W zm g l.length c l
theorem GotB.kept {W W' : World} {zm : Nat} {v : Value} {l : List Nat} (h : GotB W zm v l) (hb : ∀ g, v.ownBlock = some g → W'.heap[g]? = W.heap[g]?) : GotB W' zm v l := by
  rcases h with h | ⟨g, c, rfl, h⟩
  · exact .inl h
  · exact .inr ⟨g, c, rfl, h.kept (hb g rfl)⟩
theorem GotB.blk {W : World} {zm : Nat} {v : Value} {l : List Nat} (h : GotB W zm v l) {g : Nat} (hg : v.ownBlock = some g) : g < W.heap.size ∧ zm ≤ g ∧ ∃ cur, W.heap[g]? = some (.cells cur 5 (0, 0)) := by
  rcases h with ⟨rfl, _⟩ | ⟨g', c, rfl, h⟩
  · cases hg
  · simp [Value.ownBlock] at hg
    subst hg
    obtain ⟨cur, h1, _⟩ := h.row
    exact ⟨h.blk, h.base, cur, h1⟩
theorem GotB.later {W W' : World} {zm : Nat} {v : Value} {l : List Nat} (h : GotB W zm v l) (hb : Below W.heap.size W W') : GotB W' zm v l := h.kept fun g hg => hb.block g (h.blk hg).1
theorem GotB.len {W : World} {zm : Nat} {v : Value} {l : List Nat} (h : GotB W zm v l) : ∃ A c, v = .slice A l.length c := by
  rcases h with ⟨rfl, rfl⟩ | ⟨g, c, rfl, _⟩
  · exact ⟨_, _, rfl⟩
  · exact ⟨_, _, rfl⟩
theorem GotB.has {W : World} {zm : Nat} {A : Option Addr} {n c : Nat} {l : List Nat} (h : GotB W zm (.slice A n c) l) (h0 : 0 < l.length) : ∃ g, A = some ⟨g, 0, none⟩ ∧ n = l.length ∧ OwnS W zm g l.length c l := by
  rcases h with ⟨_, rfl⟩ | ⟨g, c', h1, h⟩
  · simp at h0
  · simp only [Value.slice.injEq] at h1
    obtain ⟨rfl, rfl, rfl⟩ := h1
    exact ⟨g, rfl, rfl, h⟩
theorem GotB.str {W : World} {zm : Nat} {v : Value} {l : List Nat} (g : GotB W zm v l) (n : Nat) : (convert 37 9 v).run Try.prog (W.drewN n) = .ok (.string (str l)) (W.drewN n) := by
  rcases g with ⟨rfl, rfl⟩ | ⟨g, c, rfl, h⟩
  · exact str_of (W.drewN n) none 0 0 [] (Bytes.empty _ _) rfl
  · exact str_of (W.drewN n) (some ⟨g, 0, none⟩) l.length c l h.bytes rfl
/-- one byte put behind such bytes -/
theorem wpList_got_append {ops : Array Oper} {rest : List Oper} {o : Oper} {a : Act} {w : World} {Q : Exit → Act → World → Prop} (hgd : o.guard = none) (s x : Operand)
    (ho : o.op = .call { callee := .builtin .append, args := #[s, x], argTypes := #[37, 37] })
    (zm : Nat) (v : Value) (l : List Nat) (hs : a.eval s = v) (hown : GotB w zm v l) (q c u : Nat) (hx : a.eval x = .slice (some ⟨q, 0, none⟩) 1 c) (hu : u < 256) (hqs : q < w.heap.size) (hq : w.cell? ⟨q, 0, none⟩ = some (.int .u8 (u : Int))) (hn : l.length ≤ 1000) (hz : zm ≤ w.heap.size)
    (h : ∀ r : Rw, ∀ w', r.txt = l ++ [u] → r.at w' zm → w.grownBy w' v.ownBlock → wpList Try.prog ops Q rest (a.put o.dst r.cell) w') : wpList Try.prog ops Q (o :: rest) a w := by
  have hB : Bytes w (some ⟨q, 0, none⟩) [u] := ⟨by simp [hu], .inr ⟨q, 0, rfl, hqs, fun j hj => by
    obtain rfl : j = 0 := by simpa using hj
    simpa using hq⟩⟩
  rcases hown with ⟨rfl, rfl⟩ | ⟨g, cp, rfl, hown⟩
  · refine wpList_nil_append hgd s x ho hs (some ⟨q, 0, none⟩) 1 c [u] hx rfl hB (by omega) ?_
    intro v' w' gg hb _
    obtain ⟨r, rfl, h1, h2⟩ := gg.own (by simp)
    exact h r w' (by simpa using h1) (OwnS.from h2 (by have := OwnS.base h2; omega)) ⟨hb.os, hb.tape, hb.output, hb.size, fun k hk _ => hb.block k hk⟩
  · refine wpList_ontoS hgd s x ho zm g l.length cp l hs hown (some ⟨q, 0, none⟩) 1 c [u] hx rfl hB (by omega) hz ?_
    intro g' c' w' h1 h2
    have h3 := h ⟨g', c', l ++ [u]⟩ w' rfl (by unfold Rw.at; simpa using h1) h2
    simpa [Rw.cell] using h3

section
variable {W W' : World} {base kb : Nat} {hT hW : Value} {tT tW : List Rw}
theorem kept_ne {cs : Array Value} {t t' : TypeId} {b k : Nat} {cs' : Array Value} {fr fr' : Nat × Nat} (h : W.heap[k]? = some (.cells cs t fr)) (h' : W.heap[b]? = some (.cells cs' t' fr')) (ht : t ≠ t') : k ≠ b := by
  rintro rfl
  rw [h] at h'
  injection h' with h'
  injection h' with _ h'
  exact ht h'
/-- rows stand where a block of another kind was written -/
theorem Rws.set {h : Value} {rs : List Rw} {b j : Nat} {cs : Array Value} {t : TypeId} {fr : Nat × Nat} (x : Rws W base h rs) (hrow : W.heap[b]? = some (.cells cs t fr)) (h1 : t ≠ 37) (h2 : t ≠ 5) (v : Value) : Rws (W.setCell ⟨b, j, none⟩ v) base h rs := by
  refine x.stands (fun k hk => heap_setCell_other _ _ _ _ ?_) (fun r hr => heap_setCell_other _ _ _ _ ?_)
  · obtain ⟨_, _, cur, hc⟩ := x.blk hk
    exact kept_ne hc hrow (Ne.symm h1)
  · obtain ⟨cur, hc, _⟩ := OwnS.row (x.each r hr)
    exact kept_ne hc hrow (Ne.symm h2)
theorem Rws.ch {B : Nat} {K : Nat → Prop} {h : Value} {rs : List Rw} (x : Rws W base h rs) (c : Ch B K W W') (hh : ∀ k, h.ownBlock = some k → ¬ K k) (hr : ∀ r ∈ rs, ¬ K r.blk) : Rws W' base h rs :=
  x.stands (fun k hk => c.blk k (x.blk hk).1 (hh k hk)) (fun r hr' => c.blk _ (OwnS.blk (x.each r hr')) (hr r hr'))
theorem KeptW.ch {B : Nat} {K : Nat → Prop} (x : KeptW W base kb hT hW tT tW) (c : Ch B K W W') (hk : ¬ K kb) (h1 : ∀ k, hT.ownBlock = some k → ¬ K k) (h2 : ∀ k, hW.ownBlock = some k → ¬ K k) (h3 : ∀ r ∈ tT, ¬ K r.blk) (h4 : ∀ r ∈ tW, ¬ K r.blk) : KeptW W' base kb hT hW tT tW :=
  { x with row := (c.blk kb (Array.getElem?_eq_some_iff.1 x.row).1 hk).trans x.row, told := x.told.ch c h1 h3, was := x.was.ch c h2 h4 }
end
end Go.Proofs.Ytdimllmbalponaa
