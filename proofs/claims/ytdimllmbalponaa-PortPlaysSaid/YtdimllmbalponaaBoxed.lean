/-
  A box's state; what replaces its message.
-/
import Derived.Test.YtdimllmbalponaaFirst
namespace Go.Proofs.Ytdimllmbalponaa
open Go.RowKit Go.Shelf
set_option linter.unusedVariables false

/-- a port, and what is done by it -/
structure Prm where
  pt : Int
  k : Int
  d : Int
  s : Int
  e : Int
  f : Int
  dl : Int
  dm : Int
  fl : Int
  fm : Int
  p : Value
  g : Value
def pcs (b : Nat) (P : Prm) (h : Value) (lost : Bool) : Array Value := bcs b P.pt P.k P.d P.s P.e P.f P.dl P.dm P.fl P.fm P.p P.g h lost
/-- a message that is held: its block and room, its bytes, its slot -/
structure Msg where
  blk : Nat
  cap : Nat
  txt : List Nat
  slot : Int
def Msg.cells (m : Msg) : List Value := [.slice (some ⟨m.blk, 0, none⟩) m.txt.length m.cap, .int .i64 m.slot]
def Msg.at (W : World) (base : Nat) (m : Msg) : Prop := OwnS W base m.blk m.txt.length m.cap m.txt
structure BoxW (W : World) (base b : Nat) (P : Prm) (h : Value) (ms : List Msg) (lost : Bool) : Prop where
  lo : base ≤ b
  row : W.heap[b]? = some (.cells (pcs b P h lost) 60 (0, 0))
  held : W.ownsRow base 76 2 h ms.length (ms.flatMap Msg.cells)
  each : ∀ m ∈ ms, m.at W base
/-- all blocks but the box's and its messages' are as they were -/
structure Keep (base b : Nat) (h : Value) (w w' : World) : Prop where
  bel : Below base w w'
  blk : ∀ k, k < w.heap.size → k ≠ b → some k ≠ h.ownBlock → w'.heap[k]? = w.heap[k]?
  siz : w.heap.size ≤ w'.heap.size
/-- .. and where the messages lie now: where they did, or in a new block -/
structure KeepH (base b : Nat) (h h' : Value) (w w' : World) : Prop extends Keep base b h w w' where
  wh : h'.ownBlock = h.ownBlock ∨ ∀ k, h'.ownBlock = some k → w.heap.size ≤ k
theorem Keep.same {base b : Nat} {h : Value} {w w' : World} (k : Keep base b h w w') : KeepH base b h h w w' := ⟨k, .inl rfl⟩
theorem BoxW.lt {W : World} {base b : Nat} {P : Prm} {h : Value} {ms : List Msg} {lost : Bool} (x : BoxW W base b P h ms lost) : b < W.heap.size := (Array.getElem?_eq_some_iff.1 x.row).1
theorem BoxW.own_lt {W : World} {base b : Nat} {P : Prm} {h : Value} {ms : List Msg} {lost : Bool} (x : BoxW W base b P h ms lost) {k : Nat} (hk : h.ownBlock = some k) : k < W.heap.size ∧ base ≤ k ∧ ∃ cur, W.heap[k]? = some (.cells cur 76 (0, 0)) := by
  rcases x.held.2 with ⟨rfl, _⟩ | ⟨g, cap, cur, rfl, hg, hh, _⟩
  · cases hk
  · simp [Value.ownBlock] at hk
    subst hk
    exact ⟨(Array.getElem?_eq_some_iff.1 hh).1, hg, cur, hh⟩
/-- a world whose blocks of W all stand -/
theorem BoxW.kept {W W' : World} {base b : Nat} {P : Prm} {h : Value} {ms : List Msg} {lost : Bool} (x : BoxW W base b P h ms lost) (hb : ∀ k, k < W.heap.size → W'.heap[k]? = W.heap[k]?) : BoxW W' base b P h ms lost := by
  refine ⟨x.lo, (hb b x.lt).trans x.row, ⟨x.held.1, ?_⟩, fun m hm => OwnS.kept (x.each m hm) (hb _ (OwnS.blk (x.each m hm)))⟩
  rcases x.held.2 with h1 | ⟨g, cap, cur, h1, h2, h3, h4⟩
  · exact .inl h1
  · exact .inr ⟨g, cap, cur, h1, h2, (hb g (Array.getElem?_eq_some_iff.1 h3).1).trans h3, h4⟩
theorem BoxW.later {W W' : World} {base b : Nat} {P : Prm} {h : Value} {ms : List Msg} {lost : Bool} (x : BoxW W base b P h ms lost) (hb : Below W.heap.size W W') : BoxW W' base b P h ms lost := x.kept fun k hk => hb.block k hk
theorem BoxW.cell {W : World} {base b : Nat} {P : Prm} {h : Value} {ms : List Msg} {lost : Bool} (x : BoxW W base b P h ms lost) (j : Nat) (v : Value) (hv : (pcs b P h lost)[j]? = some v) : W.cell? ⟨b, j, none⟩ = some v := by
  rw [cell_of_row _ _ _ _ _ _ x.row]; exact hv
theorem BoxW.free {W : World} {base b : Nat} {P : Prm} {h : Value} {ms : List Msg} {lost : Bool} (x : BoxW W base b P h ms lost) (j : Nat) : W.frozen? ⟨b, j, none⟩ = false := by
  unfold World.frozen?; rw [x.row]; simp
/-- no message's bytes lie in the box's block, or among its messages -/
theorem bytes_block {W : World} {base g n c : Nat} {l : List Nat} (h : OwnS W base g n c l) {k : Nat} {cs : Array Value} {t : TypeId} (hk : W.heap[k]? = some (.cells cs t (0, 0))) (ht : t ≠ 5) : g ≠ k := by
  rintro rfl
  obtain ⟨cur, h1, _⟩ := h.row
  rw [h1] at hk
  injection hk with hk
  injection hk with _ hk
  exact ht hk.symm
theorem pcs_set13 (b : Nat) (P : Prm) (h h' : Value) (lost : Bool) : (pcs b P h lost).setIfInBounds 13 h' = pcs b P h' lost := rfl
theorem pcs_set14 (b : Nat) (P : Prm) (h : Value) (lost lost' : Bool) : (pcs b P h lost).setIfInBounds 14 (.bool lost') = pcs b P h lost' := rfl
/-- other messages stored into the box's field -/
theorem BoxW.set {W W' : World} {base b : Nat} {P : Prm} {h h' : Value} {ms ms' : List Msg} {lost : Bool} (x : BoxW W base b P h ms lost) (hb : W'.heap[b]? = W.heap[b]?) (hl' : W'.ownsRow base 76 2 h' ms'.length (ms'.flatMap Msg.cells)) (he : ∀ m ∈ ms', m.at W' base) :
    BoxW (W'.setCell ⟨b, 13, none⟩ h') base b P h' ms' lost := by
  have hrow := hb.trans x.row
  refine ⟨x.lo, by rw [setCell_row hrow, pcs_set13], ⟨hl'.1, ?_⟩, fun m hm => OwnS.kept (he m hm) (heap_setCell_other _ _ _ _ (bytes_block (he m hm) hrow (by decide)))⟩
  rcases hl'.2 with h1 | ⟨g, cap, cur, h1, h2, h3, h4⟩
  · exact .inl h1
  · refine .inr ⟨g, cap, cur, h1, h2, (heap_setCell_other _ _ _ _ ?_).trans h3, h4⟩
    rintro rfl
    rw [hrow] at h3
    injection h3 with h3
    injection h3 with _ h3
    exact absurd h3 (by decide)

set_option maxRecDepth 100000 in
set_option maxHeartbeats 1000000 in
theorem replace_at {base b : Nat} {P : Prm} {h : Value} {ms : List Msg} {lost : Bool} {w : World} (x : BoxW w base b P h ms lost) (l : List Nat) (n : Nat) (ad : Addr) (cap : Nat) (z : Int) (hn : l.length = n) (hm : n ≤ 1000000) (hB : Bytes w (some ad) l) :
    Calls Try.prog 25 #[.pointer (some ⟨b, 0, none⟩), .agg #[.slice (some ad) n cap, .int .i64 z]] w fun e w' => e = .returned (.int .i64 0) ∧ ∃ h' m, m.txt = l ∧ m.slot = z ∧ w.heap.size ≤ m.blk ∧ BoxW w' base b P h' [m] lost ∧ KeepH base b h h' w w' := by
  have hbl := x.lt
  have hlo := x.lo
  have X1 := hide (x.later (bal w (.cells #[.slice (some ad) n cap, .int .i64 z] 76)))
  have c0 : (w.alloc (.cells #[.slice (some ad) n cap, .int .i64 z] 76)).cell? ⟨w.heap.size, 0, none⟩ = some (.slice (some ad) n cap) := by rw [cell_of_row _ _ _ _ _ _ (heap_alloc_new w _)]; rfl
  have c1 : (w.alloc (.cells #[.slice (some ad) n cap, .int .i64 z] 76)).cell? ⟨w.heap.size, 1, none⟩ = some (.int .i64 z) := by rw [cell_of_row _ _ _ _ _ _ (heap_alloc_new w _)]; rfl
  have B1 := hide (bal w (.cells #[.slice (some ad) n cap, .int .i64 z] 76))
  have Z1 : w.heap.size < (w.alloc (.cells #[.slice (some ad) n cap, .int .i64 z] 76)).heap.size := by simp
  have HB := hide (hB.of_below B1.out (Nat.le_refl _))
  obtain ⟨w1, hw1⟩ : ∃ w1, w.alloc (.cells #[.slice (some ad) n cap, .int .i64 z] 76) = w1 := ⟨_, rfl⟩
  rw [hw1] at X1 c0 c1 B1 HB Z1
  clear x hB
  go_enter Try.func25, Try.ntmps25
  go_wp2_with fail
  refine (copied_at l n ad cap z w1 hn hm HB.out).mono ?_
  rintro e w2 ⟨g, c, rfl, ho, hb2⟩
  have X2 := hide (X1.out.later hb2)
  have B2 := hide (B1.out.trans (hb2.mono (by omega)))
  have HO := hide ho
  have hz2 := hb2.size
  clear ho hb2 c0 c1 X1 B1 HB hw1
  have X3 := hide (X2.out.later (bal w2 (.cells #[.slice (some ⟨g, 0, none⟩) n c, .int .i64 z] 76)))
  have q13 := X3.out.cell 13 h rfl
  have f13 := X3.out.free 13
  go_wp2
  go_ret
  subst hn
  have hzz := X2.out.lt
  have hob := HO.out.base
  refine ⟨rfl, _, ⟨g, c, l, z⟩, rfl, rfl, by show w.heap.size ≤ g; omega, X2.out.set (heap_alloc_old w2 _ hzz) ⟨rfl, .inr ⟨w2.heap.size, 1, _, rfl, by omega, heap_alloc_new w2 _, Nat.le_refl _, by simp [maxLen], rfl, rfl⟩⟩ (fun m hm => ?_), ⟨⟨((B2.out.mono (by omega)).alloc (by omega) _).setCell (p := ⟨b, 13, none⟩) hlo _, fun k hk hkb _ => ?_, ?_⟩, .inr ?_⟩⟩
  · rw [List.mem_singleton.1 hm]
    exact (HO.out.later (bal w2 _) HO.out.blk).from (by omega)
  · exact (heap_setCell_other _ _ _ _ hkb).trans ((heap_alloc_old w2 _ (by omega)).trans (B2.out.block k hk))
  · show _ ≤ ((w2.alloc _).heap.modify _ _).size
    rw [Array.size_modify]; simp; omega
  · intro k hk
    simp only [Value.ownBlock, Option.some.injEq] at hk
    omega
end Go.Proofs.Ytdimllmbalponaa
