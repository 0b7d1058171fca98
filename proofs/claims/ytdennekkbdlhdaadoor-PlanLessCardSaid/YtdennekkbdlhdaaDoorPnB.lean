/-
  Whether a demand may be, as the program says it.
-/
import Derived.Test.YtdennekkbdlhdaaDoorPnA
namespace Go.Proofs.YtdennekkbdlhdaaDoor
open Go.RowKit Go.Shelf
attribute [local go_sem] Oper.semAt_some
set_option linter.unusedVariables false
set_option linter.unusedSimpArgs false
set_option maxRecDepth 100000

theorem cell_same {W W' : World} {b : Nat} (h : W'.heap[b]? = W.heap[b]?) (o : Nat) : W'.cell? ⟨b, o, none⟩ = W.cell? ⟨b, o, none⟩ := by unfold World.cell?; dsimp only; rw [h]
def Sm.v (s : Sm) (A : Option Addr) (c : Nat) : Value := .agg #[.int .i64 s.src, .slice A s.dests.length c, .int .i64 s.kind, .int .i64 s.size, .int .i64 s.depth, .int .i64 s.fresh]
/-- a stream in a block of a function's own -/
structure SmB (W : World) (b : Nat) (s : Sm) (A : Option Addr) (c : Nat) : Prop where
  lt : b < W.heap.size
  c0 : W.cell? ⟨b, 0, none⟩ = some (.int .i64 s.src)
  c1 : W.cell? ⟨b, 1, none⟩ = some (.slice A s.dests.length c)
  c2 : W.cell? ⟨b, 2, none⟩ = some (.int .i64 s.kind)
  c3 : W.cell? ⟨b, 3, none⟩ = some (.int .i64 s.size)
  c4 : W.cell? ⟨b, 4, none⟩ = some (.int .i64 s.depth)
  c5 : W.cell? ⟨b, 5, none⟩ = some (.int .i64 s.fresh)
theorem SmB.below {W W' : World} {b : Nat} {s : Sm} {A : Option Addr} {c : Nat} (h : SmB W b s A c) {B : Nat} (hb : Below B W W') (hB : b < B) : SmB W' b s A c :=
  ⟨Nat.lt_of_lt_of_le h.lt hb.size, (bcl hb hB).trans h.c0, (bcl hb hB).trans h.c1, (bcl hb hB).trans h.c2, (bcl hb hB).trans h.c3, (bcl hb hB).trans h.c4, (bcl hb hB).trans h.c5⟩
theorem SmB.on {W W' : World} {b : Nat} {s : Sm} {A : Option Addr} {c : Nat} (h : SmB W b s A c) (he : W'.heap[b]? = W.heap[b]?) : SmB W' b s A c := by
  refine ⟨?_, (cell_same he _).trans h.c0, (cell_same he _).trans h.c1, (cell_same he _).trans h.c2, (cell_same he _).trans h.c3, (cell_same he _).trans h.c4, (cell_same he _).trans h.c5⟩
  have := h.lt
  rw [Array.getElem?_eq_getElem this] at he
  exact (Array.getElem?_eq_some_iff.1 he).1
theorem SmB.of {W : World} {b : Nat} {s : Sm} {A : Option Addr} {c : Nat} {t : TypeId} {f : Nat × Nat} (h : W.heap[b]? = some (.cells #[.int .i64 s.src, .slice A s.dests.length c, .int .i64 s.kind, .int .i64 s.size, .int .i64 s.depth, .int .i64 s.fresh] t f)) : SmB W b s A c := by
  refine ⟨(Array.getElem?_eq_some_iff.1 h).1, ?_, ?_, ?_, ?_, ?_, ?_⟩ <;> (rw [cell_of_row _ _ _ _ _ _ h]; rfl)
/-- a demand in a block of a function's own -/
structure DmB (W : World) (b : Nat) (d : Dm) (a : Da) : Prop where
  lt : b < W.heap.size
  c0 : W.cell? ⟨b, 0, none⟩ = some (.int .i64 d.nodes)
  c1 : W.cell? ⟨b, 1, none⟩ = some (.int .i64 d.drift)
  c2 : W.cell? ⟨b, 2, none⟩ = some (.int .i64 d.reading)
  c3 : W.cell? ⟨b, 3, none⟩ = some (.int .i64 d.rejoin)
  c4 : W.cell? ⟨b, 4, none⟩ = some (.int .i64 d.quota)
  c5 : W.cell? ⟨b, 5, none⟩ = some (.slice a.tA d.tasks.length a.tC)
  c6 : W.cell? ⟨b, 6, none⟩ = some (.slice a.sA d.streams.length a.sC)
theorem DmB.below {W W' : World} {b : Nat} {d : Dm} {a : Da} (h : DmB W b d a) {B : Nat} (hb : Below B W W') (hB : b < B) : DmB W' b d a :=
  ⟨Nat.lt_of_lt_of_le h.lt hb.size, (bcl hb hB).trans h.c0, (bcl hb hB).trans h.c1, (bcl hb hB).trans h.c2, (bcl hb hB).trans h.c3, (bcl hb hB).trans h.c4, (bcl hb hB).trans h.c5, (bcl hb hB).trans h.c6⟩
theorem DmB.on {W W' : World} {b : Nat} {d : Dm} {a : Da} (h : DmB W b d a) (he : W'.heap[b]? = W.heap[b]?) : DmB W' b d a := by
  refine ⟨?_, (cell_same he _).trans h.c0, (cell_same he _).trans h.c1, (cell_same he _).trans h.c2, (cell_same he _).trans h.c3, (cell_same he _).trans h.c4, (cell_same he _).trans h.c5, (cell_same he _).trans h.c6⟩
  have := h.lt
  rw [Array.getElem?_eq_getElem this] at he
  exact (Array.getElem?_eq_some_iff.1 he).1
def Dm.cells (d : Dm) (a : Da) : Array Value := #[.int .i64 d.nodes, .int .i64 d.drift, .int .i64 d.reading, .int .i64 d.rejoin, .int .i64 d.quota, .slice a.tA d.tasks.length a.tC, .slice a.sA d.streams.length a.sC]
theorem DmB.of {W : World} {b : Nat} {d : Dm} {a : Da} {t : TypeId} {f : Nat × Nat} (h : W.heap[b]? = some (.cells (d.cells a) t f)) : DmB W b d a := by
  refine ⟨(Array.getElem?_eq_some_iff.1 h).1, ?_, ?_, ?_, ?_, ?_, ?_, ?_⟩ <;> (rw [cell_of_row _ _ _ _ _ _ h]; rfl)
/-- the first block that a function makes: the demand that it was handed -/
theorem dm_box (w : World) (d : Dm) (a : Da) (t : TypeId) : DmB (w.alloc (.cells (d.cells a) t)) w.heap.size d a := DmB.of (heap_alloc_new w _)

theorem numbers_at (d : Dm) (a : Da) (w : World) : Calls Tryd.prog 18 #[d.val a] w fun e w' => e = .returned (.bool (numB d)) ∧ Below w.heap.size w w' := by
  have HB := hide (fun t => bal w (.cells (d.cells a) t))
  unfold Dm.cells at HB
  unfold Dm.val
  have HN := hide (show numB d = (inD d.nodes 4 16 && (inD d.drift 0 1048576 && (inD d.reading 0 1048576 && (inD d.rejoin 1 8 && inD d.quota 1 16)))) from rfl)
  have H1 := hide (within_at d.nodes 4 16)
  have H2 := hide (within_at d.drift 0 1048576)
  have H3 := hide (within_at d.reading 0 1048576)
  have H4 := hide (within_at d.rejoin 1 8)
  have H5 := hide (within_at d.quota 1 16)
  generalize inD d.nodes 4 16 = x1 at *
  generalize inD d.drift 0 1048576 = x2 at *
  generalize inD d.reading 0 1048576 = x3 at *
  generalize inD d.rejoin 1 8 = x4 at *
  generalize inD d.quota 1 16 = x5 at *
  go_enter Tryd.func18, Tryd.ntmps18
  cases x1 with
  | false =>
    go_wp2_with (go_at_call 27; (with_reducible first | refine (H1.out _).mono ?_); rintro e w1 ⟨rfl, rfl⟩)
    go_ret
    exact ⟨by rw [HN.out]; rfl, HB.out _⟩
  | true =>
    cases x2 with
    | false =>
      go_wp2_with (go_at_call 27; (with_reducible first | refine (H1.out _).mono ?_ | refine (H2.out _).mono ?_); rintro e w1 ⟨rfl, rfl⟩)
      go_ret
      exact ⟨by rw [HN.out]; rfl, HB.out _⟩
    | true =>
      cases x3 with
      | false =>
        go_wp2_with (go_at_call 27; (with_reducible first | refine (H1.out _).mono ?_ | refine (H2.out _).mono ?_ | refine (H3.out _).mono ?_); rintro e w1 ⟨rfl, rfl⟩)
        go_ret
        exact ⟨by rw [HN.out]; rfl, HB.out _⟩
      | true =>
        cases x4 with
        | false =>
          go_wp2_with (go_at_call 27; (with_reducible first | refine (H1.out _).mono ?_ | refine (H2.out _).mono ?_ | refine (H3.out _).mono ?_ | refine (H4.out _).mono ?_); rintro e w1 ⟨rfl, rfl⟩)
          go_ret
          exact ⟨by rw [HN.out]; rfl, HB.out _⟩
        | true =>
          go_wp2_with (go_at_call 27; (with_reducible first | refine (H1.out _).mono ?_ | refine (H2.out _).mono ?_ | refine (H3.out _).mono ?_ | refine (H4.out _).mono ?_ | refine (H5.out _).mono ?_); rintro e w1 ⟨rfl, rfl⟩)
          go_ret
          exact ⟨by rw [HN.out]; rfl, HB.out _⟩
set_option maxHeartbeats 1000000 in
theorem streamMay_at (s : Sm) (A : Option Addr) (c T : Nat) (w : World) (hI : Ints w A s.dests) (hl : s.dests.length ≤ 9223372036854775806) :
    Calls Tryd.prog 29 #[s.v A c, .int .i64 (T : Nat)] w fun e w' => e = .returned (.bool (smB T s)) ∧ Below w.heap.size w w' := by
  have HB := hide (fun t => bal w (.cells #[.int .i64 s.src, .slice A s.dests.length c, .int .i64 s.kind, .int .i64 s.size, .int .i64 s.depth, .int .i64 s.fresh] t))
  unfold Sm.v
  have HN := hide (show smB T s = (oneZ s.src T && (toB T s.dests && (inD s.size 1 32 && kindB s))) from rfl)
  have H1 := hide (isOne_at s.src (T : Nat))
  have H2 := hide (fun W (h : Below w.heap.size w W) => toMay_at s.dests A c T W (hI.of_below h (Nat.le_refl _)) hl)
  have H3 := hide (within_at s.size 1 32)
  have H4 := hide (kindMay_at s A c)
  generalize oneZ s.src T = x1 at *
  generalize toB T s.dests = x2 at *
  generalize inD s.size 1 32 = x3 at *
  generalize kindB s = x4 at *
  clear hI
  go_enter Tryd.func29, Tryd.ntmps29
  cases x1 with
  | false =>
    go_wp2_with fail
    refine (H1.out _).mono ?_
    rintro e w1 ⟨rfl, rfl⟩
    go_wp2_with fail
    go_ret
    exact ⟨by rw [HN.out]; rfl, HB.out _⟩
  | true =>
    cases x2 with
    | false =>
      go_wp2_with fail
      refine (H1.out _).mono ?_
      rintro e w1 ⟨rfl, rfl⟩
      go_wp2_with fail
      refine (H2.out _ (HB.out _)).mono ?_
      rintro e w1 ⟨rfl, rfl⟩
      go_wp2_with fail
      go_ret
      exact ⟨by rw [HN.out]; rfl, HB.out _⟩
    | true =>
      cases x3 with
      | false =>
        go_wp2_with fail
        refine (H1.out _).mono ?_
        rintro e w1 ⟨rfl, rfl⟩
        go_wp2_with fail
        refine (H2.out _ (HB.out _)).mono ?_
        rintro e w1 ⟨rfl, rfl⟩
        go_wp2_with fail
        refine (H3.out _).mono ?_
        rintro e w1 ⟨rfl, rfl⟩
        go_wp2_with fail
        go_ret
        exact ⟨by rw [HN.out]; rfl, HB.out _⟩
      | true =>
        go_wp2_with fail
        refine (H1.out _).mono ?_
        rintro e w1 ⟨rfl, rfl⟩
        go_wp2_with fail
        refine (H2.out _ (HB.out _)).mono ?_
        rintro e w1 ⟨rfl, rfl⟩
        go_wp2_with fail
        refine (H3.out _).mono ?_
        rintro e w1 ⟨rfl, rfl⟩
        go_wp2_with fail
        refine (H4.out _).mono ?_
        rintro e w1 ⟨rfl, hb1⟩
        have HB1 := hide ((HB.out _).trans (hb1.mono (by simp)))
        clear hb1
        go_wp2_with fail
        go_ret
        exact ⟨by rw [HN.out]; rfl, HB1.out⟩
end Go.Proofs.YtdennekkbdlhdaaDoor
