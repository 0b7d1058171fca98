/-
  The first message of a box.
-/
import Derived.Test.YtdimllmbalponaaMsgs
namespace Go.Proofs.Ytdimllmbalponaa
open Go.RowKit Go.Shelf
attribute [local go_sem] Oper.semAt_some
set_option linter.unusedVariables false

/-- the two results' boxes, and what else stands -/
structure FB (w : World) (x : Value) (y : Int) (W : World) : Prop where
  bel : Below w.heap.size w W
  r4 : W.heap[w.heap.size]? = some (.cells #[x] 37 (0, 0))
  r5 : W.heap[w.heap.size + 1]? = some (.cells #[.int .i64 y] 26 (0, 0))
  siz : w.heap.size + 2 ≤ W.heap.size
theorem FB.later {w : World} {x : Value} {y : Int} {W W' : World} (h : FB w x y W) (hb : Below (w.heap.size + 2) W W') : FB w x y W' :=
  ⟨h.bel.trans (hb.mono (by omega)), (hb.block _ (by omega)).trans h.r4, (hb.block _ (by omega)).trans h.r5, by have := hb.size; have := h.siz; omega⟩
theorem FB.put {w : World} {x : Value} {y : Int} {W : World} (h : FB w x y W) {l : Nat} (hl : w.heap.size + 2 ≤ l) (o : Obj) : FB w x y (W.putObj l o) :=
  h.later (below_putObj (Below.refl _ _) (fun _ => trivial) hl o)
theorem FB.set4 {w : World} {x : Value} {y : Int} {W : World} (h : FB w x y W) (v : Value) : FB w v y (W.setCell ⟨w.heap.size, 0, none⟩ v) :=
  ⟨h.bel.setCell (p := ⟨w.heap.size, 0, none⟩) (Nat.le_refl _) _, by rw [setCell_row h.r4]; rfl, (heap_setCell_other _ _ _ _ (by show w.heap.size + 1 ≠ w.heap.size; omega)).trans h.r5, by show _ ≤ (W.heap.modify _ _).size; rw [Array.size_modify]; exact h.siz⟩
theorem FB.set5 {w : World} {x : Value} {y : Int} {W : World} (h : FB w x y W) (v : Int) : FB w x v (W.setCell ⟨w.heap.size + 1, 0, none⟩ (.int .i64 v)) :=
  ⟨h.bel.setCell (p := ⟨w.heap.size + 1, 0, none⟩) (by show _ ≤ w.heap.size + 1; omega) _, (heap_setCell_other _ _ _ _ (by show w.heap.size ≠ w.heap.size + 1; omega)).trans h.r4, by rw [setCell_row h.r5]; rfl, by show _ ≤ (W.heap.modify _ _).size; rw [Array.size_modify]; exact h.siz⟩
theorem FB.c4 {w : World} {x : Value} {y : Int} {W : World} (h : FB w x y W) : W.cell? ⟨w.heap.size, 0, none⟩ = some x ∧ W.frozen? ⟨w.heap.size, 0, none⟩ = false :=
  ⟨by rw [cell_of_row _ _ _ _ _ _ h.r4]; rfl, by unfold World.frozen?; rw [h.r4]; rfl⟩
theorem FB.c5 {w : World} {x : Value} {y : Int} {W : World} (h : FB w x y W) : W.cell? ⟨w.heap.size + 1, 0, none⟩ = some (.int .i64 y) ∧ W.frozen? ⟨w.heap.size + 1, 0, none⟩ = false :=
  ⟨by rw [cell_of_row _ _ _ _ _ _ h.r5]; rfl, by unfold World.frozen?; rw [h.r5]; rfl⟩

set_option maxRecDepth 100000 in
set_option maxHeartbeats 1000000 in
theorem first_some (b h n cap sz c : Nat) (ad : Addr) (z z' : Int) (bts : List Nat) (w : World) (hn : 0 < n) (hh : w.cell? ⟨b, 13, none⟩ = some (.slice (some ⟨h, 0, none⟩) n cap))
    (h0 : w.cell? ⟨h, 0, none⟩ = some (.slice (some ad) sz c)) (h1 : w.cell? ⟨h, 1, none⟩ = some (.int .i64 z)) (hs : bts.length = sz) (hm : sz ≤ 1000000) (hby : Bytes w (some ad) bts) :
    Calls Try.prog 26 #[.pointer (some ⟨b, 0, none⟩), .int .i64 z'] w fun e w' => ∃ g c', e = .returned (.tuple #[.slice (some ⟨g, 0, none⟩) sz c', .int .i64 0]) ∧ OwnS w' w.heap.size g sz c' bts ∧ Below w.heap.size w w' := by
  have hz := (zero_of_info info_msg).1
  have hbl : b < w.heap.size := World.block_lt_of_cell? w _ hh
  have hhl : h < w.heap.size := World.block_lt_of_cell? w _ h0
  refine calls_of_wp_marks Try.func26 rfl ?_
  simp only [Try.ntmps26, List.size_toArray, List.length_cons, List.length_nil, Nat.reduceAdd, Nat.reduceSub, Array.replicate_succ, Array.replicate_zero, List.push_toArray, List.append_toArray, List.nil_append, List.cons_append]
  go_wp2_with fail
  have F1 := hide (show FB w (.slice none 0 0) 0 ((w.alloc (.cells #[.slice none 0 0] 37)).alloc (.cells #[.int .i64 0] 26)) from ⟨(bal w _).alloc (by simp) _, heap_alloc2_old w _ _, heap_alloc2_new w _ _, by simp⟩)
  generalize ((w.alloc (.cells #[.slice none 0 0] 37)).alloc (.cells #[.int .i64 0] 26)) = w1 at F1 ⊢
  refine (messages_at b w1).mono ?_
  rintro e w2 ⟨rfl, hw2⟩
  have F2 := hide (show FB w (.slice none 0 0) 0 w2 from F1.out.later (by rw [hw2]; exact (bal w1 _).mono F1.out.siz))
  have hB : w2.cell? ⟨w1.heap.size, 0, none⟩ = some (.pointer (some ⟨b, 0, none⟩)) := by rw [hw2, cell_of_row _ _ _ _ _ _ (heap_alloc_new w1 _)]; rfl
  have hB1 : w1.heap.size < w2.heap.size := by rw [hw2]; simp
  clear hw2
  go_wp2_with fail
  refine wp_range2 (g := .tmp 8) rfl (enters_of Try.func40 (by kernel_rfl) rfl) ?_
  rintro W0 rec hl hD hb0 hz0 hst _ htm hps has hbo
  have F3 := hide (F2.out.later (hb0.mono F2.out.siz))
  have hsz2 := F2.out.siz
  have hbw : Below w.heap.size w W0 := F3.out.bel
  have hB0 := (bcl hb0 (by omega)).trans hB
  have hh0 := (bcl hbw hbl).trans hh
  have h00 := (bcl hbw hhl).trans h0
  have h10 := (bcl hbw hhl).trans h1
  refine messages1_first 1 _ _ b h n cap sz c ad z bts W0 _ hn hB0 hh0 h00 h10 hs hm (hby.of_below hbw (Nat.le_refl _)) ?_
  intro W1 g' c' hb1 ho
  have hl1 := (hb1.block (w2.heap.size + 1) (by omega)).trans hl
  have hD1 := (hb1.block w2.heap.size (by omega)).trans hD
  have F4 := hide (F3.out.later (hb1.mono (by omega)))
  have hz1 := hb1.size
  refine yield_at hl1 (by rw [hps]; rfl) ?_
  rw [has, hps, htm]
  have HL := hide hl1; have HD := hide hD1; have HO := hide ho; have HBO := hide hbo; have HST := hide hst
  clear hl hD hl1 hD1 ho hbo hst htm hps has hB0 hh0 h00 h10 hbw hb1 hb0 F3 F2 F1 hB hh h0 h1 hby
  gi_wp2
  have hll : w2.heap.size + 1 < W1.heap.size := by omega
  refine ⟨rec, (heap_alloc_old W1 _ hll).trans HL.out, HST.out, ?_⟩
  have hput : ∀ k, k ≠ w2.heap.size + 1 → k < W1.heap.size → ((W1.alloc (.cells #[.slice (some ⟨g', 0, none⟩) sz c', .int .i64 z] 76)).putObj (w2.heap.size + 1) (.loop { rec with state := .busy })).heap[k]? = W1.heap[k]? :=
    fun k h1 h2 => (World.putObj_heap_other h1).trans (heap_alloc_old W1 _ h2)
  have F5 := hide ((F4.out.later (by exact (bal W1 (.cells #[.slice (some ⟨g', 0, none⟩) sz c', .int .i64 z] 76)).mono (by omega))).put (l := w2.heap.size + 1) (by omega) (.loop { rec with state := .busy }))
  have HL2 := hide (World.putObj_heap_same (w := W1.alloc (.cells #[.slice (some ⟨g', 0, none⟩) sz c', .int .i64 z] 76)) (r := w2.heap.size + 1) (o := .loop { rec with state := .busy }) (by simp; omega))
  have HD2 := hide ((hput w2.heap.size (by omega) (by omega)).trans HD.out)
  have HO2 := hide (HO.out.kept (hput g' (by have := HO.out.base; omega) HO.out.blk))
  have cm : ((W1.alloc (.cells #[.slice (some ⟨g', 0, none⟩) sz c', .int .i64 z] 76)).putObj (w2.heap.size + 1) (.loop { rec with state := .busy })).cell? ⟨W1.heap.size, 0, none⟩ = some (.slice (some ⟨g', 0, none⟩) sz c') := by
    rw [World.cell?_of_block (a := ⟨W1.heap.size, 0, none⟩) (World.putObj_heap_other (by show W1.heap.size ≠ w2.heap.size + 1; omega)), cell_of_row _ _ _ _ _ _ (heap_alloc_new W1 _)]; rfl
  generalize ((W1.alloc (.cells #[.slice (some ⟨g', 0, none⟩) sz c', .int .i64 z] 76)).putObj (w2.heap.size + 1) (.loop { rec with state := .busy })) = W2 at F5 HL2 HD2 HO2 cm ⊢
  rw [HBO.out]
  have hg' : W0.heap.size ≤ g' := HO.out.base
  clear hput HL HD HO HBO HST F4
  have q4 := F5.out.c4; have q5 := (F5.out.set4 (.slice (some ⟨g', 0, none⟩) sz c')).c5
  obtain ⟨q40, q41⟩ := q4
  obtain ⟨q50, q51⟩ := q5
  have F6 := hide ((F5.out.set4 (.slice (some ⟨g', 0, none⟩) sz c')).set5 0)
  have hk : ∀ k, w.heap.size + 2 ≤ k → ((W2.setCell ⟨w.heap.size, 0, none⟩ (.slice (some ⟨g', 0, none⟩) sz c')).setCell ⟨w.heap.size + 1, 0, none⟩ (.int .i64 0)).heap[k]? = W2.heap[k]? :=
    fun k h => (heap_setCell_other _ _ _ _ (by show k ≠ w.heap.size + 1; omega)).trans (heap_setCell_other _ _ _ _ (by show k ≠ w.heap.size; omega))
  have HL6 := hide ((hk (w2.heap.size + 1) (by omega)).trans HL2.out)
  have HD6 := hide ((hk w2.heap.size (by omega)).trans HD2.out)
  have HO6 := hide (HO2.out.kept (hk g' (by omega)))
  clear hk F5 HL2 HD2 HO2
  gi_wp2
  generalize ((W2.setCell ⟨w.heap.size, 0, none⟩ (.slice (some ⟨g', 0, none⟩) sz c')).setCell ⟨w.heap.size + 1, 0, none⟩ (.int .i64 0)) = W6 at F6 HL6 HD6 HO6 ⊢
  refine ⟨some .ret, { rec with state := .busy }, rfl, HL6.out, rfl, fun v => ⟨⟨v, rfl⟩, { rec with state := .done, pending := some .ret }, World.putObj_heap_same (Array.getElem?_eq_some_iff.1 HL6.out).1, (by simp), ?_⟩⟩
  have hlD : w2.heap.size ≠ w2.heap.size + 1 := by omega
  have F7 := hide ((F6.out.put (l := w2.heap.size + 1) (by omega) (.loop { rec with state := .done, pending := some .ret })).put (l := w2.heap.size + 1) (by omega) (.loop { rec with state := .exhausted, pending := some .ret }))
  have HD7 := hide ((World.putObj_heap_other (o := .loop { rec with state := .exhausted, pending := some .ret }) hlD).trans ((World.putObj_heap_other (o := .loop { rec with state := .done, pending := some .ret }) hlD).trans HD6.out))
  have HO7 := hide ((HO6.out.kept (World.putObj_heap_other (o := .loop { rec with state := .done, pending := some .ret }) (by omega : g' ≠ w2.heap.size + 1))).kept (World.putObj_heap_other (o := .loop { rec with state := .exhausted, pending := some .ret }) (by omega : g' ≠ w2.heap.size + 1)))
  clear F6 HL6 HD6 HO6
  go_wp2
  have hgw : g' ≠ w2.heap.size := by omega
  generalize ((W6.putObj (w2.heap.size + 1) (.loop { rec with state := .done, pending := some .ret })).putObj (w2.heap.size + 1) (.loop { rec with state := .exhausted, pending := some .ret })) = W7 at F7 HD7 HO7 ⊢
  have F8 := F7.out.put (l := w2.heap.size) (by omega) (.deferred none)
  have HO8 := HO7.out.kept (World.putObj_heap_other (o := .deferred none) hgw)
  have c4 := F8.c4.1; have c5 := F8.c5.1
  refine marks_done HD7.out (v := .tuple #[.slice (some ⟨g', 0, none⟩) sz c', .int .i64 0]) ?_ ⟨g', c', rfl, HO8.from (by omega), F8.bel⟩
  simp [results, Try.results26, go_sem, asAddr, c4, c5]

set_option maxRecDepth 100000 in
set_option maxHeartbeats 1000000 in
theorem first_none (b cap : Nat) (A : Option Addr) (z' : Int) (w : World) (hh : w.cell? ⟨b, 13, none⟩ = some (.slice A 0 cap)) :
    Calls Try.prog 26 #[.pointer (some ⟨b, 0, none⟩), .int .i64 z'] w fun e w' => e = .returned (.tuple #[.slice none 0 0, .int .i64 42]) ∧ Below w.heap.size w w' := by
  have hz := (zero_of_info info_msg).1
  have hbl : b < w.heap.size := World.block_lt_of_cell? w _ hh
  refine calls_of_wp_marks Try.func26 rfl ?_
  simp only [Try.ntmps26, List.size_toArray, List.length_cons, List.length_nil, Nat.reduceAdd, Nat.reduceSub, Array.replicate_succ, Array.replicate_zero, List.push_toArray, List.append_toArray, List.nil_append, List.cons_append]
  go_wp2_with fail
  have F1 := hide (show FB w (.slice none 0 0) 0 ((w.alloc (.cells #[.slice none 0 0] 37)).alloc (.cells #[.int .i64 0] 26)) from ⟨(bal w _).alloc (by simp) _, heap_alloc2_old w _ _, heap_alloc2_new w _ _, by simp⟩)
  generalize ((w.alloc (.cells #[.slice none 0 0] 37)).alloc (.cells #[.int .i64 0] 26)) = w1 at F1 ⊢
  refine (messages_at b w1).mono ?_
  rintro e w2 ⟨rfl, hw2⟩
  have F2 := hide (show FB w (.slice none 0 0) 0 w2 from F1.out.later (by rw [hw2]; exact (bal w1 _).mono F1.out.siz))
  have hB : w2.cell? ⟨w1.heap.size, 0, none⟩ = some (.pointer (some ⟨b, 0, none⟩)) := by rw [hw2, cell_of_row _ _ _ _ _ _ (heap_alloc_new w1 _)]; rfl
  have hB1 : w1.heap.size < w2.heap.size := by rw [hw2]; simp
  clear hw2
  go_wp2_with fail
  refine wp_range2 (g := .tmp 8) rfl (enters_of Try.func40 (by kernel_rfl) rfl) ?_
  rintro W0 rec hl hD hb0 hz0 hst hpe _ _ _ _
  have F3 := hide (F2.out.later (hb0.mono F2.out.siz))
  have hsz2 := F2.out.siz
  have hB0 := (bcl hb0 (by omega)).trans hB
  have hh0 := (bcl F3.out.bel hbl).trans hh
  refine messages1_none 1 _ _ b cap A W0 _ hB0 hh0 fun v => ⟨⟨v, rfl⟩, rec, hl, (by rw [hst]; simp), ?_⟩
  rw [hpe]
  have hlD : w2.heap.size ≠ w2.heap.size + 1 := by omega
  have F4 := hide (F3.out.put (l := w2.heap.size + 1) (by omega) (.loop { rec with state := .exhausted }))
  have HD4 := hide ((World.putObj_heap_other (o := .loop { rec with state := .exhausted }) hlD).trans hD)
  rw [hpe] at F4 HD4
  clear hl hD hb0 F1 F2 F3 hB0 hh0 hh hB
  simp only []
  generalize W0.putObj (w2.heap.size + 1) (.loop { state := .exhausted, pending := none, fn := rec.fn, tmps := rec.tmps, params := rec.params, assign := rec.assign, body := rec.body, defers := rec.defers }) = W4 at F4 HD4 ⊢
  obtain ⟨q40, q41⟩ := F4.out.c4
  obtain ⟨q50, q51⟩ := (F4.out.set4 (.slice none 0 0)).c5
  have F6 := hide ((F4.out.set4 (.slice none 0 0)).set5 42)
  have HD6 := hide ((((heap_setCell_other _ _ _ _ (by show w2.heap.size ≠ w.heap.size + 1; omega)).trans (heap_setCell_other _ _ _ _ (by show w2.heap.size ≠ w.heap.size; omega))).trans HD4.out : ((W4.setCell ⟨w.heap.size, 0, none⟩ (.slice none 0 0)).setCell ⟨w.heap.size + 1, 0, none⟩ (.int .i64 42)).heap[w2.heap.size]? = _))
  clear F4 HD4
  go_wp2
  generalize ((W4.setCell ⟨w.heap.size, 0, none⟩ (.slice none 0 0)).setCell ⟨w.heap.size + 1, 0, none⟩ (.int .i64 42)) = W6 at F6 HD6 ⊢
  have F8 := F6.out.put (l := w2.heap.size) (by omega) (.deferred none)
  have c4 := F8.c4.1; have c5 := F8.c5.1
  refine marks_done HD6.out (v := .tuple #[.slice none 0 0, .int .i64 42]) ?_ ⟨rfl, F8.bel⟩
  simp [results, Try.results26, go_sem, asAddr, c4, c5]
end Go.Proofs.Ytdimllmbalponaa
