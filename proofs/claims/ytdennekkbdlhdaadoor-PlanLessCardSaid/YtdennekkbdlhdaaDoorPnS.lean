/-
  A demand's plan, or the error that tells why there is none.
-/
import Derived.Test.YtdennekkbdlhdaaDoorPnQ
namespace Go.Proofs.YtdennekkbdlhdaaDoor
open Go.RowKit Go.Shelf
attribute [local go_sem] Oper.semAt_some
set_option linter.unusedVariables false
set_option linter.unusedSimpArgs false
set_option maxRecDepth 100000

/-- an error, by its number -/
def erR (e : Ending) (z : Int) : Prop := e = .returned (.tuple #[.agg #[.int .i64 0, .slice none 0 0, .int .i64 0, .int .i64 0, .int .i64 0, .int .i64 0, .int .i64 0, .int .i64 0, .slice none 0 0, .slice none 0 0, .slice none 0 0, .slice none 0 0], .int .i64 z])
theorem conf_no (w : World) : ConfAt w noConf ⟨none, 0, none, 0, none, 0, none, 0, none, 0⟩ := by
  have z : I64 0 := by unfold I64; omega
  exact ⟨z, z, z, z, z, z, z, ⟨fun _ h => (by cases h), .inl rfl⟩, ⟨fun _ h => (by cases h), .inl rfl⟩, .inl rfl, ⟨fun _ h => (by cases h), .inl rfl⟩, ⟨fun _ h => (by cases h), .inl rfl⟩, ⟨Nat.le_refl _, Nat.zero_le _⟩, ⟨Nat.le_refl _, Nat.zero_le _⟩, ⟨Nat.le_refl _, Nat.zero_le _⟩, ⟨Nat.le_refl _, Nat.zero_le _⟩, ⟨Nat.le_refl _, Nat.zero_le _⟩⟩
theorem two_objs (w : World) (o0 o1 : Obj) : Below w.heap.size w ((w.alloc o0).alloc o1) ∧ ((w.alloc o0).alloc o1).heap.size = w.heap.size + 2 ∧ ((w.alloc o0).alloc o1).heap[w.heap.size]? = some o0 ∧ ((w.alloc o0).alloc o1).heap[w.heap.size + 1]? = some o1 :=
  ⟨(bal w _).alloc (by simp) _, by simp, heap_alloc2_old w o0 o1, heap_alloc2_new w o0 o1⟩
/-- what stands while a plan is made -/
structure MkS (w W : World) (d : Dm) (a : Da) : Prop where
  bel : Below w.heap.size w W
  sz : w.heap.size + 2 ≤ W.heap.size
  dm : DmB W w.heap.size d a
  rs : CfB W (w.heap.size + 1) 0 (.slice none 0 0) 0 0 0 0 0 0
theorem MkS.below {w W W' : World} {d : Dm} {a : Da} (h : MkS w W d a) (hb : Below W.heap.size W W') : MkS w W' d a := by
  have hs := h.sz
  exact ⟨h.bel.trans (hb.mono h.bel.size), Nat.le_trans hs hb.size, h.dm.below hb h.dm.lt, (hb.block _ (by omega)).trans h.rs⟩

set_option maxHeartbeats 8000000 in
theorem make_at (d : Dm) (a : Da) (w : World) (h : DmAt w d a) :
    Calls Tryd.prog 7 #[d.val a] w fun e w' => Below w.heap.size w w' ∧ ∃ A : Ad, e = .returned (.tuple #[(makeF d).val A, .int .i64 (errF d)]) ∧ ConfAt w' (makeF d) A := by
  have HD := hide (fun W (hb : Below w.heap.size w W) => h.of_below hb (Nat.le_refl _))
  have HEr := hide (fun z (e : Ending) (w' : World) (h0 : errF d = z) (hz : z ≠ 0) (he : erR e z) => show ∃ A : Ad, e = .returned (.tuple #[(makeF d).val A, .int .i64 (errF d)]) ∧ ConfAt w' (makeF d) A from ⟨⟨none, 0, none, 0, none, 0, none, 0, none, 0⟩, by
    unfold makeF; rw [h0, if_neg hz]; exact he, by unfold makeF; rw [h0, if_neg hz]; exact conf_no w'⟩)
  have HMay := hide (fun W (hb : Below w.heap.size w W) => may_at d a W (h.of_below hb (Nat.le_refl _)))
  have HR := hide (fun N (ho : Okd d N) W (hb : Below w.heap.size w W) => regions_at d a N W (h.of_below hb (Nat.le_refl _)) ho)
  have HW := hide (fun N (ho : Okd d N) W (hb : Below w.heap.size w W) => rows_at d a N W (h.of_below hb (Nat.le_refl _)) ho)
  have HL := hide (fun N (ho : Okd d N) W (hb : Below w.heap.size w W) => joined_at d a N W (h.of_below hb (Nat.le_refl _)) ho)
  have HT := hide (fun N (ho : Okd d N) W (hb : Below w.heap.size w W) => timed_at d a N W (h.of_below hb (Nat.le_refl _)) ho)
  unfold Dm.val at *
  obtain ⟨hb0, hs0, x0, x1⟩ := two_objs w (.cells #[.int .i64 d.nodes, .int .i64 d.drift, .int .i64 d.reading, .int .i64 d.rejoin, .int .i64 d.quota, .slice a.tA d.tasks.length a.tC, .slice a.sA d.streams.length a.sC] 25) (.cells #[.int .i64 0, .slice none 0 0, .int .i64 0, .int .i64 0, .int .i64 0, .int .i64 0, .int .i64 0, .int .i64 0, .slice none 0 0, .slice none 0 0, .slice none 0 0, .slice none 0 0] 34)
  have HS0 := hide (show MkS w _ d a from ⟨hb0, by omega, DmB.of x0, x1⟩)
  clear h hb0 hs0 x0 x1
  go_enter Tryd.func7, Tryd.ntmps7
  go_upto_region 1 with fail
  generalize (w.alloc (.cells #[.int .i64 d.nodes, .int .i64 d.drift, .int .i64 d.reading, .int .i64 d.rejoin, .int .i64 d.quota, .slice a.tA d.tasks.length a.tC, .slice a.sA d.streams.length a.sC] 25)).alloc (.cells #[.int .i64 0, .slice none 0 0, .int .i64 0, .int .i64 0, .int .i64 0, .int .i64 0, .int .i64 0, .int .i64 0, .slice none 0 0, .slice none 0 0, .slice none 0 0, .slice none 0 0] 34) = W0 at *
  obtain ⟨dl, a0, a1, a2, a3, a4, a5, a6⟩ := HS0.out.dm
  go_wp2_with fail
  refine (HMay.out _ HS0.out.bel).mono ?_
  rintro e w1 ⟨rfl, hb1⟩
  have HS1 := hide (HS0.out.below hb1)
  clear hb1 dl a0 a1 a2 a3 a4 a5 a6
  have hz1 := HS1.out.sz
  cases hmay : mayD d with
  | false =>
    have herr : errF d = 2 := by unfold errF; rw [hmay]; simp
    have hcf := HS1.out.rs
    obtain ⟨xl, c0, c1, c2, c3, c4, c5, c6, c7, c8, c9, c10, c11, _, _, _⟩ := hcf.cells
    have hfr : ∀ j, w1.frozen? ⟨w.heap.size + 1, j, none⟩ = false := fun j => by have := hcf; unfold CfB at this; simp [World.frozen?, this]
    have g0 := hfr 0
    have g1 := hfr 1
    have g2 := hfr 2
    have g3 := hfr 3
    have g4 := hfr 4
    have g5 := hfr 5
    have g6 := hfr 6
    have g7 := hfr 7
    have g8 := hfr 8
    have g9 := hfr 9
    have g10 := hfr 10
    have g11 := hfr 11
    clear hfr
    go_wp2_with fail
    clear c0 c1 c2 c3 c4 c5 c6 c7 c8 c9 c10 c11 g0 g1 g2 g3 g4 g5 g6 g7 g8 g9 g10 g11
    change bodyPost _ _ _ _ _ (set12 w1 (w.heap.size + 1) (.int .i64 0) (.slice none 0 0) (.int .i64 0) (.int .i64 0) (.int .i64 0) (.int .i64 0) (.int .i64 0) (.int .i64 0) (.slice none 0 0) (.slice none 0 0) (.slice none 0 0) (.slice none 0 0))
    have hR4 : CfB (set12 w1 (w.heap.size + 1) (.int .i64 0) (.slice none 0 0) (.int .i64 0) (.int .i64 0) (.int .i64 0) (.int .i64 0) (.int .i64 0) (.int .i64 0) (.slice none 0 0) (.slice none 0 0) (.slice none 0 0) (.slice none 0 0)) (w.heap.size + 1) 0 (.slice none 0 0) 0 0 0 0 0 0 := set12_row hcf
    have hB4 : Below w.heap.size w (set12 w1 (w.heap.size + 1) (.int .i64 0) (.slice none 0 0) (.int .i64 0) (.int .i64 0) (.int .i64 0) (.int .i64 0) (.int .i64 0) (.int .i64 0) (.slice none 0 0) (.slice none 0 0) (.slice none 0 0) (.slice none 0 0)) := set12_below HS1.out.bel (by omega)
    generalize set12 w1 (w.heap.size + 1) (.int .i64 0) (.slice none 0 0) (.int .i64 0) (.int .i64 0) (.int .i64 0) (.int .i64 0) (.int .i64 0) (.int .i64 0) (.slice none 0 0) (.slice none 0 0) (.slice none 0 0) (.slice none 0 0) = w9 at *
    obtain ⟨xl, c0, c1, c2, c3, c4, c5, c6, c7, c8, c9, c10, c11, _, _, _⟩ := hR4.cells
    refine bodyPost_ret (v := .tuple #[.agg #[.int .i64 0, .slice none 0 0, .int .i64 0, .int .i64 0, .int .i64 0, .int .i64 0, .int .i64 0, .int .i64 0, .slice none 0 0, .slice none 0 0, .slice none 0 0, .slice none 0 0], .int .i64 2]) ?_ rfl ⟨hB4, HEr.out 2 _ _ herr (by decide) rfl⟩
    simp [results, Tryd.results7, go_sem, c0, c1, c2, c3, c4, c5, c6, c7, c8, c9, c10, c11]
  | true =>
    obtain ⟨N, ho⟩ := okd_of hmay
    obtain ⟨dl, a0, a1, a2, a3, a4, a5, a6⟩ := HS1.out.dm
    go_wp2_with fail
    refine (HR.out N ho _ HS1.out.bel).mono ?_
    rintro e w2 ⟨hb2, hcase⟩
    have HS2 := hide (HS1.out.below hb2)
    have HB2 := hide hb2
    have hz2 := HS2.out.sz
    clear hb2 dl a0 a1 a2 a3 a4 a5 a6
    rcases hcase with ⟨hfM, pA, pC, rfl, p1, p2, hPt⟩ | ⟨hfM, rfl⟩
    rotate_left
    · skip
      have herr : errF d = 23 := by unfold errF; rw [hmay, hfM]; simp
      have hcf := HS2.out.rs
      obtain ⟨xl, c0, c1, c2, c3, c4, c5, c6, c7, c8, c9, c10, c11, _, _, _⟩ := hcf.cells
      have hfr : ∀ j, w2.frozen? ⟨w.heap.size + 1, j, none⟩ = false := fun j => by have := hcf; unfold CfB at this; simp [World.frozen?, this]
      have g0 := hfr 0
      have g1 := hfr 1
      have g2 := hfr 2
      have g3 := hfr 3
      have g4 := hfr 4
      have g5 := hfr 5
      have g6 := hfr 6
      have g7 := hfr 7
      have g8 := hfr 8
      have g9 := hfr 9
      have g10 := hfr 10
      have g11 := hfr 11
      clear hfr
      go_wp2_with fail
      clear c0 c1 c2 c3 c4 c5 c6 c7 c8 c9 c10 c11 g0 g1 g2 g3 g4 g5 g6 g7 g8 g9 g10 g11
      change bodyPost _ _ _ _ _ (set12 w2 (w.heap.size + 1) (.int .i64 0) (.slice none 0 0) (.int .i64 0) (.int .i64 0) (.int .i64 0) (.int .i64 0) (.int .i64 0) (.int .i64 0) (.slice none 0 0) (.slice none 0 0) (.slice none 0 0) (.slice none 0 0))
      have hR4 : CfB (set12 w2 (w.heap.size + 1) (.int .i64 0) (.slice none 0 0) (.int .i64 0) (.int .i64 0) (.int .i64 0) (.int .i64 0) (.int .i64 0) (.int .i64 0) (.slice none 0 0) (.slice none 0 0) (.slice none 0 0) (.slice none 0 0)) (w.heap.size + 1) 0 (.slice none 0 0) 0 0 0 0 0 0 := set12_row hcf
      have hB4 : Below w.heap.size w (set12 w2 (w.heap.size + 1) (.int .i64 0) (.slice none 0 0) (.int .i64 0) (.int .i64 0) (.int .i64 0) (.int .i64 0) (.int .i64 0) (.int .i64 0) (.slice none 0 0) (.slice none 0 0) (.slice none 0 0) (.slice none 0 0)) := set12_below HS2.out.bel (by omega)
      generalize set12 w2 (w.heap.size + 1) (.int .i64 0) (.slice none 0 0) (.int .i64 0) (.int .i64 0) (.int .i64 0) (.int .i64 0) (.int .i64 0) (.int .i64 0) (.slice none 0 0) (.slice none 0 0) (.slice none 0 0) (.slice none 0 0) = w9 at *
      obtain ⟨xl, c0, c1, c2, c3, c4, c5, c6, c7, c8, c9, c10, c11, _, _, _⟩ := hR4.cells
      refine bodyPost_ret (v := .tuple #[.agg #[.int .i64 0, .slice none 0 0, .int .i64 0, .int .i64 0, .int .i64 0, .int .i64 0, .int .i64 0, .int .i64 0, .slice none 0 0, .slice none 0 0, .slice none 0 0, .slice none 0 0], .int .i64 23]) ?_ rfl ⟨hB4, HEr.out 23 _ _ herr (by decide) rfl⟩
      simp [results, Tryd.results7, go_sem, c0, c1, c2, c3, c4, c5, c6, c7, c8, c9, c10, c11]
    have HPt := hide hPt
    clear hPt
    obtain ⟨dl, a0, a1, a2, a3, a4, a5, a6⟩ := HS2.out.dm
    go_wp2_with fail
    refine (HW.out N ho _ HS2.out.bel).mono ?_
    rintro e w3 ⟨hb3, hcase⟩
    have HS3 := hide (HS2.out.below hb3)
    have HB3 := hide hb3
    have hz3 := HS3.out.sz
    clear hb3 dl a0 a1 a2 a3 a4 a5 a6
    rcases hcase with ⟨hfS, wA, rfl, hWn⟩ | ⟨hfS, rfl⟩
    rotate_left
    · skip
      have herr : errF d = 24 := by unfold errF; rw [hmay, hfM, hfS]; simp
      have hcf := HS3.out.rs
      obtain ⟨xl, c0, c1, c2, c3, c4, c5, c6, c7, c8, c9, c10, c11, _, _, _⟩ := hcf.cells
      have hfr : ∀ j, w3.frozen? ⟨w.heap.size + 1, j, none⟩ = false := fun j => by have := hcf; unfold CfB at this; simp [World.frozen?, this]
      have g0 := hfr 0
      have g1 := hfr 1
      have g2 := hfr 2
      have g3 := hfr 3
      have g4 := hfr 4
      have g5 := hfr 5
      have g6 := hfr 6
      have g7 := hfr 7
      have g8 := hfr 8
      have g9 := hfr 9
      have g10 := hfr 10
      have g11 := hfr 11
      clear hfr
      go_wp2_with fail
      clear c0 c1 c2 c3 c4 c5 c6 c7 c8 c9 c10 c11 g0 g1 g2 g3 g4 g5 g6 g7 g8 g9 g10 g11
      change bodyPost _ _ _ _ _ (set12 w3 (w.heap.size + 1) (.int .i64 0) (.slice none 0 0) (.int .i64 0) (.int .i64 0) (.int .i64 0) (.int .i64 0) (.int .i64 0) (.int .i64 0) (.slice none 0 0) (.slice none 0 0) (.slice none 0 0) (.slice none 0 0))
      have hR4 : CfB (set12 w3 (w.heap.size + 1) (.int .i64 0) (.slice none 0 0) (.int .i64 0) (.int .i64 0) (.int .i64 0) (.int .i64 0) (.int .i64 0) (.int .i64 0) (.slice none 0 0) (.slice none 0 0) (.slice none 0 0) (.slice none 0 0)) (w.heap.size + 1) 0 (.slice none 0 0) 0 0 0 0 0 0 := set12_row hcf
      have hB4 : Below w.heap.size w (set12 w3 (w.heap.size + 1) (.int .i64 0) (.slice none 0 0) (.int .i64 0) (.int .i64 0) (.int .i64 0) (.int .i64 0) (.int .i64 0) (.int .i64 0) (.slice none 0 0) (.slice none 0 0) (.slice none 0 0) (.slice none 0 0)) := set12_below HS3.out.bel (by omega)
      generalize set12 w3 (w.heap.size + 1) (.int .i64 0) (.slice none 0 0) (.int .i64 0) (.int .i64 0) (.int .i64 0) (.int .i64 0) (.int .i64 0) (.int .i64 0) (.slice none 0 0) (.slice none 0 0) (.slice none 0 0) (.slice none 0 0) = w9 at *
      obtain ⟨xl, c0, c1, c2, c3, c4, c5, c6, c7, c8, c9, c10, c11, _, _, _⟩ := hR4.cells
      refine bodyPost_ret (v := .tuple #[.agg #[.int .i64 0, .slice none 0 0, .int .i64 0, .int .i64 0, .int .i64 0, .int .i64 0, .int .i64 0, .int .i64 0, .slice none 0 0, .slice none 0 0, .slice none 0 0, .slice none 0 0], .int .i64 24]) ?_ rfl ⟨hB4, HEr.out 24 _ _ herr (by decide) rfl⟩
      simp [results, Tryd.results7, go_sem, c0, c1, c2, c3, c4, c5, c6, c7, c8, c9, c10, c11]
    have HWn := hide hWn
    clear hWn
    obtain ⟨dl, a0, a1, a2, a3, a4, a5, a6⟩ := HS3.out.dm
    go_wp2_with fail
    refine (HL.out N ho _ HS3.out.bel).mono ?_
    rintro e w4 ⟨hb4, hcase⟩
    have HS4 := hide (HS3.out.below hb4)
    have HB4 := hide hb4
    have hz4 := HS4.out.sz
    clear hb4 dl a0 a1 a2 a3 a4 a5 a6
    rcases hcase with ⟨hfL, qA, qC, lA, lC, rfl, q1, q2, q3, q4, hQl⟩ | ⟨hfL, rfl⟩
    rotate_left
    · skip
      have herr : errF d = 26 := by unfold errF; rw [hmay, hfM, hfS, hfL]; simp
      have hcf := HS4.out.rs
      obtain ⟨xl, c0, c1, c2, c3, c4, c5, c6, c7, c8, c9, c10, c11, _, _, _⟩ := hcf.cells
      have hfr : ∀ j, w4.frozen? ⟨w.heap.size + 1, j, none⟩ = false := fun j => by have := hcf; unfold CfB at this; simp [World.frozen?, this]
      have g0 := hfr 0
      have g1 := hfr 1
      have g2 := hfr 2
      have g3 := hfr 3
      have g4 := hfr 4
      have g5 := hfr 5
      have g6 := hfr 6
      have g7 := hfr 7
      have g8 := hfr 8
      have g9 := hfr 9
      have g10 := hfr 10
      have g11 := hfr 11
      clear hfr
      go_wp2_with fail
      clear c0 c1 c2 c3 c4 c5 c6 c7 c8 c9 c10 c11 g0 g1 g2 g3 g4 g5 g6 g7 g8 g9 g10 g11
      change bodyPost _ _ _ _ _ (set12 w4 (w.heap.size + 1) (.int .i64 0) (.slice none 0 0) (.int .i64 0) (.int .i64 0) (.int .i64 0) (.int .i64 0) (.int .i64 0) (.int .i64 0) (.slice none 0 0) (.slice none 0 0) (.slice none 0 0) (.slice none 0 0))
      have hR4 : CfB (set12 w4 (w.heap.size + 1) (.int .i64 0) (.slice none 0 0) (.int .i64 0) (.int .i64 0) (.int .i64 0) (.int .i64 0) (.int .i64 0) (.int .i64 0) (.slice none 0 0) (.slice none 0 0) (.slice none 0 0) (.slice none 0 0)) (w.heap.size + 1) 0 (.slice none 0 0) 0 0 0 0 0 0 := set12_row hcf
      have hB4 : Below w.heap.size w (set12 w4 (w.heap.size + 1) (.int .i64 0) (.slice none 0 0) (.int .i64 0) (.int .i64 0) (.int .i64 0) (.int .i64 0) (.int .i64 0) (.int .i64 0) (.slice none 0 0) (.slice none 0 0) (.slice none 0 0) (.slice none 0 0)) := set12_below HS4.out.bel (by omega)
      generalize set12 w4 (w.heap.size + 1) (.int .i64 0) (.slice none 0 0) (.int .i64 0) (.int .i64 0) (.int .i64 0) (.int .i64 0) (.int .i64 0) (.int .i64 0) (.slice none 0 0) (.slice none 0 0) (.slice none 0 0) (.slice none 0 0) = w9 at *
      obtain ⟨xl, c0, c1, c2, c3, c4, c5, c6, c7, c8, c9, c10, c11, _, _, _⟩ := hR4.cells
      refine bodyPost_ret (v := .tuple #[.agg #[.int .i64 0, .slice none 0 0, .int .i64 0, .int .i64 0, .int .i64 0, .int .i64 0, .int .i64 0, .int .i64 0, .slice none 0 0, .slice none 0 0, .slice none 0 0, .slice none 0 0], .int .i64 26]) ?_ rfl ⟨hB4, HEr.out 26 _ _ herr (by decide) rfl⟩
      simp [results, Tryd.results7, go_sem, c0, c1, c2, c3, c4, c5, c6, c7, c8, c9, c10, c11]
    have HQl := hide hQl
    clear hQl
    have herr : errF d = 0 := by unfold errF; rw [hmay, hfM, hfS, hfL]; simp
    obtain ⟨dl, a0, a1, a2, a3, a4, a5, a6⟩ := HS4.out.dm
    go_wp2_with fail
    refine (HT.out N ho _ HS4.out.bel).mono ?_
    rintro e w5 ⟨hb5, oA, oC, rfl, o1, o2, hOn⟩
    have HS5 := hide (HS4.out.below hb5)
    have HB5 := hide hb5
    have HOn := hide hOn
    have hz5 := HS5.out.sz
    clear hb5 hOn dl a0 a1 a2 a3 a4 a5 a6
    have hcf := HS5.out.rs
    obtain ⟨xl, c0, c1, c2, c3, c4, c5, c6, c7, c8, c9, c10, c11, _, _, _⟩ := hcf.cells
    have hfr : ∀ j, w5.frozen? ⟨w.heap.size + 1, j, none⟩ = false := fun j => by have := hcf; unfold CfB at this; simp [World.frozen?, this]
    have g0 := hfr 0
    have g1 := hfr 1
    have g2 := hfr 2
    have g3 := hfr 3
    have g4 := hfr 4
    have g5 := hfr 5
    have g6 := hfr 6
    have g7 := hfr 7
    have g8 := hfr 8
    have g9 := hfr 9
    have g10 := hfr 10
    have g11 := hfr 11
    clear hfr
    go_wp2_with fail
    clear c0 c1 c2 c3 c4 c5 c6 c7 c8 c9 c10 c11 g0 g1 g2 g3 g4 g5 g6 g7 g8 g9 g10 g11
    change bodyPost _ _ _ _ _ ((set12 w5 (w.heap.size + 1) (.int .i64 d.nodes) (.slice oA N oC) (.int .i64 d.drift) (.int .i64 d.reading) (.int .i64 (boundF d)) (.int .i64 (boundF d)) (.int .i64 d.rejoin) (.int .i64 d.quota) (.slice pA d.tasks.length pC) (.slice wA N N) (.slice qA (portN d.streams) qC) (.slice lA d.streams.length lC)).alloc (.cells #[.int .i64 d.nodes, .slice oA N oC, .int .i64 d.drift, .int .i64 d.reading, .int .i64 (boundF d), .int .i64 (boundF d), .int .i64 d.rejoin, .int .i64 d.quota, .slice pA d.tasks.length pC, .slice wA N N, .slice qA (portN d.streams) qC, .slice lA d.streams.length lC] 34))
    have hrow : ((set12 w5 (w.heap.size + 1) (.int .i64 d.nodes) (.slice oA N oC) (.int .i64 d.drift) (.int .i64 d.reading) (.int .i64 (boundF d)) (.int .i64 (boundF d)) (.int .i64 d.rejoin) (.int .i64 d.quota) (.slice pA d.tasks.length pC) (.slice wA N N) (.slice qA (portN d.streams) qC) (.slice lA d.streams.length lC)).alloc (.cells #[.int .i64 d.nodes, .slice oA N oC, .int .i64 d.drift, .int .i64 d.reading, .int .i64 (boundF d), .int .i64 (boundF d), .int .i64 d.rejoin, .int .i64 d.quota, .slice pA d.tasks.length pC, .slice wA N N, .slice qA (portN d.streams) qC, .slice lA d.streams.length lC] 34)).heap[w.heap.size + 1]? = some (.cells #[.int .i64 d.nodes, .slice oA N oC, .int .i64 d.drift, .int .i64 d.reading, .int .i64 (boundF d), .int .i64 (boundF d), .int .i64 d.rejoin, .int .i64 d.quota, .slice pA d.tasks.length pC, .slice wA N N, .slice qA (portN d.streams) qC, .slice lA d.streams.length lC] 34 (0, 0)) := (heap_alloc_old _ _ (by rw [set12_size]; omega)).trans (set12_row hcf)
    have hsame : ∀ j, j ≠ w.heap.size + 1 → j < w5.heap.size → ((set12 w5 (w.heap.size + 1) (.int .i64 d.nodes) (.slice oA N oC) (.int .i64 d.drift) (.int .i64 d.reading) (.int .i64 (boundF d)) (.int .i64 (boundF d)) (.int .i64 d.rejoin) (.int .i64 d.quota) (.slice pA d.tasks.length pC) (.slice wA N N) (.slice qA (portN d.streams) qC) (.slice lA d.streams.length lC)).alloc (.cells #[.int .i64 d.nodes, .slice oA N oC, .int .i64 d.drift, .int .i64 d.reading, .int .i64 (boundF d), .int .i64 (boundF d), .int .i64 d.rejoin, .int .i64 d.quota, .slice pA d.tasks.length pC, .slice wA N N, .slice qA (portN d.streams) qC, .slice lA d.streams.length lC] 34)).heap[j]? = w5.heap[j]? := fun j h1 h2 => (heap_alloc_old _ _ (by rw [set12_size]; exact h2)).trans (set12_other h1)
    have hB9 : Below w.heap.size w ((set12 w5 (w.heap.size + 1) (.int .i64 d.nodes) (.slice oA N oC) (.int .i64 d.drift) (.int .i64 d.reading) (.int .i64 (boundF d)) (.int .i64 (boundF d)) (.int .i64 d.rejoin) (.int .i64 d.quota) (.slice pA d.tasks.length pC) (.slice wA N N) (.slice qA (portN d.streams) qC) (.slice lA d.streams.length lC)).alloc (.cells #[.int .i64 d.nodes, .slice oA N oC, .int .i64 d.drift, .int .i64 d.reading, .int .i64 (boundF d), .int .i64 (boundF d), .int .i64 d.rejoin, .int .i64 d.quota, .slice pA d.tasks.length pC, .slice wA N N, .slice qA (portN d.streams) qC, .slice lA d.streams.length lC] 34)) := (set12_below HS5.out.bel (by omega)).alloc (by rw [set12_size]; omega) _
    have hs9 : ((set12 w5 (w.heap.size + 1) (.int .i64 d.nodes) (.slice oA N oC) (.int .i64 d.drift) (.int .i64 d.reading) (.int .i64 (boundF d)) (.int .i64 (boundF d)) (.int .i64 d.rejoin) (.int .i64 d.quota) (.slice pA d.tasks.length pC) (.slice wA N N) (.slice qA (portN d.streams) qC) (.slice lA d.streams.length lC)).alloc (.cells #[.int .i64 d.nodes, .slice oA N oC, .int .i64 d.drift, .int .i64 d.reading, .int .i64 (boundF d), .int .i64 (boundF d), .int .i64 d.rejoin, .int .i64 d.quota, .slice pA d.tasks.length pC, .slice wA N N, .slice qA (portN d.streams) qC, .slice lA d.streams.length lC] 34)).heap.size = w5.heap.size + 1 := by rw [World.size_alloc, set12_size]
    generalize ((set12 w5 (w.heap.size + 1) (.int .i64 d.nodes) (.slice oA N oC) (.int .i64 d.drift) (.int .i64 d.reading) (.int .i64 (boundF d)) (.int .i64 (boundF d)) (.int .i64 d.rejoin) (.int .i64 d.quota) (.slice pA d.tasks.length pC) (.slice wA N N) (.slice qA (portN d.streams) qC) (.slice lA d.streams.length lC)).alloc (.cells #[.int .i64 d.nodes, .slice oA N oC, .int .i64 d.drift, .int .i64 d.reading, .int .i64 (boundF d), .int .i64 (boundF d), .int .i64 d.rejoin, .int .i64 d.quota, .slice pA d.tasks.length pC, .slice wA N N, .slice qA (portN d.streams) qC, .slice lA d.streams.length lC] 34)) = w9 at *
    have y2 := HB2.out.size
    have y3 := HB3.out.size
    have y4 := HB4.out.size
    have y5 := HB5.out.size
    have hP := HPt.out w9 ⟨by omega, fun j h1 h2 => (hsame j (by omega) (by omega)).trans ((HB5.out.block j (by omega)).trans ((HB4.out.block j (by omega)).trans (HB3.out.block j h2)))⟩
    have hW := HWn.out w9 ⟨by omega, fun j h1 h2 => (hsame j (by omega) (by omega)).trans ((HB5.out.block j (by omega)).trans (HB4.out.block j h2))⟩
    have hQ := HQl.out w9 ⟨by omega, fun j h1 h2 => (hsame j (by omega) (by omega)).trans (HB5.out.block j h2)⟩
    have hO := HOn.out w9 ⟨by omega, fun j h1 h2 => hsame j (by omega) h2⟩
    have hmk : makeF d = confF d := by unfold makeF; rw [if_pos herr]
    have hval : (confF d).val ⟨oA, oC, pA, pC, wA, N, qA, qC, lA, lC⟩ = .agg #[.int .i64 d.nodes, .slice oA N oC, .int .i64 d.drift, .int .i64 d.reading, .int .i64 (boundF d), .int .i64 (boundF d), .int .i64 d.rejoin, .int .i64 d.quota, .slice pA d.tasks.length pC, .slice wA N N, .slice qA (portN d.streams) qC, .slice lA d.streams.length lC] := by
      unfold Conf.val confF
      dsimp only
      rw [partsTo_len, linksTo_len, portsAll_len, ho.toNat, rowsTo_len]
      simp
    have e0 : w9.cell? ⟨w.heap.size + 1, 0, none⟩ = some (.int .i64 d.nodes) := by rw [cell_of_row _ _ _ _ _ _ hrow]; rfl
    have e1 : w9.cell? ⟨w.heap.size + 1, 1, none⟩ = some (.slice oA N oC) := by rw [cell_of_row _ _ _ _ _ _ hrow]; rfl
    have e2 : w9.cell? ⟨w.heap.size + 1, 2, none⟩ = some (.int .i64 d.drift) := by rw [cell_of_row _ _ _ _ _ _ hrow]; rfl
    have e3 : w9.cell? ⟨w.heap.size + 1, 3, none⟩ = some (.int .i64 d.reading) := by rw [cell_of_row _ _ _ _ _ _ hrow]; rfl
    have e4 : w9.cell? ⟨w.heap.size + 1, 4, none⟩ = some (.int .i64 (boundF d)) := by rw [cell_of_row _ _ _ _ _ _ hrow]; rfl
    have e5 : w9.cell? ⟨w.heap.size + 1, 5, none⟩ = some (.int .i64 (boundF d)) := by rw [cell_of_row _ _ _ _ _ _ hrow]; rfl
    have e6 : w9.cell? ⟨w.heap.size + 1, 6, none⟩ = some (.int .i64 d.rejoin) := by rw [cell_of_row _ _ _ _ _ _ hrow]; rfl
    have e7 : w9.cell? ⟨w.heap.size + 1, 7, none⟩ = some (.int .i64 d.quota) := by rw [cell_of_row _ _ _ _ _ _ hrow]; rfl
    have e8 : w9.cell? ⟨w.heap.size + 1, 8, none⟩ = some (.slice pA d.tasks.length pC) := by rw [cell_of_row _ _ _ _ _ _ hrow]; rfl
    have e9 : w9.cell? ⟨w.heap.size + 1, 9, none⟩ = some (.slice wA N N) := by rw [cell_of_row _ _ _ _ _ _ hrow]; rfl
    have e10 : w9.cell? ⟨w.heap.size + 1, 10, none⟩ = some (.slice qA (portN d.streams) qC) := by rw [cell_of_row _ _ _ _ _ _ hrow]; rfl
    have e11 : w9.cell? ⟨w.heap.size + 1, 11, none⟩ = some (.slice lA d.streams.length lC) := by rw [cell_of_row _ _ _ _ _ _ hrow]; rfl
    refine bodyPost_ret (v := .tuple #[.agg #[.int .i64 d.nodes, .slice oA N oC, .int .i64 d.drift, .int .i64 d.reading, .int .i64 (boundF d), .int .i64 (boundF d), .int .i64 d.rejoin, .int .i64 d.quota, .slice pA d.tasks.length pC, .slice wA N N, .slice qA (portN d.streams) qC, .slice lA d.streams.length lC], .int .i64 0]) ?_ rfl ⟨hB9, ⟨oA, oC, pA, pC, wA, N, qA, qC, lA, lC⟩, ?_, ?_⟩
    · simp [results, Tryd.results7, go_sem, e0, e1, e2, e3, e4, e5, e6, e7, e8, e9, e10, e11]
    · rw [hmk, hval, herr]
    · rw [hmk]
      have k1 := ho.hN
      have k2 := ho.n16
      obtain ⟨k3, k4⟩ := ho.dr
      obtain ⟨k5, k6⟩ := ho.re
      obtain ⟨k7, k8⟩ := ho.rj
      obtain ⟨k9, k10⟩ := ho.qu
      have kb : boundF d = 2 * (2 * (d.drift + d.reading) + 1) + d.reading := rfl
      have kl : ∀ n, (List.map (fun (n : Nat) => (n : Int)) (List.range n)).length = n := fun n => by simp
      refine ⟨by show I64 d.nodes; unfold I64; omega, by show I64 d.drift; unfold I64; omega, by show I64 d.reading; unfold I64; omega, by show I64 (boundF d); unfold I64; omega, by show I64 (boundF d); unfold I64; omega, by show I64 d.rejoin; unfold I64; omega, by show I64 d.quota; unfold I64; omega, ?_, hP, ?_, hQ.1, hQ.2, ?_, ?_, ?_, ?_, ?_⟩
      · show Ints w9 oA ((List.range d.nodes.toNat).map _); rw [ho.toNat]; exact hO
      · show IntRows w9 wA (rowsTo d.nodes.toNat _ _); rw [ho.toNat]; exact hW
      · show ((List.range d.nodes.toNat).map _).length ≤ oC ∧ oC ≤ maxLen; rw [kl, ho.toNat]; exact ⟨o1, o2⟩
      · show (partsTo _ _).length ≤ pC ∧ pC ≤ maxLen; rw [partsTo_len]; exact ⟨p1, p2⟩
      · show (rowsTo d.nodes.toNat _ _).length ≤ N ∧ N ≤ maxLen; rw [rowsTo_len, ho.toNat]; exact ⟨Nat.le_refl _, by simp only [maxLen]; omega⟩
      · show (portsAll _).length ≤ qC ∧ qC ≤ maxLen; rw [portsAll_len]; exact ⟨q1, q2⟩
      · show (linksTo _ _ _).length ≤ lC ∧ lC ≤ maxLen; rw [linksTo_len]; exact ⟨q3, q4⟩
end Go.Proofs.YtdennekkbdlhdaaDoor
