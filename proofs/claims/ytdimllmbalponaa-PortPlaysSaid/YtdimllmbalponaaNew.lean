/-
  New.
-/
import Derived.Test.YtdimllmbalponaaMade
import Derived.Laws.CopyOwn
import Derived.Laws.Tables
namespace Go.Proofs.Ytdimllmbalponaa
open Go.RowKit Go.Shelf
set_option linter.unusedVariables false

def zdeeds : Array Value := #[.int .i64 0, .int .i64 0, .int .i64 0, .int .i64 0, .nilFunc, .nilFunc]
theorem info_deeds : (Try.prog.info? 51).map (fun i => (i.zero, i.size)) = some (some (.agg zdeeds), 6) := by kernel_rfl
theorem deeds_info {cs : Array Value} (h : cs.size = 6) : (Try.prog.info? 51).map (·.size) = some cs.size := by rw [h]; exact (zero_of_info info_deeds).2
def dv (k d : Int) : Value := if k = 1 then pick d (deedsV 0 0 0 0 25 26) (deedsV 0 0 1 65535 25 27) (.agg zdeeds)
  else if k = 2 then pick d (deedsV 1 8 0 0 28 29) (deedsV 1 8 0 0 30 31) (.agg zdeeds) else .agg zdeeds
def hasB (k d : Int) : Bool := if k = 1 then decide (d = 1 ∨ d = 2) else if k = 2 then decide (d = 1 ∨ d = 2) else false
/-- what the first look-up gave: an inner map, or none -/
def innerAt (W : World) (k : Int) (v : Value) : Prop :=
  if k = 1 then ∃ s, v = .map (some s) ∧ W.heap[s]? = some (.map #[ent 1 (deedsV 0 0 0 0 25 26) 0, ent 2 (deedsV 0 0 1 65535 25 27) 1] 2)
  else if k = 2 then ∃ s, v = .map (some s) ∧ W.heap[s]? = some (.map #[ent 1 (deedsV 1 8 0 0 28 29) 0, ent 2 (deedsV 1 8 0 0 30 31) 1] 2)
  else v = .map none
/-- what the operations of New's first line have made -/
def newF (B P : Nat) (k d : Int) (D : Array Value) (hs : Bool) (j : Nat) (vals : Nat → Value) (W : World) : Prop :=
  match j with
  | 0 => ∃ m, vals 0 = .map (some m) ∧ Kinds W B m
  | 1 => vals 1 = .pointer (some ⟨P, 1, none⟩)
  | 2 => vals 2 = .int .i64 k
  | 3 => innerAt W k (vals 3)
  | 4 => vals 4 = .pointer (some ⟨P, 2, none⟩)
  | 5 => vals 5 = .int .i64 d
  | 6 => vals 6 = .tuple #[.agg D, .bool hs]
  | 7 => vals 7 = .tuple #[.agg D, .bool hs]
  | 8 => vals 8 = .agg D
  | 9 => vals 9 = .bool hs
  | 10 => ∃ g, vals 10 = .pointer (some ⟨g, 0, none⟩) ∧ B ≤ g ∧ W.heap[g]? = some (.cells zdeeds 51 (0, 0))
  | 11 => ∃ g, vals 10 = .pointer (some ⟨g, 0, none⟩) ∧ B ≤ g ∧ W.heap[g]? = some (.cells D 51 (0, 0))
  | 12 => vals 12 = .bool hs
  | _ => True
def newT : Nat → Nat
  | 0 => 3 | 3 => 6 | 10 => 11 | _ => 100
def newM (j : Nat) : List Nat := if j = 11 then [10, 11] else [j]
theorem newF_sup {B P : Nat} {k d : Int} {D : Array Value} {hs : Bool} : ∀ j vals vals' W, (∀ i ∈ newM j, vals i = vals' i) → newF B P k d D hs j vals W → newF B P k d D hs j vals' W := by
  intro j vals vals' W h hF
  unfold newM at h
  match j, hF with
  | 0, hF | 1, hF | 2, hF | 3, hF | 4, hF | 5, hF | 6, hF | 7, hF | 8, hF | 9, hF | 10, hF | 12, hF =>
    simp only [newF] at hF ⊢
    rw [← h _ (by simp)]; exact hF
  | 11, hF =>
    simp only [newF] at hF ⊢
    rw [← h 10 (by simp)]; exact hF
  | _ + 13, _ => trivial
theorem newF_later {B P : Nat} {k d : Int} {D : Array Value} {hs : Bool} {W W' : World} (hb : ∀ i, i < W.heap.size → W'.heap[i]? = W.heap[i]?) (j : Nat) (vals : Nat → Value) (h : newF B P k d D hs j vals W) : newF B P k d D hs j vals W' := by
  have key : ∀ {i : Nat} {o : Obj}, W.heap[i]? = some o → W'.heap[i]? = some o := fun h => (hb _ (Array.getElem?_eq_some_iff.1 h).1).trans h
  match j, h with
  | 0, ⟨m, h1, s, q, h2, h3, h4, h5⟩ => exact ⟨m, h1, s, q, h2, key h3, key h4, key h5⟩
  | 1, h | 2, h | 4, h | 5, h | 6, h | 7, h | 8, h | 9, h | 12, h => exact h
  | 3, h =>
    simp only [newF, innerAt] at h ⊢
    split
    · rename_i h1; rw [if_pos h1] at h
      obtain ⟨s, h2, h3⟩ := h
      exact ⟨s, h2, key h3⟩
    · rename_i h1; rw [if_neg h1] at h
      split
      · rename_i h4; rw [if_pos h4] at h
        obtain ⟨s, h2, h3⟩ := h
        exact ⟨s, h2, key h3⟩
      · rename_i h4; rwa [if_neg h4] at h
  | 10, ⟨g, h1, h2, h3⟩ => exact ⟨g, h1, h2, key h3⟩
  | 11, ⟨g, h1, h2, h3⟩ => exact ⟨g, h1, h2, key h3⟩
  | _ + 13, _ => trivial
/-- what New answers -/
def NewR (r : Bool) (n : Nat) (cells : Nat → Array Value) (e : Ending) (w' : World) : Prop :=
  (r = true → ∃ b, e = .returned (.tuple #[.pointer (some ⟨b, 0, none⟩), .int .i64 0]) ∧ n ≤ b ∧ w'.heap[b]? = some (.cells (cells b) 60 (0, 0))) ∧ (r = false → e = .returned (.tuple #[.pointer none, .int .i64 40]))
/-- where New stands behind its first line: the port's box, and the deeds' -/
structure NB (w w1 : World) (g : Nat) (pt k d s e f : Int) (D : Array Value) (W : World) : Prop where
  bel : Below w.heap.size w W
  prt : ∀ j, j < 6 → W.cell? ⟨w.heap.size, j, none⟩ = some (([.int .i64 pt, .int .i64 k, .int .i64 d, .int .i64 s, .int .i64 e, .int .i64 f] : List Value).getD j undef)
  row : W.heap[g]? = some (.cells D 51 (0, 0))
  lo : w.heap.size < g
  siz : w.heap.size < W.heap.size
theorem NB.later {w w1 : World} {g : Nat} {pt k d s e f : Int} {D : Array Value} {W W' : World} (h : NB w w1 g pt k d s e f D W) (hb : Below W.heap.size W W') : NB w w1 g pt k d s e f D W' :=
  ⟨h.bel.trans (hb.mono (by have := h.siz; omega)), fun j hj => (bcl hb h.siz).trans (h.prt j hj), (hb.block g (Array.getElem?_eq_some_iff.1 h.row).1).trans h.row, h.lo, by have := h.siz; have := hb.size; omega⟩

set_option maxRecDepth 100000 in
set_option maxHeartbeats 2000000 in
theorem new_at (pt k d s e f dl dm fl fm : Int) (p g : Value) (D : Array Value) (hs : Bool) (w : World) (hDl : #[.int .i64 dl, .int .i64 dm, .int .i64 fl, .int .i64 fm, p, g] = D) (hD1 : D.all (·.oneCell') = true) (hdv : dv k d = .agg D) (hhs : hasB k d = hs) (r : Bool) (hr : (hs && decide (1 ≤ s ∧ s ≤ 32) && decide (dl ≤ e ∧ e ≤ dm) && decide (fl ≤ f ∧ f ≤ fm)) = r) :
    Calls Try.prog 4 #[.agg #[.int .i64 pt, .int .i64 k, .int .i64 d, .int .i64 s, .int .i64 e, .int .i64 f]] w fun e' w' =>
      NewR r w.heap.size (fun b => bcs b pt k d s e f dl dm fl fm p g (.slice none 0 0) false) e' w' ∧ Below w.heap.size w w' := by
  have hu1 : Try.prog.underlying 54 = some (.map 3 53) := by kernel_rfl
  have hu2 : Try.prog.underlying 53 = some (.map 3 51) := by kernel_rfl
  have hui : Try.prog.underlying 3 = some (.int .i64) := by kernel_rfl
  have zdd := (zero_of_info info_deeds).1
  have zmap : ∀ W, (zeroValue 53).run Try.prog W = .ok (.map none) W := by
    obtain ⟨j, hj, hz⟩ : ∃ j, Try.prog.info? 53 = some j ∧ j.zero = some (.map none) := by
      have h : (Try.prog.info? 53).map (·.zero) = some (some (.map none)) := by kernel_rfl
      rcases hx : Try.prog.info? 53 with _ | j
      · rw [hx] at h; cases h
      · rw [hx] at h; injection h with h; exact ⟨j, rfl, h⟩
    intro W
    simp [zeroValue, typeInfo, hj, hz]
  have DS := hide (show D.size = 6 by rw [← hDl]; rfl)
  have DO := hide hD1
  have hbx : (w.alloc (.cells #[.int .i64 pt, .int .i64 k, .int .i64 d, .int .i64 s, .int .i64 e, .int .i64 f] 23)).heap[w.heap.size]? = _ := heap_alloc_new w _
  have hb1 := bal w (.cells #[.int .i64 pt, .int .i64 k, .int .i64 d, .int .i64 s, .int .i64 e, .int .i64 f] 23)
  obtain ⟨w1, hw1⟩ : ∃ w1, w.alloc (.cells #[.int .i64 pt, .int .i64 k, .int .i64 d, .int .i64 s, .int .i64 e, .int .i64 f] 23) = w1 := ⟨_, rfl⟩
  rw [hw1] at hbx hb1
  have z1 : w.heap.size + 1 ≤ w1.heap.size := by rw [← hw1]; simp
  have P0 := hide (show w1.cell? ⟨w.heap.size, 0, none⟩ = some (.int .i64 pt) by rw [cell_of_row _ _ _ _ _ _ hbx]; rfl)
  have HK := hide (show w1.cell? ⟨w.heap.size, 1, none⟩ = some (.int .i64 k) by rw [cell_of_row _ _ _ _ _ _ hbx]; rfl)
  have HD := hide (show w1.cell? ⟨w.heap.size, 2, none⟩ = some (.int .i64 d) by rw [cell_of_row _ _ _ _ _ _ hbx]; rfl)
  have P3 := hide (show w1.cell? ⟨w.heap.size, 3, none⟩ = some (.int .i64 s) by rw [cell_of_row _ _ _ _ _ _ hbx]; rfl)
  have P4 := hide (show w1.cell? ⟨w.heap.size, 4, none⟩ = some (.int .i64 e) by rw [cell_of_row _ _ _ _ _ _ hbx]; rfl)
  have P5 := hide (show w1.cell? ⟨w.heap.size, 5, none⟩ = some (.int .i64 f) by rw [cell_of_row _ _ _ _ _ _ hbx]; rfl)
  have U1 := hide hu1; have U2 := hide hu2; have UI := hide hui; have HDV := hide hdv; have HHS := hide hhs; have HDL := hide hDl; have HR := hide hr; have HB1 := hide hb1
  clear hu1 hu2 hui hdv hhs hD1 hDl hbx hr hb1
  go_enter Try.func4, Try.ntmps4
  go_wp2_with fail
  refine wp_region_factsV (fun W => Below w1.heap.size w1 W) (newF w1.heap.size w.heap.size k d D hs) newT newM ?mb newF_sup (by kernel_rfl) (by kernel_rfl) (below_drewN (Below.refl _ _) 1) ?steps ?fin
  case mb =>
    intro j i hi hij
    unfold newM at hi
    split at hi
    · rename_i h; subst h; simp at hi; rcases hi with rfl | rfl
      · kernel_rfl
      · exact absurd rfl hij
    · simp at hi; exact absurd hi hij
  case steps =>
    refine AllFrom.cons (step_fnV (by kernel_rfl) 9 #[] _ rfl (enters_of Try.func9 (by kernel_rfl) rfl) ?s0) (AllFrom.cons (i := 1) (step_isV (by kernel_rfl) ?s1) (AllFrom.cons (i := 2) (step_isV (by kernel_rfl) ?s2) (AllFrom.cons (i := 3) (step_isV (by kernel_rfl) ?s3) (AllFrom.cons (i := 4) (step_isV (by kernel_rfl) ?s4) (AllFrom.cons (i := 5) (step_isV (by kernel_rfl) ?s5) (AllFrom.cons (i := 6) (step_isV (by kernel_rfl) ?s6) (AllFrom.cons (i := 7) (step_isV (by kernel_rfl) ?s7) (AllFrom.cons (i := 8) (step_isV (by kernel_rfl) ?s8) (AllFrom.cons (i := 9) (step_isV (by kernel_rfl) ?s9) (AllFrom.cons (i := 10) (step_runV (by kernel_rfl) ?s10) (AllFrom.cons (i := 11) ?s11 (AllFrom.cons (i := 12) (step_isV (by kernel_rfl) ?s12) (trivial)))))))))))))
    case s0 =>
      intro l vals W ρ hI hi hdep hnew hold hc
      refine ⟨#[], by simp, (kinds_at W).mono ?_⟩
      rintro e W' ⟨m, rfl, ⟨s', q, hm, h1, h2, h3⟩, hb'⟩
      exact ⟨_, rfl, hI.com.trans (hb'.mono hI.com.size), ⟨m, by simp [upd], s', q, Nat.le_trans hI.com.size hm, h1, h2, h3⟩, fun j _ _ hj hT => newF_later (fun i hi => hb'.block i hi) j vals (hI.fact j hj hT)⟩
    case s1 =>
      intro l vals W ρ hI hi hdep hnew hold hc
      have r0 : ρ (.tmp 1) = .pointer (some ⟨w.heap.size, 0, none⟩) := (hold 1 (by kernel_rfl)).trans (by kernel_rfl)
      refine ⟨.pointer (some ⟨w.heap.size, 1, none⟩), ?_, by simp [newF, upd]⟩
      simp [execOp, r0, go_sem]
    case s2 =>
      intro l vals W ρ hI hi hdep hnew hold hc
      have r0 : ρ (.tmp 8) = vals 1 := hnew 1 8 (dep hdep 1 (by kernel_rfl)) (by kernel_rfl) (of_decide_eq_true (by kernel_rfl)) (of_decide_eq_true (by kernel_rfl))
      have f1 : newF w1.heap.size w.heap.size k d D hs 1 vals W := hI.fact 1 (dep hdep 1 (by kernel_rfl)) (neverV hI (of_decide_eq_true (by kernel_rfl)))
      rw [f1] at r0
      have c := (bcl hI.com (show w.heap.size < _ by omega)).trans HK.out
      refine ⟨.int .i64 k, ?_, by simp [newF, upd]⟩
      simp [execOp, r0, c, go_sem]
    case s3 =>
      intro l vals W ρ hI hi hdep hnew hold hc
      have r0 : ρ (.tmp 7) = vals 0 := hnew 0 7 (dep hdep 0 (by kernel_rfl)) (by kernel_rfl) (of_decide_eq_true (by kernel_rfl)) (of_decide_eq_true (by kernel_rfl))
      have r1 : ρ (.tmp 9) = vals 2 := hnew 2 9 (dep hdep 2 (by kernel_rfl)) (by kernel_rfl) (of_decide_eq_true (by kernel_rfl)) (of_decide_eq_true (by kernel_rfl))
      obtain ⟨m, f0, s', q, hm, h1, h2, h3⟩ : newF w1.heap.size w.heap.size k d D hs 0 vals W := hI.fact 0 (dep hdep 0 (by kernel_rfl)) hi
      have f2 : newF w1.heap.size w.heap.size k d D hs 2 vals W := hI.fact 2 (dep hdep 2 (by kernel_rfl)) (neverV hI (of_decide_eq_true (by kernel_rfl)))
      rw [f0] at r0
      rw [f2] at r1
      have hl := run_look k false U1.out UI.out h1 (zmap W)
      refine ⟨pick k (.map (some s')) (.map (some q)) (.map none), ?_, ?_⟩
      · simp [execOp, r0, r1, hl, go_sem]
      · simp only [newF, innerAt, upd, if_true]
        by_cases e1 : k = 1
        · rw [if_pos e1]; exact ⟨s', by simp [pick, e1], h2⟩
        · rw [if_neg e1]
          by_cases e2 : k = 2
          · rw [if_pos e2]; exact ⟨q, by simp [pick, e2], h3⟩
          · rw [if_neg e2]; simp [pick, e1, e2]
    case s4 =>
      intro l vals W ρ hI hi hdep hnew hold hc
      have r0 : ρ (.tmp 1) = .pointer (some ⟨w.heap.size, 0, none⟩) := (hold 1 (by kernel_rfl)).trans (by kernel_rfl)
      refine ⟨.pointer (some ⟨w.heap.size, 2, none⟩), ?_, by simp [newF, upd]⟩
      simp [execOp, r0, go_sem]
    case s5 =>
      intro l vals W ρ hI hi hdep hnew hold hc
      have r0 : ρ (.tmp 11) = vals 4 := hnew 4 11 (dep hdep 4 (by kernel_rfl)) (by kernel_rfl) (of_decide_eq_true (by kernel_rfl)) (of_decide_eq_true (by kernel_rfl))
      have f4 : newF w1.heap.size w.heap.size k d D hs 4 vals W := hI.fact 4 (dep hdep 4 (by kernel_rfl)) (neverV hI (of_decide_eq_true (by kernel_rfl)))
      rw [f4] at r0
      have c := (bcl hI.com (show w.heap.size < _ by omega)).trans HD.out
      refine ⟨.int .i64 d, ?_, by simp [newF, upd]⟩
      simp [execOp, r0, c, go_sem]
    case s6 =>
      intro l vals W ρ hI hi hdep hnew hold hc
      have r0 : ρ (.tmp 10) = vals 3 := hnew 3 10 (dep hdep 3 (by kernel_rfl)) (by kernel_rfl) (of_decide_eq_true (by kernel_rfl)) (of_decide_eq_true (by kernel_rfl))
      have r1 : ρ (.tmp 12) = vals 5 := hnew 5 12 (dep hdep 5 (by kernel_rfl)) (by kernel_rfl) (of_decide_eq_true (by kernel_rfl)) (of_decide_eq_true (by kernel_rfl))
      have f3 : innerAt W k (vals 3) := hI.fact 3 (dep hdep 3 (by kernel_rfl)) hi
      have f5 : newF w1.heap.size w.heap.size k d D hs 5 vals W := hI.fact 5 (dep hdep 5 (by kernel_rfl)) (neverV hI (of_decide_eq_true (by kernel_rfl)))
      rw [f5] at r1
      refine ⟨.tuple #[.agg D, .bool hs], ?_, by simp [newF, upd]⟩
      have hDD := HDV.out; have hHS := HHS.out
      unfold innerAt at f3
      unfold dv at hDD
      unfold hasB at hHS
      by_cases e1 : k = 1
      · rw [if_pos e1] at f3 hDD hHS
        obtain ⟨s', f3, h2⟩ := f3
        rw [f3] at r0
        have hl := run_look d true U2.out UI.out h2 (zdd W)
        rw [hDD, hHS] at hl
        simp [execOp, r0, r1, hl, go_sem]
      · rw [if_neg e1] at f3 hDD hHS
        by_cases e2 : k = 2
        · rw [if_pos e2] at f3 hDD hHS
          obtain ⟨s', f3, h2⟩ := f3
          rw [f3] at r0
          have hl := run_look d true U2.out UI.out h2 (zdd W)
          rw [hDD, hHS] at hl
          simp [execOp, r0, r1, hl, go_sem]
        · rw [if_neg e2] at f3 hDD hHS
          rw [f3] at r0
          have hl := run_look_none d U2.out UI.out (zdd W)
          rw [hDD, hHS] at hl
          simp [execOp, r0, r1, hl, go_sem]
    case s7 =>
      intro l vals W ρ hI hi hdep hnew hold hc
      have r0 : ρ (.tmp 13) = vals 6 := hnew 6 13 (dep hdep 6 (by kernel_rfl)) (by kernel_rfl) (of_decide_eq_true (by kernel_rfl)) (of_decide_eq_true (by kernel_rfl))
      have f6 : newF w1.heap.size w.heap.size k d D hs 6 vals W := hI.fact 6 (dep hdep 6 (by kernel_rfl)) (neverV hI (of_decide_eq_true (by kernel_rfl)))
      rw [f6] at r0
      refine ⟨.tuple #[.agg D, .bool hs], ?_, by simp [newF, upd]⟩
      simp [execOp, r0, go_sem]
    case s8 =>
      intro l vals W ρ hI hi hdep hnew hold hc
      have r0 : ρ (.tmp 6) = vals 7 := hnew 7 6 (dep hdep 7 (by kernel_rfl)) (by kernel_rfl) (of_decide_eq_true (by kernel_rfl)) (of_decide_eq_true (by kernel_rfl))
      have f7 : newF w1.heap.size w.heap.size k d D hs 7 vals W := hI.fact 7 (dep hdep 7 (by kernel_rfl)) (neverV hI (of_decide_eq_true (by kernel_rfl)))
      rw [f7] at r0
      refine ⟨.agg D, ?_, by simp [newF, upd]⟩
      simp [execOp, r0, go_sem]
    case s9 =>
      intro l vals W ρ hI hi hdep hnew hold hc
      have r0 : ρ (.tmp 6) = vals 7 := hnew 7 6 (dep hdep 7 (by kernel_rfl)) (by kernel_rfl) (of_decide_eq_true (by kernel_rfl)) (of_decide_eq_true (by kernel_rfl))
      have f7 : newF w1.heap.size w.heap.size k d D hs 7 vals W := hI.fact 7 (dep hdep 7 (by kernel_rfl)) (neverV hI (of_decide_eq_true (by kernel_rfl)))
      rw [f7] at r0
      refine ⟨.bool hs, ?_, by simp [newF, upd]⟩
      simp [execOp, r0, go_sem]
    case s10 =>
      intro l vals W ρ hI hi hdep hnew hold hc
      refine ⟨.pointer (some ⟨W.heap.size, 0, none⟩), W.alloc (.cells zdeeds 51), .inl ?_, hI.com.alloc hI.com.size _, ⟨W.heap.size, by simp [upd], hI.com.size, heap_alloc_new W _⟩, fun j _ _ hj hT => newF_later (fun i hi => (bal W _).block i hi) j vals (hI.fact j hj hT)⟩
      have hz' := zdd W
      simp [execOp, go_sem, hz']
    case s11 =>
      intro l vals W hI hi hdep
      have h10 : l.getD 10 false = true := dep hdep 10 (by kernel_rfl)
      obtain ⟨g, hg, hgB, hgr⟩ : newF w1.heap.size w.heap.size k d D hs 10 vals W := hI.fact 10 h10 hi
      have h8 : vals 8 = .agg D := hI.fact 8 (dep hdep 8 (by kernel_rfl)) (neverV hI (of_decide_eq_true (by kernel_rfl)))
      refine wp_store_row 51 (.tmp 4) (.tmp 14) rfl g D ((ev_get (by kernel_rfl) 10 4 h10 (by kernel_rfl) (of_decide_eq_true (by kernel_rfl)) (of_decide_eq_true (by kernel_rfl))).trans hg) ((ev_get (by kernel_rfl) 8 14 (dep hdep 8 (by kernel_rfl)) (by kernel_rfl) (of_decide_eq_true (by kernel_rfl)) (of_decide_eq_true (by kernel_rfl))).trans h8) 51 zdeeds hgr (deeds_info DS.out) (by rw [DS.out]; rfl) DO.out ?_
      refine ⟨undef, rfl, below_setRow hI.com hgB _, ⟨g, by simp [upd, hg], hgB, setRow_heap _ _ _ _ _ _ hgr⟩, fun j hj hT hl hTl => ?_⟩
      have h := hI.fact j hl hTl
      match j, h, hj, hT, hl with
      | 0, _, _, _, hl => exact absurd (hI.clo 6 _ rfl (hI.clo 7 _ rfl (hI.clo 8 _ rfl (dep hdep 8 (by kernel_rfl)) ⟨7, .data⟩ (by simp) rfl) ⟨6, .data⟩ (by simp) rfl) ⟨3, .data⟩ (by simp) rfl) (by rw [show l.getD 3 false = false from hTl]; simp)
      | 3, _, _, _, hl => exact absurd (hI.clo 7 _ rfl (hI.clo 8 _ rfl (dep hdep 8 (by kernel_rfl)) ⟨7, .data⟩ (by simp) rfl) ⟨6, .data⟩ (by simp) rfl) (by rw [show l.getD 6 false = false from hTl]; simp)
      | 1, h, _, _, _ | 2, h, _, _, _ | 4, h, _, _, _ | 5, h, _, _, _ | 6, h, _, _, _ | 7, h, _, _, _ | 8, h, _, _, _ | 9, h, _, _, _ | 12, h, _, _, _ => exact h
      | 10, _, _, hT, _ => exact absurd rfl hT
      | 11, _, hj, _, _ => exact absurd rfl hj
      | _ + 13, _, _, _, _ => trivial
    case s12 =>
      intro l vals W ρ hI hi hdep hnew hold hc
      have r0 : ρ (.tmp 15) = vals 9 := hnew 9 15 (dep hdep 9 (by kernel_rfl)) (by kernel_rfl) (of_decide_eq_true (by kernel_rfl)) (of_decide_eq_true (by kernel_rfl))
      have f9 : newF w1.heap.size w.heap.size k d D hs 9 vals W := hI.fact 9 (dep hdep 9 (by kernel_rfl)) (neverV hI (of_decide_eq_true (by kernel_rfl)))
      rw [f9] at r0
      refine ⟨.bool hs, ?_, by simp [newF, upd]⟩
      simp [execOp, r0, go_sem]
  case fin =>
    intro vals W hC hF
    obtain ⟨g6, hg6, hB6, hr6⟩ : newF w1.heap.size w.heap.size k d D hs 11 vals W := hF 11 (of_decide_eq_true (by kernel_rfl)) (of_decide_eq_true (by kernel_rfl))
    have h12 : vals 12 = .bool hs := hF 12 (of_decide_eq_true (by kernel_rfl)) (of_decide_eq_true (by kernel_rfl))
    simp [canon, dstOf, Act.put, hg6, h12]
    have g6lt : g6 < W.heap.size := (Array.getElem?_eq_some_iff.1 hr6).1
    have zW := hC.size
    have N := hide (show NB w w1 g6 pt k d s e f D W from ⟨HB1.out.trans (hC.mono (by omega)), fun j hj => (bcl hC (show w.heap.size < _ by omega)).trans (by
      rcases j with _ | _ | _ | _ | _ | _ | j
      · exact P0.out
      · exact HK.out
      · exact HD.out
      · exact P3.out
      · exact P4.out
      · exact P5.out
      · omega), hr6, by omega, by omega⟩)
    clear hF hC hr6 h12 hg6
    have HN := HR.out
    cases hs with
    | false =>
      have hr0 : r = false := by rw [← HN]; rfl
      have HR0 := hide hr0
      clear HN hr0
      go_wp2
      go_ret2
      exact ⟨⟨fun h => (by rw [HR0.out] at h; cases h), fun _ => rfl⟩, N.out.bel⟩
    | true =>
      have q3 : W.cell? ⟨w.heap.size, 3, none⟩ = some (.int .i64 s) := N.out.prt 3 (by omega)
      go_wp2_with fail
      refine (within_at s 1 32 W).mono ?_
      rintro e' W2 ⟨rfl, hb2⟩
      have N2 := hide (N.out.later hb2)
      clear q3 hb2
      by_cases c1 : 1 ≤ s ∧ s ≤ 32
      · rw [decide_eq_true c1] at HN ⊢
        have C1 := hide c1
        clear c1
        have q4 : W2.cell? ⟨w.heap.size, 4, none⟩ = some (.int .i64 e) := N2.out.prt 4 (by omega)
        have d0 : W2.cell? ⟨g6, 0, none⟩ = some (.int .i64 dl) := by rw [cell_of_row _ _ _ _ _ _ N2.out.row, ← HDL.out]; rfl
        have d1 : W2.cell? ⟨g6, 1, none⟩ = some (.int .i64 dm) := by rw [cell_of_row _ _ _ _ _ _ N2.out.row, ← HDL.out]; rfl
        go_wp2_with fail
        refine (within_at e dl dm W2).mono ?_
        rintro e' W3 ⟨rfl, hb3⟩
        have N3 := hide (N2.out.later hb3)
        clear q4 d0 d1 hb3
        by_cases c2 : dl ≤ e ∧ e ≤ dm
        · rw [decide_eq_true c2] at HN ⊢
          have C2 := hide c2
          clear c2
          have q5 : W3.cell? ⟨w.heap.size, 5, none⟩ = some (.int .i64 f) := N3.out.prt 5 (by omega)
          have d2 : W3.cell? ⟨g6, 2, none⟩ = some (.int .i64 fl) := by rw [cell_of_row _ _ _ _ _ _ N3.out.row, ← HDL.out]; rfl
          have d3 : W3.cell? ⟨g6, 3, none⟩ = some (.int .i64 fm) := by rw [cell_of_row _ _ _ _ _ _ N3.out.row, ← HDL.out]; rfl
          go_wp2_with fail
          refine (within_at f fl fm W3).mono ?_
          rintro e' W4 ⟨rfl, hb4⟩
          have N4 := hide (N3.out.later hb4)
          clear q5 d2 d3 hb4
          by_cases c3 : fl ≤ f ∧ f ≤ fm
          · rw [decide_eq_true c3] at HN ⊢
            have C3 := hide c3
            clear c3
            have m0 : W4.cell? ⟨w.heap.size, 0, none⟩ = some (.int .i64 pt) := N4.out.prt 0 (by omega)
            have m1 : W4.cell? ⟨w.heap.size, 1, none⟩ = some (.int .i64 k) := N4.out.prt 1 (by omega)
            have m2 : W4.cell? ⟨w.heap.size, 2, none⟩ = some (.int .i64 d) := N4.out.prt 2 (by omega)
            have m3 : W4.cell? ⟨w.heap.size, 3, none⟩ = some (.int .i64 s) := N4.out.prt 3 (by omega)
            have m4 : W4.cell? ⟨w.heap.size, 4, none⟩ = some (.int .i64 e) := N4.out.prt 4 (by omega)
            have m5 : W4.cell? ⟨w.heap.size, 5, none⟩ = some (.int .i64 f) := N4.out.prt 5 (by omega)
            have o0 : W4.cell? ⟨g6, 0, none⟩ = some (.int .i64 dl) := by rw [cell_of_row _ _ _ _ _ _ N4.out.row, ← HDL.out]; rfl
            have o1 : W4.cell? ⟨g6, 1, none⟩ = some (.int .i64 dm) := by rw [cell_of_row _ _ _ _ _ _ N4.out.row, ← HDL.out]; rfl
            have o2 : W4.cell? ⟨g6, 2, none⟩ = some (.int .i64 fl) := by rw [cell_of_row _ _ _ _ _ _ N4.out.row, ← HDL.out]; rfl
            have o3 : W4.cell? ⟨g6, 3, none⟩ = some (.int .i64 fm) := by rw [cell_of_row _ _ _ _ _ _ N4.out.row, ← HDL.out]; rfl
            have o4 : W4.cell? ⟨g6, 4, none⟩ = some p := by rw [cell_of_row _ _ _ _ _ _ N4.out.row, ← HDL.out]; rfl
            have o5 : W4.cell? ⟨g6, 5, none⟩ = some g := by rw [cell_of_row _ _ _ _ _ _ N4.out.row, ← HDL.out]; rfl
            have hr1 : r = true := by rw [← HN]; rfl
            have HR1 := hide hr1
            clear HN hr1
            go_wp2_with (first
              | (refine wpList_built rfl 60 _ rfl #[.pointer none, .int .i64 pt, .int .i64 k, .int .i64 d, .int .i64 s, .int .i64 e, .int .i64 f, .int .i64 dl, .int .i64 dm, .int .i64 fl, .int .i64 fm, p, g, .slice none 0 0, .bool false] (by kernel_rfl) ?_))
            refine (made_at pt k d s e f dl dm fl fm p g (.slice none 0 0) false W4).mono ?_
            rintro e' W5 ⟨rfl, hr5, hz5, hb5⟩
            have R5 := hide hr5
            have N5 := hide (N4.out.later hb5)
            clear hr5 hb5 m0 m1 m2 m3 m4 m5 o0 o1 o2 o3 o4 o5
            go_wp2
            go_ret2
            exact ⟨⟨fun _ => ⟨W4.heap.size, rfl, by have := N4.out.siz; omega, R5.out⟩, fun h => (by rw [HR1.out] at h; cases h)⟩, N5.out.bel⟩
          · rw [decide_eq_false c3] at HN ⊢
            have hr1 : r = false := by rw [← HN]; simp
            have HR1 := hide hr1
            clear HN hr1 c3
            go_wp2
            go_ret2
            exact ⟨⟨fun h => (by rw [HR1.out] at h; cases h), fun _ => rfl⟩, N4.out.bel⟩
        · rw [decide_eq_false c2] at HN ⊢
          have hr1 : r = false := by rw [← HN]; simp
          have HR1 := hide hr1
          clear HN hr1 c2
          go_wp2
          go_ret2
          exact ⟨⟨fun h => (by rw [HR1.out] at h; cases h), fun _ => rfl⟩, N3.out.bel⟩
      · rw [decide_eq_false c1] at HN ⊢
        have hr1 : r = false := by rw [← HN]; simp
        have HR1 := hide hr1
        clear HN hr1 c1
        go_wp2
        go_ret2
        exact ⟨⟨fun h => (by rw [HR1.out] at h; cases h), fun _ => rfl⟩, N2.out.bel⟩
end Go.Proofs.Ytdimllmbalponaa
