/-
  The first message of a box, if it is fresh.
-/
import Derived.Test.YtdimllmbalponaaFirst
import Derived.Test.YtdimllmbalponaaFactsIn
namespace Go.Proofs.Ytdimllmbalponaa
open Go.RowKit Go.Shelf
attribute [local go_sem] Oper.semAt_some
set_option linter.unusedVariables false

/-- the two parameters' boxes -/
structure PB (w : World) (b : Nat) (z' : Int) (w0 : World) : Prop where
  bel : Below w.heap.size w w0
  r2 : w0.heap[w.heap.size]? = some (.cells #[.pointer (some ⟨b, 0, none⟩)] 25 (0, 0))
  r3 : w0.heap[w.heap.size + 1]? = some (.cells #[.int .i64 z'] 3 (0, 0))
  siz : w0.heap.size = w.heap.size + 2

/-- facts that are values -/
def cF (N : Nat) (V : Nat → Value) (j : Nat) (vals : Nat → Value) (_ : World) : Prop := N ≤ j ∨ vals j = V j
def cM (N j : Nat) : List Nat := if N ≤ j then [] else [j]
theorem cF_sup {N : Nat} {V : Nat → Value} : ∀ j vals vals' W, (∀ i ∈ cM N j, vals i = vals' i) → cF N V j vals W → cF N V j vals' W := by
  intro j vals vals' W h hF
  rcases hF with hF | hF
  · exact .inl hF
  · by_cases h1 : N ≤ j
    · exact .inl h1
    · unfold cM at h
      rw [if_neg h1] at h
      exact .inr (by rw [← h j (by simp)]; exact hF)
theorem cM_mb {N : Nat} {B : Nat → Nat → Bool} : ∀ j k, k ∈ cM N j → k ≠ j → B j k = true := by
  intro j i hi hij
  unfold cM at hi
  split at hi
  · cases hi
  · exact absurd (List.mem_singleton.1 hi) hij
def frV (b q : Nat) (z z' fr : Int) (old : Bool) (j : Nat) : Value :=
  match j with
  | 0 => .int .i64 z'
  | 1 => .pointer (some ⟨q, 1, none⟩)
  | 2 => .int .i64 z
  | 3 => .int .i64 (z' - z)
  | 4 | 5 => .pointer (some ⟨b, 0, none⟩)
  | 6 => .pointer (some ⟨b, 1, none⟩)
  | 7 => .pointer (some ⟨b, 6, none⟩)
  | 8 => .int .i64 fr
  | 9 => .bool old
  | _ => undef

set_option maxRecDepth 100000 in
set_option maxHeartbeats 1000000 in
theorem fresh_some (b h n cap sz c : Nat) (ad : Addr) (z z' : Int) (bts : List Nat) (w : World) (hn : 0 < n) (hh : w.cell? ⟨b, 13, none⟩ = some (.slice (some ⟨h, 0, none⟩) n cap))
    (h0 : w.cell? ⟨h, 0, none⟩ = some (.slice (some ad) sz c)) (h1 : w.cell? ⟨h, 1, none⟩ = some (.int .i64 z)) (hs : bts.length = sz) (hm : sz ≤ 1000000) (fr : Int) (hfr : w.cell? ⟨b, 6, none⟩ = some (.int .i64 fr)) (hwr : IntKind.i64.wrap (z' - z) = z' - z) (old : Bool) (hold : decide (fr ≤ z' - z) = old) (hby : Bytes w (some ad) bts) :
    Calls Try.prog 27 #[.pointer (some ⟨b, 0, none⟩), .int .i64 z'] w fun e w' => ((old = true ∧ e = .returned (.tuple #[.slice none 0 0, .int .i64 43])) ∨ (old = false ∧ ∃ g c', e = .returned (.tuple #[.slice (some ⟨g, 0, none⟩) sz c', .int .i64 0]) ∧ OwnS w' w.heap.size g sz c' bts)) ∧ Below w.heap.size w w' := by
  have hz := (zero_of_info info_msg).1
  have hbl : b < w.heap.size := World.block_lt_of_cell? w _ hh
  have hhl : h < w.heap.size := World.block_lt_of_cell? w _ h0
  refine calls_of_wp_marks Try.func27 rfl ?_
  simp only [Try.ntmps27, List.size_toArray, List.length_cons, List.length_nil, Nat.reduceAdd, Nat.reduceSub, Array.replicate_succ, Array.replicate_zero, List.push_toArray, List.append_toArray, List.nil_append, List.cons_append]
  go_wp2_with fail
  have PB0 := hide (show PB w b z' ((w.alloc (.cells #[.pointer (some ⟨b, 0, none⟩)] 25)).alloc (.cells #[.int .i64 z'] 3)) from ⟨(bal w _).alloc (by simp) _, heap_alloc2_old w _ _, heap_alloc2_new w _ _, by simp⟩)
  obtain ⟨w0, hw0⟩ : ∃ w0, ((w.alloc (.cells #[.pointer (some ⟨b, 0, none⟩)] 25)).alloc (.cells #[.int .i64 z'] 3)) = w0 := ⟨_, rfl⟩
  rw [hw0] at PB0 ⊢
  have e0 : w.heap.size + 1 + 1 = w0.heap.size := PB0.out.siz.symm
  rw [e0]
  have z0 : w.heap.size + 2 = w0.heap.size := e0
  clear hw0
  have F1 := hide (show FB w0 (.slice none 0 0) 0 ((w0.alloc (.cells #[.slice none 0 0] 37)).alloc (.cells #[.int .i64 0] 26)) from ⟨(bal w0 _).alloc (by simp) _, heap_alloc2_old w0 _ _, heap_alloc2_new w0 _ _, by simp⟩)
  generalize ((w0.alloc (.cells #[.slice none 0 0] 37)).alloc (.cells #[.int .i64 0] 26)) = w1 at F1 ⊢
  refine (messages_at b w1).mono ?_
  rintro e w2 ⟨rfl, hw2⟩
  have F2 := hide (show FB w0 (.slice none 0 0) 0 w2 from F1.out.later (by rw [hw2]; exact (bal w1 _).mono F1.out.siz))
  have hB : w2.cell? ⟨w1.heap.size, 0, none⟩ = some (.pointer (some ⟨b, 0, none⟩)) := by rw [hw2, cell_of_row _ _ _ _ _ _ (heap_alloc_new w1 _)]; rfl
  have hB1 : w1.heap.size < w2.heap.size := by rw [hw2]; simp
  clear hw2
  go_wp2_with fail
  refine wp_range2 (g := .tmp 8) rfl (enters_of Try.func40 (by kernel_rfl) rfl) ?_
  rintro W0 rec hl hD hb0 hz0 hst _ htm hps has hbo
  have F3 := hide (F2.out.later (hb0.mono F2.out.siz))
  have hsz2 := F2.out.siz
  have hbw : Below w.heap.size w W0 := PB0.out.bel.trans (F3.out.bel.mono (by omega))
  have hB0 := (bcl hb0 (by omega)).trans hB
  have hh0 := (bcl hbw hbl).trans hh
  have h00 := (bcl hbw hhl).trans h0
  have h10 := (bcl hbw hhl).trans h1
  refine messages1_first 1 _ _ b h n cap sz c ad z bts W0 _ hn hB0 hh0 h00 h10 hs hm (hby.of_below hbw (Nat.le_refl _)) ?_
  intro W1 g' c' hb1 ho
  have hl1 := (hb1.block (w2.heap.size + 1) (by omega)).trans hl
  have hD1 := (hb1.block w2.heap.size (by omega)).trans hD
  have F4 := hide (F3.out.later (hb1.mono (by omega)))
  have hz1 := hb1.size
  refine yield_at hl1 (by rw [hps]; rfl) ?_
  rw [has, hps, htm]
  have HL := hide hl1; have HD := hide hD1; have HO := hide ho; have HBO := hide hbo; have HST := hide hst
  have HF := hide hfr; have HW := hide hwr; have HOLD := hide hold
  clear hl hD hl1 hD1 ho hbo hst htm hps has hB0 hh0 h00 h10 hbw hb1 hb0 F3 F2 F1 hB hh h0 h1 hby hfr hwr hold
  gi_wp2
  have hll : w2.heap.size + 1 < W1.heap.size := by omega
  refine ⟨rec, (heap_alloc_old W1 _ hll).trans HL.out, HST.out, ?_⟩
  have hput : ∀ k, k ≠ w2.heap.size + 1 → k < W1.heap.size → ((W1.alloc (.cells #[.slice (some ⟨g', 0, none⟩) sz c', .int .i64 z] 76)).putObj (w2.heap.size + 1) (.loop { rec with state := .busy })).heap[k]? = W1.heap[k]? :=
    fun k h1 h2 => (World.putObj_heap_other h1).trans (heap_alloc_old W1 _ h2)
  have F5 := hide ((F4.out.later (by exact (bal W1 (.cells #[.slice (some ⟨g', 0, none⟩) sz c', .int .i64 z] 76)).mono (by omega))).put (l := w2.heap.size + 1) (by omega) (.loop { rec with state := .busy }))
  have HL2 := hide (World.putObj_heap_same (w := W1.alloc (.cells #[.slice (some ⟨g', 0, none⟩) sz c', .int .i64 z] 76)) (r := w2.heap.size + 1) (o := .loop { rec with state := .busy }) (by simp; omega))
  have HD2 := hide ((hput w2.heap.size (by omega) (by omega)).trans HD.out)
  have HO2 := hide (HO.out.kept (hput g' (by have := HO.out.base; omega) HO.out.blk))
  have cm : ((W1.alloc (.cells #[.slice (some ⟨g', 0, none⟩) sz c', .int .i64 z] 76)).putObj (w2.heap.size + 1) (.loop { rec with state := .busy })).cell? ⟨W1.heap.size, 0, none⟩ = some (.slice (some ⟨g', 0, none⟩) sz c') := by
    rw [World.cell?_of_block (a := ⟨W1.heap.size, 0, none⟩) (World.putObj_heap_other (by show W1.heap.size ≠ w2.heap.size + 1; omega)), cell_of_row _ _ _ _ _ _ (heap_alloc_new W1 _)]; rfl
  have cm1 : ((W1.alloc (.cells #[.slice (some ⟨g', 0, none⟩) sz c', .int .i64 z] 76)).putObj (w2.heap.size + 1) (.loop { rec with state := .busy })).cell? ⟨W1.heap.size, 1, none⟩ = some (.int .i64 z) := by
    rw [World.cell?_of_block (a := ⟨W1.heap.size, 1, none⟩) (World.putObj_heap_other (by show W1.heap.size ≠ w2.heap.size + 1; omega)), cell_of_row _ _ _ _ _ _ (heap_alloc_new W1 _)]; rfl
  generalize ((W1.alloc (.cells #[.slice (some ⟨g', 0, none⟩) sz c', .int .i64 z] 76)).putObj (w2.heap.size + 1) (.loop { rec with state := .busy })) = W2 at F5 HL2 HD2 HO2 cm cm1 ⊢
  rw [HBO.out]
  have hg' : W0.heap.size ≤ g' := HO.out.base
  have p2 : W2.cell? ⟨w.heap.size, 0, none⟩ = some (.pointer (some ⟨b, 0, none⟩)) := by rw [cell_of_row _ _ _ _ _ _ ((F5.out.bel.block w.heap.size (by omega)).trans PB0.out.r2)]; rfl
  have p3 : W2.cell? ⟨w.heap.size + 1, 0, none⟩ = some (.int .i64 z') := by rw [cell_of_row _ _ _ _ _ _ ((F5.out.bel.block (w.heap.size + 1) (by omega)).trans PB0.out.r3)]; rfl
  have pf : W2.cell? ⟨b, 6, none⟩ = some (.int .i64 fr) := (bcl (PB0.out.bel.trans (F5.out.bel.mono (by omega))) hbl).trans HF.out
  have hwr := HW.out
  clear hput HL HD HO HBO HST F4 HF HW
  gi_wp2_with fail
  refine wpIn_region_facts (fun W => W = W2.drewN 1) (cF 10 (frV b W1.heap.size z z' fr old)) (fun _ => 100) (cM 10) (fun j hj => if_pos hj) cM_mb cF_sup (by kernel_rfl) (by kernel_rfl) rfl (fun j hj => .inl hj) ?steps ?fin
  case steps =>
    refine AllFrom.cons (step_isIn (by kernel_rfl) (fun _ _ => rfl) (fun _ => rfl) ?s0) (AllFrom.cons (i := 1) (step_isIn (by kernel_rfl) (fun _ _ => rfl) (fun _ => rfl) ?s1) (AllFrom.cons (i := 2) (step_isIn (by kernel_rfl) (fun _ _ => rfl) (fun _ => rfl) ?s2) (AllFrom.cons (i := 3) (step_isIn (by kernel_rfl) (fun _ _ => rfl) (fun _ => rfl) ?s3) (AllFrom.cons (i := 4) (step_isIn (by kernel_rfl) (fun _ _ => rfl) (fun _ => rfl) ?s4) (AllFrom.cons (i := 5) (step_isIn (by kernel_rfl) (fun _ _ => rfl) (fun _ => rfl) ?s5) (AllFrom.cons (i := 6) (step_isIn (by kernel_rfl) (fun _ _ => rfl) (fun _ => rfl) ?s6) (AllFrom.cons (i := 7) (step_isIn (by kernel_rfl) (fun _ _ => rfl) (fun _ => rfl) ?s7) (AllFrom.cons (i := 8) (step_isIn (by kernel_rfl) (fun _ _ => rfl) (fun _ => rfl) ?s8) (AllFrom.cons (i := 9) (step_isIn (by kernel_rfl) (fun _ _ => rfl) (fun _ => rfl) ?s9) (trivial))))))))))
    case s0 =>
      intro L vals W ρ hI hi hdep hnew hold hc
      obtain rfl : W = _ := hI.com
      have e0 : ρ (.tmp 3) = .pointer (some ⟨w.heap.size + 1, 0, none⟩) := (hold 3 (by kernel_rfl)).trans (by kernel_rfl)
      refine ⟨.int .i64 z', ?_, .inr (by simp [frV, upd])⟩
      simp [execOp, e0, go_sem, p3]
    case s1 =>
      intro L vals W ρ hI hi hdep hnew hold hc
      obtain rfl : W = _ := hI.com
      have e0 : ρ (.tmp 6) = .pointer (some ⟨W1.heap.size, 0, none⟩) := (hold 6 (by kernel_rfl)).trans (by kernel_rfl)
      refine ⟨.pointer (some ⟨W1.heap.size, 1, none⟩), ?_, .inr (by simp [frV, upd])⟩
      simp [execOp, e0, go_sem]
    case s2 =>
      intro L vals W ρ hI hi hdep hnew hold hc
      obtain rfl : W = _ := hI.com
      have e0 : ρ (.tmp 11) = .pointer (some ⟨W1.heap.size, 1, none⟩) := (hnew 1 11 (dep hdep 1 (by kernel_rfl)) (by kernel_rfl) (of_decide_eq_true (by kernel_rfl)) (of_decide_eq_true (by kernel_rfl))).trans ((hI.fact 1 (.inr (dep hdep 1 (by kernel_rfl))) (neverW hI (of_decide_eq_true (by kernel_rfl)))).resolve_left (by omega))
      refine ⟨.int .i64 z, ?_, .inr (by simp [frV, upd])⟩
      simp [execOp, e0, go_sem, cm1]
    case s3 =>
      intro L vals W ρ hI hi hdep hnew hold hc
      obtain rfl : W = _ := hI.com
      have e0 : ρ (.tmp 10) = .int .i64 z' := (hnew 0 10 (dep hdep 0 (by kernel_rfl)) (by kernel_rfl) (of_decide_eq_true (by kernel_rfl)) (of_decide_eq_true (by kernel_rfl))).trans ((hI.fact 0 (.inr (dep hdep 0 (by kernel_rfl))) (neverW hI (of_decide_eq_true (by kernel_rfl)))).resolve_left (by omega))
      have e1 : ρ (.tmp 12) = .int .i64 z := (hnew 2 12 (dep hdep 2 (by kernel_rfl)) (by kernel_rfl) (of_decide_eq_true (by kernel_rfl)) (of_decide_eq_true (by kernel_rfl))).trans ((hI.fact 2 (.inr (dep hdep 2 (by kernel_rfl))) (neverW hI (of_decide_eq_true (by kernel_rfl)))).resolve_left (by omega))
      refine ⟨.int .i64 (z' - z), ?_, .inr (by simp [frV, upd])⟩
      simp [execOp, e0, e1, go_sem, hwr]
    case s4 =>
      intro L vals W ρ hI hi hdep hnew hold hc
      obtain rfl : W = _ := hI.com
      have e0 : ρ (.tmp 2) = .pointer (some ⟨w.heap.size, 0, none⟩) := (hold 2 (by kernel_rfl)).trans (by kernel_rfl)
      refine ⟨.pointer (some ⟨b, 0, none⟩), ?_, .inr (by simp [frV, upd])⟩
      simp [execOp, e0, go_sem, p2]
    case s5 =>
      intro L vals W ρ hI hi hdep hnew hold hc
      obtain rfl : W = _ := hI.com
      have e0 : ρ (.tmp 14) = .pointer (some ⟨b, 0, none⟩) := (hnew 4 14 (dep hdep 4 (by kernel_rfl)) (by kernel_rfl) (of_decide_eq_true (by kernel_rfl)) (of_decide_eq_true (by kernel_rfl))).trans ((hI.fact 4 (.inr (dep hdep 4 (by kernel_rfl))) (neverW hI (of_decide_eq_true (by kernel_rfl)))).resolve_left (by omega))
      refine ⟨.pointer (some ⟨b, 0, none⟩), ?_, .inr (by simp [frV, upd])⟩
      simp [execOp, e0, go_sem]
    case s6 =>
      intro L vals W ρ hI hi hdep hnew hold hc
      obtain rfl : W = _ := hI.com
      have e0 : ρ (.tmp 15) = .pointer (some ⟨b, 0, none⟩) := (hnew 5 15 (dep hdep 5 (by kernel_rfl)) (by kernel_rfl) (of_decide_eq_true (by kernel_rfl)) (of_decide_eq_true (by kernel_rfl))).trans ((hI.fact 5 (.inr (dep hdep 5 (by kernel_rfl))) (neverW hI (of_decide_eq_true (by kernel_rfl)))).resolve_left (by omega))
      refine ⟨.pointer (some ⟨b, 1, none⟩), ?_, .inr (by simp [frV, upd])⟩
      simp [execOp, e0, go_sem]
    case s7 =>
      intro L vals W ρ hI hi hdep hnew hold hc
      obtain rfl : W = _ := hI.com
      have e0 : ρ (.tmp 16) = .pointer (some ⟨b, 1, none⟩) := (hnew 6 16 (dep hdep 6 (by kernel_rfl)) (by kernel_rfl) (of_decide_eq_true (by kernel_rfl)) (of_decide_eq_true (by kernel_rfl))).trans ((hI.fact 6 (.inr (dep hdep 6 (by kernel_rfl))) (neverW hI (of_decide_eq_true (by kernel_rfl)))).resolve_left (by omega))
      refine ⟨.pointer (some ⟨b, 6, none⟩), ?_, .inr (by simp [frV, upd])⟩
      simp [execOp, e0, go_sem]
    case s8 =>
      intro L vals W ρ hI hi hdep hnew hold hc
      obtain rfl : W = _ := hI.com
      have e0 : ρ (.tmp 17) = .pointer (some ⟨b, 6, none⟩) := (hnew 7 17 (dep hdep 7 (by kernel_rfl)) (by kernel_rfl) (of_decide_eq_true (by kernel_rfl)) (of_decide_eq_true (by kernel_rfl))).trans ((hI.fact 7 (.inr (dep hdep 7 (by kernel_rfl))) (neverW hI (of_decide_eq_true (by kernel_rfl)))).resolve_left (by omega))
      refine ⟨.int .i64 fr, ?_, .inr (by simp [frV, upd])⟩
      simp [execOp, e0, go_sem, pf]
    case s9 =>
      intro L vals W ρ hI hi hdep hnew hold hc
      obtain rfl : W = _ := hI.com
      have e0 : ρ (.tmp 13) = .int .i64 (z' - z) := (hnew 3 13 (dep hdep 3 (by kernel_rfl)) (by kernel_rfl) (of_decide_eq_true (by kernel_rfl)) (of_decide_eq_true (by kernel_rfl))).trans ((hI.fact 3 (.inr (dep hdep 3 (by kernel_rfl))) (neverW hI (of_decide_eq_true (by kernel_rfl)))).resolve_left (by omega))
      have e1 : ρ (.tmp 18) = .int .i64 fr := (hnew 8 18 (dep hdep 8 (by kernel_rfl)) (by kernel_rfl) (of_decide_eq_true (by kernel_rfl)) (of_decide_eq_true (by kernel_rfl))).trans ((hI.fact 8 (.inr (dep hdep 8 (by kernel_rfl))) (neverW hI (of_decide_eq_true (by kernel_rfl)))).resolve_left (by omega))
      refine ⟨.bool old, ?_, .inr (by simp [frV, upd])⟩
      simp [execOp, e0, e1, go_sem, HOLD.out]
  intro vals W hC hF
  obtain rfl : W = _ := hC
  have f9 : vals 9 = .bool old := (hF 9 (of_decide_eq_true (by kernel_rfl)) (of_decide_eq_true (by kernel_rfl))).resolve_left (by omega)
  simp [canon, dstOf, Act.put, f9]
  clear hF
  have F5' := hide (show FB w0 (.slice none 0 0) 0 (W2.drewN 1) from F5.out.later (below_drewN (Below.refl _ _) 1))
  clear p2 p3 pf cm1
  have HL2' := hide (show (W2.drewN 1).heap[w2.heap.size + 1]? = _ from HL2.out)
  have HD2' := hide (show (W2.drewN 1).heap[w2.heap.size]? = _ from HD2.out)
  have HO2' := hide (HO2.out.kept (w' := W2.drewN 1) rfl)
  have cm' : (W2.drewN 1).cell? ⟨W1.heap.size, 0, none⟩ = some (.slice (some ⟨g', 0, none⟩) sz c') := cm
  clear F5 HL2 HD2 HO2 cm
  generalize W2.drewN 1 = W3 at F5' HL2' HD2' HO2' cm' ⊢
  obtain ⟨q40, q41⟩ := F5'.out.c4
  clear f9
  rcases old with _ | _
  · obtain ⟨q50, q51⟩ := (F5'.out.set4 (.slice (some ⟨g', 0, none⟩) sz c')).c5
    have F6 := hide ((F5'.out.set4 (.slice (some ⟨g', 0, none⟩) sz c')).set5 0)
    have hk : ∀ k, w0.heap.size + 2 ≤ k → ((W3.setCell ⟨w0.heap.size, 0, none⟩ (.slice (some ⟨g', 0, none⟩) sz c')).setCell ⟨w0.heap.size + 1, 0, none⟩ (.int .i64 0)).heap[k]? = W3.heap[k]? :=
      fun k h => (heap_setCell_other _ _ _ _ (by show k ≠ w0.heap.size + 1; omega)).trans (heap_setCell_other _ _ _ _ (by show k ≠ w0.heap.size; omega))
    have HL6 := hide ((hk (w2.heap.size + 1) (by omega)).trans HL2'.out)
    have HD6 := hide ((hk w2.heap.size (by omega)).trans HD2'.out)
    have HO6 := hide (HO2'.out.kept (hk g' (by omega)))
    clear hk F5' HL2' HD2' HO2'
    gi_wp2
    generalize ((W3.setCell ⟨w0.heap.size, 0, none⟩ (.slice (some ⟨g', 0, none⟩) sz c')).setCell ⟨w0.heap.size + 1, 0, none⟩ (.int .i64 0)) = W6 at F6 HL6 HD6 HO6 ⊢
    refine ⟨some .ret, { rec with state := .busy }, rfl, HL6.out, rfl, fun v => ⟨⟨v, rfl⟩, { rec with state := .done, pending := some .ret }, World.putObj_heap_same (Array.getElem?_eq_some_iff.1 HL6.out).1, (by simp), ?_⟩⟩
    have hlD : w2.heap.size ≠ w2.heap.size + 1 := by omega
    have F7 := hide ((F6.out.put (l := w2.heap.size + 1) (by omega) (.loop { rec with state := .done, pending := some .ret })).put (l := w2.heap.size + 1) (by omega) (.loop { rec with state := .exhausted, pending := some .ret }))
    have HD7 := hide ((World.putObj_heap_other (o := .loop { rec with state := .exhausted, pending := some .ret }) hlD).trans ((World.putObj_heap_other (o := .loop { rec with state := .done, pending := some .ret }) hlD).trans HD6.out))
    have HO7 := hide ((HO6.out.kept (World.putObj_heap_other (o := .loop { rec with state := .done, pending := some .ret }) (by omega : g' ≠ w2.heap.size + 1))).kept (World.putObj_heap_other (o := .loop { rec with state := .exhausted, pending := some .ret }) (by omega : g' ≠ w2.heap.size + 1)))
    clear F6 HL6 HD6 HO6
    go_wp2
    have hgw : g' ≠ w2.heap.size := by omega
    generalize ((W6.putObj (w2.heap.size + 1) (.loop { rec with state := .done, pending := some .ret })).putObj (w2.heap.size + 1) (.loop { rec with state := .exhausted, pending := some .ret })) = W7 at F7 HD7 HO7 ⊢
    have F8 := F7.out.put (l := w2.heap.size) (by omega) (.deferred none)
    have HO8 := HO7.out.kept (World.putObj_heap_other (o := .deferred none) hgw)
    have c4 := F8.c4.1; have c5 := F8.c5.1
    refine marks_done HD7.out (v := .tuple #[.slice (some ⟨g', 0, none⟩) sz c', .int .i64 0]) ?_ ⟨⟨g', c', rfl, HO8.from (by omega)⟩, PB0.out.bel.trans (F8.bel.mono (by omega))⟩
    simp [results, Try.results27, go_sem, asAddr, c4, c5]
  · obtain ⟨q50, q51⟩ := (F5'.out.set4 (.slice none 0 0)).c5
    have F6 := hide ((F5'.out.set4 (.slice none 0 0)).set5 43)
    have hk : ∀ k, w0.heap.size + 2 ≤ k → ((W3.setCell ⟨w0.heap.size, 0, none⟩ (.slice none 0 0)).setCell ⟨w0.heap.size + 1, 0, none⟩ (.int .i64 43)).heap[k]? = W3.heap[k]? :=
      fun k h => (heap_setCell_other _ _ _ _ (by show k ≠ w0.heap.size + 1; omega)).trans (heap_setCell_other _ _ _ _ (by show k ≠ w0.heap.size; omega))
    have HL6 := hide ((hk (w2.heap.size + 1) (by omega)).trans HL2'.out)
    have HD6 := hide ((hk w2.heap.size (by omega)).trans HD2'.out)
    have HO6 := hide (HO2'.out.kept (hk g' (by omega)))
    clear hk F5' HL2' HD2' HO2'
    gi_wp2
    generalize ((W3.setCell ⟨w0.heap.size, 0, none⟩ (.slice none 0 0)).setCell ⟨w0.heap.size + 1, 0, none⟩ (.int .i64 43)) = W6 at F6 HL6 HD6 HO6 ⊢
    refine ⟨some .ret, { rec with state := .busy }, rfl, HL6.out, rfl, fun v => ⟨⟨v, rfl⟩, { rec with state := .done, pending := some .ret }, World.putObj_heap_same (Array.getElem?_eq_some_iff.1 HL6.out).1, (by simp), ?_⟩⟩
    have hlD : w2.heap.size ≠ w2.heap.size + 1 := by omega
    have F7 := hide ((F6.out.put (l := w2.heap.size + 1) (by omega) (.loop { rec with state := .done, pending := some .ret })).put (l := w2.heap.size + 1) (by omega) (.loop { rec with state := .exhausted, pending := some .ret }))
    have HD7 := hide ((World.putObj_heap_other (o := .loop { rec with state := .exhausted, pending := some .ret }) hlD).trans ((World.putObj_heap_other (o := .loop { rec with state := .done, pending := some .ret }) hlD).trans HD6.out))
    have HO7 := hide ((HO6.out.kept (World.putObj_heap_other (o := .loop { rec with state := .done, pending := some .ret }) (by omega : g' ≠ w2.heap.size + 1))).kept (World.putObj_heap_other (o := .loop { rec with state := .exhausted, pending := some .ret }) (by omega : g' ≠ w2.heap.size + 1)))
    clear F6 HL6 HD6 HO6
    go_wp2
    have hgw : g' ≠ w2.heap.size := by omega
    generalize ((W6.putObj (w2.heap.size + 1) (.loop { rec with state := .done, pending := some .ret })).putObj (w2.heap.size + 1) (.loop { rec with state := .exhausted, pending := some .ret })) = W7 at F7 HD7 HO7 ⊢
    have F8 := F7.out.put (l := w2.heap.size) (by omega) (.deferred none)
    have HO8 := HO7.out.kept (World.putObj_heap_other (o := .deferred none) hgw)
    have c4 := F8.c4.1; have c5 := F8.c5.1
    refine marks_done HD7.out (v := .tuple #[.slice none 0 0, .int .i64 43]) ?_ ⟨rfl, PB0.out.bel.trans (F8.bel.mono (by omega))⟩
    simp [results, Try.results27, go_sem, asAddr, c4, c5]
end Go.Proofs.Ytdimllmbalponaa
