/-
  Runs: numbers that follow one another.
-/
import Derived.Test.YtklkndnikcjbhaaDoorBtE
namespace Go.Proofs.YtklkndnikcjbhaaDoor
open Go.RowKit Go.Shelf
attribute [local go_sem] Oper.semAt_some
set_option linter.unusedVariables false
set_option linter.unusedSimpArgs false

theorem info_span : (Tryd.prog.info? 49).map (fun i => (i.zero, i.size, i.bytes)) = some (some (.agg #[.int .i64 0, .int .i64 0]), 2, 16) := by kernel_rfl
theorem under_spans : Tryd.prog.underlying 27 = some (.slice 49) := Tryd.underlying27
def spC (l : List (Nat × Nat)) : List Value := l.flatMap fun p => [Value.int .i64 (p.1 : Int), Value.int .i64 (p.2 : Int)]
theorem spC_snoc (l : List (Nat × Nat)) (p : Nat × Nat) : spC (l ++ [p]) = spC l ++ [Value.int .i64 (p.1 : Int), Value.int .i64 (p.2 : Int)] := by simp [spC]
/-- spans of one's own -/
abbrev OwnP (W : World) (B : Nat) (h : Value) (l : List (Nat × Nat)) : Prop := W.ownsRow B 49 2 h l.length (spC l)
def valsN {s : Nat} (pre : List (ME s)) : List Nat := pre.map (·.1)
theorem valsN_snoc {s : Nat} (pre : List (ME s)) (x : ME s) : valsN (pre ++ [x]) = valsN pre ++ [x.1] := by simp [valsN]
theorem valsN_all (s : Nat) : valsN (meL s) = mem s := meL_val s
def RunsOf (s : Nat) (fs : List Nat) (L : List (Nat × Nat)) : Prop := L.map (·.1) = fs ∧ ∀ p ∈ L, RunAt s p
theorem RunsOf.snoc {s f t : Nat} {fs : List Nat} {L : List (Nat × Nat)} (h : RunsOf s fs L) (hr : RunAt s (f, t)) : RunsOf s (fs ++ [f]) (L ++ [(f, t)]) := by
  refine ⟨by rw [List.map_append, h.1]; rfl, fun p hp => ?_⟩
  rcases List.mem_append.1 hp with h' | h'
  · exact h.2 p h'
  · obtain rfl := List.mem_singleton.1 h'
    exact hr
/-- of each first one there is a run -/
theorem run_of {s x f : Nat} (hs : s < 2 ^ 64) (hx : ∀ i, i < 64 → x.testBit i = fst1 s i) (hf : f ∈ mem x) : ∃ t, RunAt s (f, t) ∧ t ≤ 64 := by
  rw [← runsF_fst hs hx] at hf
  obtain ⟨p, hp, rfl⟩ := List.mem_map.1 hf
  exact ⟨p.2, (runsF_at hp).1, (runsF_at hp).2⟩
theorem hasB_run {s f t k : Nat} (h : RunAt s (f, t)) (ht : t ≤ 64) (h1 : f ≤ k) (h2 : k < t) : hasB s (k : Int) = true := by
  have hb := h.all k h1 h2
  unfold hasB numB
  rw [Int.toNat_natCast, hb, decide_eq_true (by omega)]; rfl
theorem hasB_end {s f t : Nat} (h : RunAt s (f, t)) : hasB s (t : Int) = false := by
  have hb : s.testBit t = false := h.no
  unfold hasB
  rw [Int.toNat_natCast, hb, Bool.and_false]

structure RnsW (w W : World) (s : Nat) (L : List (Nat × Nat)) : Prop where
  bel : Below w.heap.size w W
  box : W.heap[w.heap.size]? = some (.cells #[.int .u64 s] 22 (0, 0))
  row : ∃ h, W.heap[w.heap.size + 1]? = some (.cells #[h] 27 (0, 0)) ∧ OwnP W (w.heap.size + 2) h L
theorem RnsW.from {w A B : World} {s : Nat} {L : List (Nat × Nat)} {C : Nat} {row : Option Nat} (hs : RnsW w A s L) (hg : A.grownBy B row) (hr : ∀ r, row = some r → C ≤ r ∧ ∃ o : Obj, A.heap[r]? = some o ∧ o.isCells = false) (hC : w.heap.size ≤ C) : RnsW w B s L := by
  obtain ⟨h, h1, h2⟩ := hs.row
  exact ⟨hs.bel.grown hg hs.bel.size fun k hk => by have := (hr k hk).1; omega, row_kept hs.box hg hr, h, row_kept h1 hg hr, own_kept h2 hg hr⟩

set_option maxRecDepth 100000 in
set_option maxHeartbeats 2000000 in
theorem runs_any (s : Nat) (hs : s < 18446744073709551616) (w : World) (hT : Tz w) :
    Calls Tryd.prog 14 #[.int .u64 s] w fun e w' => ∃ h, e = .returned h ∧ OwnP w' w.heap.size h (runsF s) ∧ Below w.heap.size w w' := by
  have HT := hide hT
  obtain ⟨x, hx⟩ : ∃ x, x = s &&& (18446744073709551615 - s * 2 % 18446744073709551616) := ⟨_, rfl⟩
  have hxb : ∀ i, i < 64 → x.testBit i = fst1 s i := fun i hi => by rw [hx]; exact first_bit i hi
  have hxl : x < 18446744073709551616 := by rw [hx]; exact Nat.lt_of_le_of_lt Nat.and_le_left hs
  have e2 : bits .andNot .u64 (s : Int) (IntKind.u64.wrap ((s : Int) * 2)) = (x : Int) := by
    rw [hx, show IntKind.u64.wrap ((s : Int) * 2) = ((s * 2 % 18446744073709551616 : Nat) : Int) by rw [IntKind.wrap_u64]; omega]
    exact u64_andNot_nat s (s * 2 % 18446744073709551616) hs (by omega)
  have HXB := hide hxb
  have HFIN := hide (fun L (h : RunsOf s (mem x) L) => runs_once (m := runsF s) h.2 (fun p hp => (runsF_at hp).1) (h.1.trans (runsF_fst hs hxb).symm))
  clear hx hxb
  refine calls_of_wp_marks Tryd.func14 rfl ?_
  simp only [Tryd.ntmps14, List.size_toArray, List.length_cons, List.length_nil, Nat.reduceAdd, Nat.reduceSub, Array.replicate_succ, Array.replicate_zero, List.push_toArray, List.append_toArray, List.nil_append, List.cons_append]
  go_wp2_with fail
  go_step3
  go_wp2_with fail
  go_step3
  have hI : RnsW w ((w.alloc (.cells #[.int .u64 s] 22)).alloc (.cells #[.slice none 0 0] 27)) s [] :=
    ⟨(bal w _).alloc (by simp) _, heap_alloc2_old w _ _, .slice none 0 0, heap_alloc2_new w _ _, World.ownsRow_nil _ _ _ _⟩
  have hz : w.heap.size + 2 ≤ ((w.alloc (.cells #[.int .u64 s] 22)).alloc (.cells #[.slice none 0 0] 27)).heap.size := by simp
  generalize (w.alloc (.cells #[.int .u64 s] 22)).alloc (.cells #[.slice none 0 0] 27) = w1 at hI hz ⊢
  go_wp2_with fail
  refine (members_at x _).mono ?_
  rintro e w2 ⟨rfl, rfl⟩
  have hT2 : Tz (w1.alloc (.cells #[.int .u64 x] 22)) := hT.below (hI.bel.alloc hI.bel.size _) hT.lt
  have hS2 : (w1.alloc (.cells #[.int .u64 x] 22)).cell? ⟨w1.heap.size, 0, none⟩ = some (.int .u64 x) := by rw [cell_of_row _ _ _ _ _ _ (heap_alloc_new w1 _)]; rfl
  have hz2 : w1.heap.size + 1 ≤ (w1.alloc (.cells #[.int .u64 x] 22)).heap.size := by simp
  have hI2 : RnsW w (w1.alloc (.cells #[.int .u64 x] 22)) s [] := by
    obtain ⟨h, h1, h2⟩ := hI.row
    exact ⟨hI.bel.alloc hI.bel.size _, (heap_alloc_old _ _ (by omega)).trans hI.box, h, (heap_alloc_old _ _ (by omega)).trans h1, own_below h2 (bal _ _) (Nat.le_refl _)⟩
  clear hI
  go_wp2_with fail
  generalize w1.alloc (.cells #[.int .u64 x] 22) = w2 at hT2 hS2 hz2 hI2 ⊢
  refine' wp_mem x w1.heap.size hxl rfl (by omega) hS2 hT2 rfl
    (fun pre W => ∃ L, RunsOf s (valsN pre) L ∧ RnsW w W s L)
    (fun j pre W => False)
    (fun s A B row hs hg hr => let ⟨L, a, b⟩ := hs; ⟨L, a, b.from hg hr (by omega)⟩)
    (fun j s A B row hs hg hr => hs)
    ⟨[], ⟨rfl, fun p hp => by cases hp⟩, hI2⟩ _ ?assign ?body ?done ?stop
  case assign =>
    intro l x W K hK
    gi_wp2
    exact hK
  case body =>
    rintro l pre ⟨m, hm⟩ W ⟨L, hL, hG⟩ hlen
    dsimp only at hm ⊢
    obtain ⟨t, hrun, ht⟩ := run_of hs HXB.out hm
    have hmt : m < t := hrun.lt
    have HL := hide hL
    have HR := hide hrun
    have HLen := hide (show L.length ≤ 64 by
      have := congrArg List.length hL.1
      rw [List.length_map] at this
      have h2 : (valsN pre).length = pre.length := by simp [valsN]
      have := mem_len x
      omega)
    obtain ⟨h, h1, h2⟩ := hG.row
    obtain ⟨A, c, rfl⟩ := own_slice h2
    have hbx : W.cell? ⟨w.heap.size, 0, none⟩ = some (.int .u64 s) := by rw [cell_of_row _ _ _ _ _ _ hG.box]; rfl
    have hbox : W.cell? ⟨w.heap.size + 1, 0, none⟩ = some (.slice A L.length c) := by rw [cell_of_row _ _ _ _ _ _ h1]; rfl
    have HBX := hide hG.box
    have HB := hide hG.bel
    have H1 := hide h1
    have H2 := hide h2
    have hzw := hG.bel.size
    have hlo : w.heap.size + 1 < W.heap.size := (Array.getElem?_eq_some_iff.1 H1.out).1
    clear hL hG h1 h2 hT2 hS2 hI2 hlen hT hrun e2
    gi_wp2_with fail
    gi_loopw [6] (fun i wr => ∃ k : Nat, m < k ∧ k ≤ t ∧ i = .int .i64 k ∧ wr = W) (fun i _ => 64 - (intOf i).toNat)
    case atStart => exact ⟨m + 1, by omega, by omega, by go_num, rfl⟩
    case round =>
      obtain ⟨k, hk1, hk2, rfl, rfl⟩ := hrel
      by_cases hlt : k < t
      · have HH := hide (hasB_run HR.out ht (by omega) hlt)
        gi_wp2_with fail
        refine ⟨trivial, rfl, (CallsIn.inRound l (callsIn_wide.2 (has_at s hs _ _))).mono ?_⟩
        rintro e w' ⟨rfl, rfl⟩
        rw [HH.out]
        gi_wp2_with fail
        go_roundw
        case rel => exact ⟨k + 1, by omega, by omega, by go_num, trivial⟩
        case measure => simp [intOf]; omega
      · obtain rfl : k = t := by omega
        have HH := hide (hasB_end HR.out)
        have hlen2 := HLen.out
        gi_wp2_with fail
        refine ⟨trivial, rfl, (CallsIn.inRound l (callsIn_wide.2 (has_at s hs _ _))).mono ?_⟩
        rintro e w' ⟨rfl, rfl⟩
        rw [HH.out]
        gi_wp2_with (first
          | (gi_at_builtin
             refine wpListIn_one _ rfl _ _ 27 rfl 49 (.agg #[.int .i64 0, .int .i64 0]) 2 16 under_spans info_span rfl (by decide) (by decide) (w.heap.size + 2) _ _ _ rfl (own_below H2.out (bal wr _) (Nat.le_refl _)) _ _ [.int .i64 (m : Int), .int .i64 (k : Int)] rfl (heap_alloc_new wr _) rfl (by simp [Value.oneCell']) (by omega) (by simp; omega) ?_
             intro v' w4 hown4 hgr4 hwh
             obtain ⟨A4, c4, rfl⟩ := own_slice hown4
             have HO4 := hide hown4
             have HG4 := hide hgr4
             have hne : ∀ j, j < w.heap.size + 2 → some j ≠ (Value.slice A L.length c).ownBlock := fun j hj e => by
               have := (own_block H2.out e.symm).2.1
               omega
             have hb4 : w4.heap[w.heap.size + 1]? = some (.cells #[.slice A L.length c] 27 (0, 0)) := (hgr4.block _ (by simp; omega) (hne _ (by omega))).trans ((heap_alloc_old wr _ hlo).trans H1.out)
             have HBX4 := hide (show w4.heap[w.heap.size]? = some (.cells #[.int .u64 s] 22 (0, 0)) from (hgr4.block _ (by simp; omega) (hne _ (by omega))).trans ((heap_alloc_old wr _ (by omega)).trans HBX.out))
             have HB4 := hide hb4
             have cs4 : w4.cell? ⟨w.heap.size + 1, 0, none⟩ = some (.slice A L.length c) := by rw [cell_of_row _ _ _ _ _ _ hb4]; rfl
             have fs4 : w4.frozen? ⟨w.heap.size + 1, 0, none⟩ = false := by simp [World.frozen?, hb4]
             clear hown4 hgr4 hwh hb4 hne))
        have hb5 : Below w.heap.size w w4 := below_own (HB.out.alloc hzw _) (own_below H2.out (bal wr (.cells #[.int .i64 (m : Int), .int .i64 (k : Int)] 49)) (Nat.le_refl _)) HG4.out (by omega) (by simp; omega)
        have hb6 : Below w.heap.size w (w4.setCell ⟨w.heap.size + 1, 0, none⟩ (.slice A4 (L.length + 1) c4)) := hb5.setCell (p := ⟨w.heap.size + 1, 0, none⟩) (by show w.heap.size ≤ w.heap.size + 1; omega) _
        refine ⟨((KeepsOthers.alloc wr _).trans (keeps_own (own_below H2.out (bal wr (.cells #[.int .i64 (m : Int), .int .i64 (k : Int)] 49)) (Nat.le_refl _)) HG4.out)).trans (KeepsOthers.setCell _ _ _), fun _ => HT.out.below hb6 HT.out.lt, L ++ [(m, k)], by rw [valsN_snoc]; exact HL.out.snoc HR.out, hb6, (setCell_other (by omega)).trans HBX4.out, .slice A4 (L.length + 1) c4, set_cells HB4.out, ?_⟩
        have hO := own_stands HO4.out (W' := w4.setCell ⟨w.heap.size + 1, 0, none⟩ (.slice A4 (L.length + 1) c4)) fun j hj => setCell_other (by have := (own_block HO4.out hj).2.1; omega)
        show World.ownsRow _ _ _ _ _ _ _
        rw [spC_snoc, List.length_append]
        exact hO
  case done =>
    rintro D W hD ⟨L, hL, hG⟩ hK
    rw [valsN_all] at hL
    have HE := hide (HFIN.out L hL)
    obtain ⟨h, h1, h2⟩ := hG.row
    obtain ⟨A, c, rfl⟩ := own_slice h2
    have hbox : W.cell? ⟨w.heap.size + 1, 0, none⟩ = some (.slice A L.length c) := by rw [cell_of_row _ _ _ _ _ _ h1]; rfl
    have H2 := hide h2
    have HB := hide hG.bel
    have hz3 := hG.bel.size
    clear hG h1 h2 hT2 hS2 hI2 hT hL
    go_wp2
    rw [Exit.noGoto_ret]
    refine marks_done hK (v := .slice A L.length c) (by simp [results, Tryd.results14, go_sem]) ⟨_, rfl, ?_, below_put HB.out (by omega) hK _⟩
    rw [← HE.out]
    have := own_kept (C := 0) H2.out (grownBy_putObj' W D (.deferred none)) (fun r e => by cases e; exact ⟨Nat.zero_le _, _, hK, rfl⟩)
    refine ⟨this.1, ?_⟩
    rcases this.2 with h | ⟨g, cap, cur, a, b, d⟩
    · exact .inl h
    · exact .inr ⟨g, cap, cur, a, by omega, d⟩
  case stop => exact fun _ _ _ _ _ _ h _ => h.elim
end Go.Proofs.YtklkndnikcjbhaaDoor
