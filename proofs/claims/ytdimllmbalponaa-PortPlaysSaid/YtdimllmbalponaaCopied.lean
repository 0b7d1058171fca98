/-
  A message, copied.
-/
import Derived.Test.YtdimllmbalponaaNew
namespace Go.Proofs.Ytdimllmbalponaa
open Go.RowKit Go.Shelf
set_option linter.unusedVariables false

theorem info_msg : (Try.prog.info? 76).map (fun i => (i.zero, i.size)) = some (some (.agg #[.slice none 0 0, .int .i64 0]), 2) := by kernel_rfl
theorem msg_info {cs : Array Value} (h : cs.size = 2) : (Try.prog.info? 76).map (·.size) = some cs.size := by rw [h]; exact (zero_of_info info_msg).2
/-- one result: a struct that lies in memory -/
theorem results_msg {fn : Func} {p : Tmp} (h : fn.results = #[.cell p 76]) (tmps : Array Value) (w : World) (g : Nat) (t : TypeId) (cs : Array Value) (fr : Nat × Nat)
    (hp : tmps.getD p undef = .pointer (some ⟨g, 0, none⟩)) (hg : w.heap[g]? = some (.cells cs t fr)) (hs : cs.size = 2) :
    (results fn tmps).run Try.prog w = .ok (.agg cs) w := by
  have hp' : tmps[p]?.getD undef = .pointer (some ⟨g, 0, none⟩) := by simpa using hp
  simp [results, h, hp', asAddr, run_loadVar_row w g t _ cs fr _ hg Try.underlying76 rfl (msg_info hs)]
/-- bytes.Clone, its answer of the call's own -/
theorem clone_own (b : List Nat) (n : Nat) (ad : Addr) (cap : Nat) (w : World) (hn : b.length = n) (hm : n ≤ 1000000) (hB : Bytes w (some ad) b) :
    Calls Try.prog 41 #[.slice (some ad) n cap] w fun e w' => ∃ g c, e = .returned (.slice (some ⟨g, 0, none⟩) n c) ∧ OwnS w' w.heap.size g n c b ∧ Below w.heap.size w w' := by
  refine (clone_cap b n ad cap w hn hm hB).mono ?_
  rintro e w' ⟨A, c, rfl, hnc, hcm, hM, ⟨g, cur, rfl, hg, hh, hs⟩, hb⟩
  refine ⟨g, c, rfl, ?_, hb⟩
  have hR : Row w' g n (fun t => b.getD t 0) := by
    rcases hM with h | ⟨g', h1, _, h2⟩
    · exact ⟨(Array.getElem?_eq_some_iff.1 hh).1, fun t ht => by omega⟩
    · injection h1 with h1; injection h1 with h1; subst h1; exact h2
  have h := OwnS.of_row hh hs hR (fun t ht => getD_lt hB.1 t) hg hnc hcm
  rwa [show (List.range n).map (fun t => b.getD t 0) = b by
    refine ext_getD (by simp [hn]) (fun t ht => ?_)
    rw [List.getD_eq_getElem?_getD, List.getElem?_map, List.getElem?_range (by simpa using ht)]; rfl] at h

def cpF (B : Nat) (sl : Value) (z : Int) (n : Nat) (b : List Nat) : Nat → Value → World → Prop
  | 0, v, _ => v = .pointer (some ⟨B, 0, none⟩)
  | 1, v, _ => v = sl
  | 2, v, W => ∃ g c, v = .slice (some ⟨g, 0, none⟩) n c ∧ OwnS W (B + 2) g n c b
  | 3, v, _ => v = .pointer (some ⟨B, 1, none⟩)
  | 4, v, _ => v = .int .i64 z
  | 5, v, W => ∃ g c, v = .agg #[.slice (some ⟨g, 0, none⟩) n c, .int .i64 z] ∧ OwnS W (B + 2) g n c b
  | 6, _, W => ∃ g c, W.heap[B + 1]? = some (.cells #[.slice (some ⟨g, 0, none⟩) n c, .int .i64 z] 76 (0, 0)) ∧ OwnS W (B + 2) g n c b
  | _, _, _ => True
structure cpC (w w1 : World) (sl : Value) (z : Int) (W : World) : Prop where
  bel : Below w.heap.size w W
  box : W.heap[w.heap.size]? = some (.cells #[sl, .int .i64 z] 76 (0, 0))
  out : ∃ cs : Array Value, cs.size = 2 ∧ W.heap[w.heap.size + 1]? = some (.cells cs 76 (0, 0))
  siz : w.heap.size + 2 ≤ W.heap.size
theorem cpC.later {w w1 : World} {sl : Value} {z : Int} {W W' : World} (h : cpC w w1 sl z W) (hb : Below (w.heap.size + 2) W W') : cpC w w1 sl z W' := by
  obtain ⟨cs, h1, h2⟩ := h.out
  exact ⟨h.bel.trans (hb.mono (by omega)), (hb.block _ (by omega)).trans h.box, ⟨cs, h1, (hb.block _ (by omega)).trans h2⟩, by have := hb.size; have := h.siz; omega⟩

set_option maxRecDepth 100000 in
set_option maxHeartbeats 1000000 in
theorem copied_at (b : List Nat) (n : Nat) (ad : Addr) (cap : Nat) (z : Int) (w : World) (hn : b.length = n) (hm : n ≤ 1000000) (hB : Bytes w (some ad) b) :
    Calls Try.prog 36 #[.agg #[.slice (some ad) n cap, .int .i64 z]] w fun e w' => ∃ g c, e = .returned (.agg #[.slice (some ⟨g, 0, none⟩) n c, .int .i64 z]) ∧ OwnS w' w.heap.size g n c b ∧ Below w.heap.size w w' := by
  have hz := (zero_of_info info_msg).1
  have hC : cpC w w (.slice (some ad) n cap) z (((w.alloc (.cells #[.slice (some ad) n cap, .int .i64 z] 76)).alloc (.cells #[.slice none 0 0, .int .i64 0] 76))) :=
    ⟨(bal w _).alloc (by simp) _, heap_alloc2_old w _ _, ⟨_, rfl, heap_alloc2_new w _ _⟩, by simp⟩
  have HC := hide hC
  have hclone := fun W (h : Below w.heap.size w W) => clone_own b n ad cap W hn hm (hB.of_below h (Nat.le_refl _))
  have HCL := hide hclone
  clear hC hclone
  go_enter Try.func36, Try.ntmps36
  go_wp2_with fail
  refine wp_region_facts (cpC w w (.slice (some ad) n cap) z) (cpF w.heap.size (.slice (some ad) n cap) z n b) (fun j => if j = 2 then 5 else if j = 5 then 6 else 100) (by kernel_rfl) (by kernel_rfl) ⟨below_drewN HC.out.bel 1, HC.out.box, HC.out.out, HC.out.siz⟩ ?_ ?_
  · refine AllFrom.cons (step_is (by kernel_rfl) ?s0) (AllFrom.cons (i := 1) (step_is (by kernel_rfl) ?s1) (AllFrom.cons (i := 2) (step_fn 41 4 _ rfl (enters_of Try.func41 (by kernel_rfl) rfl) ?s2) (AllFrom.cons (i := 3) (step_is (by kernel_rfl) ?s3) (AllFrom.cons (i := 4) (step_is (by kernel_rfl) ?s4) (AllFrom.cons (i := 5) (step_is (by kernel_rfl) ?s5) (AllFrom.cons (i := 6) ?s6 trivial))))))
    case s0 =>
      intro l vals W ρ hI hi hdep hnew hold hc
      have e : ρ (.tmp 1) = .pointer (some ⟨w.heap.size, 0, none⟩) := (hold 1 (by kernel_rfl)).trans (by kernel_rfl)
      refine ⟨.pointer (some ⟨w.heap.size, 0, none⟩), ?_, rfl⟩
      simp [execOp, e, go_sem]
    case s1 =>
      intro l vals W ρ hI hi hdep hnew hold hc
      have f : vals 0 = .pointer (some ⟨w.heap.size, 0, none⟩) := hI.fact 0 (dep hdep 0 (by kernel_rfl)) (never hI (of_decide_eq_true (by kernel_rfl)))
      have e : ρ (.tmp 3) = .pointer (some ⟨w.heap.size, 0, none⟩) := (hnew 0 3 (dep hdep 0 (by kernel_rfl)) (by kernel_rfl) (of_decide_eq_true (by kernel_rfl)) (of_decide_eq_true (by kernel_rfl))).trans f
      have c : W.cell? ⟨w.heap.size, 0, none⟩ = some (.slice (some ad) n cap) := by rw [cell_of_row _ _ _ _ _ _ hI.com.box]; rfl
      refine ⟨.slice (some ad) n cap, ?_, rfl⟩
      simp [execOp, e, c, go_sem]
    case s2 =>
      intro l vals W hI hi hdep
      have f : vals 1 = .slice (some ad) n cap := hI.fact 1 (dep hdep 1 (by kernel_rfl)) (never hI (of_decide_eq_true (by kernel_rfl)))
      refine ⟨_, (ev_get (by kernel_rfl) 1 4 (dep hdep 1 (by kernel_rfl)) (by kernel_rfl) (of_decide_eq_true (by kernel_rfl)) (of_decide_eq_true (by kernel_rfl))).trans f, (HCL.out W hI.com.bel).mono ?_⟩
      rintro e W' ⟨g, c, rfl, ho, hb'⟩
      refine ⟨_, rfl, hI.com.later (hb'.mono hI.com.siz), ⟨g, c, rfl, ho.from (Nat.le_trans hI.com.siz ho.base)⟩, fun j hj hT hl hTl => ?_⟩
      have h := hI.fact j hl hTl
      match j, h, hj with
      | 0, h, _ | 1, h, _ | 3, h, _ | 4, h, _ => exact h
      | 2, _, hj => exact absurd rfl hj
      | 5, ⟨g', c', h1, h2⟩, _ => exact ⟨g', c', h1, h2.later hb' h2.blk⟩
      | 6, ⟨g', c', h1, h2⟩, _ => exact ⟨g', c', (hb'.block _ (by have := hI.com.siz; omega)).trans h1, h2.later hb' h2.blk⟩
      | _ + 7, _, _ => trivial
    case s3 =>
      intro l vals W ρ hI hi hdep hnew hold hc
      have e : ρ (.tmp 1) = .pointer (some ⟨w.heap.size, 0, none⟩) := (hold 1 (by kernel_rfl)).trans (by kernel_rfl)
      refine ⟨.pointer (some ⟨w.heap.size, 1, none⟩), ?_, rfl⟩
      simp [execOp, e, go_sem]
    case s4 =>
      intro l vals W ρ hI hi hdep hnew hold hc
      have f : vals 3 = .pointer (some ⟨w.heap.size, 1, none⟩) := hI.fact 3 (dep hdep 3 (by kernel_rfl)) (never hI (of_decide_eq_true (by kernel_rfl)))
      have e : ρ (.tmp 6) = .pointer (some ⟨w.heap.size, 1, none⟩) := (hnew 3 6 (dep hdep 3 (by kernel_rfl)) (by kernel_rfl) (of_decide_eq_true (by kernel_rfl)) (of_decide_eq_true (by kernel_rfl))).trans f
      have c : W.cell? ⟨w.heap.size, 1, none⟩ = some (.int .i64 z) := by rw [cell_of_row _ _ _ _ _ _ hI.com.box]; rfl
      refine ⟨.int .i64 z, ?_, rfl⟩
      simp [execOp, e, c, go_sem]
    case s5 =>
      intro l vals W ρ hI hi hdep hnew hold hc
      obtain ⟨g, c, f2, h2⟩ : cpF w.heap.size (.slice (some ad) n cap) z n b 2 (vals 2) W := hI.fact 2 (dep hdep 2 (by kernel_rfl)) hi
      have f4 : vals 4 = .int .i64 z := hI.fact 4 (dep hdep 4 (by kernel_rfl)) (never hI (of_decide_eq_true (by kernel_rfl)))
      have e1 : ρ (.tmp 5) = .slice (some ⟨g, 0, none⟩) n c := (hnew 2 5 (dep hdep 2 (by kernel_rfl)) (by kernel_rfl) (of_decide_eq_true (by kernel_rfl)) (of_decide_eq_true (by kernel_rfl))).trans f2
      have e2 : ρ (.tmp 7) = .int .i64 z := (hnew 4 7 (dep hdep 4 (by kernel_rfl)) (by kernel_rfl) (of_decide_eq_true (by kernel_rfl)) (of_decide_eq_true (by kernel_rfl))).trans f4
      refine ⟨.agg #[.slice (some ⟨g, 0, none⟩) n c, .int .i64 z], ?_, ⟨g, c, rfl, h2⟩⟩
      simp [execOp, e1, e2, go_sem]
    case s6 =>
      intro l vals W hI hi hdep
      obtain ⟨g, c, f5, h5⟩ : cpF w.heap.size (.slice (some ad) n cap) z n b 5 (vals 5) W := hI.fact 5 (dep hdep 5 (by kernel_rfl)) hi
      obtain ⟨cs, hcs, hrow⟩ := hI.com.out
      have hnew := setRow_heap W (w.heap.size + 1) cs #[.slice (some ⟨g, 0, none⟩) n c, .int .i64 z] 76 (0, 0) hrow
      refine wp_store_row 76 (.tmp 2) (.tmp 8) rfl (w.heap.size + 1) #[.slice (some ⟨g, 0, none⟩) n c, .int .i64 z] ((ev_old 2 (by kernel_rfl)).trans (by kernel_rfl)) ((ev_get (by kernel_rfl) 5 8 (dep hdep 5 (by kernel_rfl)) (by kernel_rfl) (of_decide_eq_true (by kernel_rfl)) (of_decide_eq_true (by kernel_rfl))).trans f5) 76 cs hrow (msg_info rfl) hcs (by simp [Value.oneCell']) ?_
      refine ⟨undef, rfl, ⟨below_setRow hI.com.bel (by omega) _, (setRow_other _ _ _ _ (by omega)).trans hI.com.box, ⟨_, rfl, hnew⟩, by simpa using hI.com.siz⟩, ⟨g, c, hnew, h5.kept (setRow_other _ _ _ _ (by have := h5.base; omega))⟩, fun j hj hT hl hTl => ?_⟩
      have h := hI.fact j hl hTl
      match j, h, hj, hT with
      | 0, h, _, _ | 1, h, _, _ | 3, h, _, _ | 4, h, _, _ => exact h
      | 2, ⟨g', c', h1, h2⟩, _, _ => exact ⟨g', c', h1, h2.kept (setRow_other _ _ _ _ (by have := h2.base; omega))⟩
      | 5, _, _, hT => exact absurd rfl hT
      | 6, _, hj, _ => exact absurd rfl hj
      | _ + 7, _, _, _ => trivial
  intro vals W hC hF
  obtain ⟨g, c, hrow, ho⟩ : cpF w.heap.size (.slice (some ad) n cap) z n b 6 (vals 6) W := hF 6 (of_decide_eq_true (by kernel_rfl)) (of_decide_eq_true (by kernel_rfl))
  simp [canon, dstOf, Act.put]
  clear hF
  have HR := hide hrow; have HO := hide ho; have HB := hide hC.bel
  clear hrow ho hC
  go_wp2_with fail
  refine bodyPost_ret (results_msg (fn := Try.f36) rfl _ _ (w.heap.size + 1) 76 _ (0, 0) rfl HR.out rfl) rfl ⟨g, c, rfl, HO.out.from (by have := HO.out.base; omega), HB.out⟩
end Go.Proofs.Ytdimllmbalponaa
