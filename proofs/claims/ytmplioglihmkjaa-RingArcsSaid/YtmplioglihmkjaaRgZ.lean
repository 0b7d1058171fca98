/-
  Where something fits: the program's own.
-/
import Derived.Test.YtmplioglihmkjaaRgY
namespace Go.Proofs.Ytmplioglihmkjaa
open Go.RowKit Go.Shelf
attribute [local go_sem] Oper.semAt_some
set_option linter.unusedVariables false
set_option linter.unusedSimpArgs false
set_option maxRecDepth 100000

def fitV (l : List Ai) (s n : Int) : Value :=
  if mayB n l then (if 1 ≤ s ∧ s ≤ n then (if fitP (tkI n l) n.toNat s.toNat = n.toNat then .tuple #[.int .i64 0, .int .i64 2] else .tuple #[.int .i64 (fitP (tkI n l) n.toNat s.toNat : Nat), .int .i64 0]) else .tuple #[.int .i64 0, .int .i64 2]) else .tuple #[.int .i64 0, .int .i64 130]

set_option maxHeartbeats 4000000 in
theorem Fit_bad (l : List Ai) (A : Option Addr) (c : Nat) (s n : Int) (w : World) (hI : Arcs w A l) (hlen : l.length ≤ 1000) (hb : mayB n l = false ∨ ¬ (1 ≤ s ∧ s ≤ n)) :
    Calls Try.prog 21 #[.slice A l.length c, .int .i64 s, .int .i64 n] w fun e w' => e = .returned (fitV l s n) ∧ Below w.heap.size w w' := by
  have HAr := hide (fun W (h : Arcs W A l) => areArcs_at l A c n W h (by omega))
  have HIw := hide hI
  obtain ⟨N, hN⟩ : ∃ N, N = l.length := ⟨_, rfl⟩
  rw [← hN] at HAr ⊢
  cases hm : mayB n l with
  | false =>
    have HV := hide (show fitV l s n = .tuple #[.int .i64 0, .int .i64 130] from if_neg (by rw [hm]; decide))
    rw [hm] at HAr
    clear hI hm hN hb
    refine calls_of_wp_marks Try.func21 rfl ?_
    simp only [Try.ntmps21, List.size_toArray, List.length_cons, List.length_nil, Nat.reduceAdd, Nat.reduceSub, Array.replicate_succ, Array.replicate_zero, List.push_toArray, List.append_toArray, List.nil_append, List.cons_append]
    go_wp2_with fail
    refine (HAr.out _ HIw.out).mono ?_
    rintro e w1 ⟨rfl, hb⟩
    have HB := hide hb
    clear hb
    go_wp2_with fail
    refine leave_ret (Ds := []) (Mk.nil w.heap.size _) ?_
    intro W' hb' hk'
    exact ⟨.tuple #[.int .i64 0, .int .i64 130], by simp [results, Try.results21, go_sem], by rw [HV.out], HB.out.trans hb'⟩
  | true =>
    have hs : ¬ (1 ≤ s ∧ s ≤ n) := by
      rcases hb with h | h
      · rw [hm] at h; cases h
      · exact h
    have HV := hide (show fitV l s n = .tuple #[.int .i64 0, .int .i64 2] from by unfold fitV; rw [if_pos hm, if_neg hs])
    rw [hm] at HAr
    have hs2 : s < 1 ∨ (1 ≤ s ∧ n < s) := by omega
    clear hI hm hN hb hs
    rcases hs2 with h1 | ⟨h1, h2⟩
    · refine calls_of_wp_marks Try.func21 rfl ?_
      simp only [Try.ntmps21, List.size_toArray, List.length_cons, List.length_nil, Nat.reduceAdd, Nat.reduceSub, Array.replicate_succ, Array.replicate_zero, List.push_toArray, List.append_toArray, List.nil_append, List.cons_append]
      go_wp2_with fail
      refine (HAr.out _ HIw.out).mono ?_
      rintro e w1 ⟨rfl, hb⟩
      have HB := hide hb
      clear hb
      go_wp2_with fail
      refine leave_ret (Ds := []) (Mk.nil w.heap.size _) ?_
      intro W' hb' hk'
      exact ⟨.tuple #[.int .i64 0, .int .i64 2], by simp [results, Try.results21, go_sem], by rw [HV.out], HB.out.trans hb'⟩
    · refine calls_of_wp_marks Try.func21 rfl ?_
      simp only [Try.ntmps21, List.size_toArray, List.length_cons, List.length_nil, Nat.reduceAdd, Nat.reduceSub, Array.replicate_succ, Array.replicate_zero, List.push_toArray, List.append_toArray, List.nil_append, List.cons_append]
      go_wp2_with fail
      refine (HAr.out _ HIw.out).mono ?_
      rintro e w1 ⟨rfl, hb⟩
      have HB := hide hb
      clear hb
      go_wp2_with fail
      refine leave_ret (Ds := []) (Mk.nil w.heap.size _) ?_
      intro W' hb' hk'
      exact ⟨.tuple #[.int .i64 0, .int .i64 2], by simp [results, Try.results21, go_sem], by rw [HV.out], HB.out.trans hb'⟩

/-- what stands while the least one is sought: its cell; all else as it was -/
structure FS (w3 W : World) (lb v : Nat) : Prop where
  os : W.os = w3.os
  tape : W.tape = w3.tape
  out : W.output = w3.output
  size : w3.heap.size ≤ W.heap.size
  same : ∀ k, k < w3.heap.size → k ≠ lb → W.heap[k]? = w3.heap[k]?
  box : W.heap[lb]? = some (.cells #[.int .i64 (v : Nat)] 3 (0, 0))
theorem FS.on {w3 W W' : World} {lb v : Nat} (h : FS w3 W lb v) (hb : Below W.heap.size W W') : FS w3 W' lb v :=
  ⟨hb.os.trans h.os, hb.tape.trans h.tape, hb.output.trans h.out, Nat.le_trans h.size hb.size, fun k hk hl => (hb.block k (Nat.lt_of_lt_of_le hk h.size)).trans (h.same k hk hl), (hb.block _ (Array.getElem?_eq_some_iff.1 h.box).1).trans h.box⟩
theorem FS.from {w3 A B : World} {lb v C : Nat} {row : Option Nat} (hs : FS w3 A lb v) (hg : A.grownBy B row) (hr : ∀ r, row = some r → C ≤ r ∧ ∃ o : Obj, A.heap[r]? = some o ∧ o.isCells = false) (hC : w3.heap.size ≤ C) : FS w3 B lb v := by
  have hb : Below w3.heap.size A B := (Below.refl _ A).grown hg hs.size fun k hk => by have := (hr k hk).1; omega
  exact ⟨hb.os.trans hs.os, hb.tape.trans hs.tape, hb.output.trans hs.out, Nat.le_trans hs.size hb.size, fun k hk hl => (hb.block k hk).trans (hs.same k hk hl), row_kept hs.box hg hr⟩
theorem FS.set {w3 W : World} {lb v : Nat} (h : FS w3 W lb v) (x : Nat) : FS w3 (W.setCell ⟨lb, 0, none⟩ (.int .i64 (x : Nat))) lb x :=
  ⟨h.os, h.tape, h.out, by simpa using h.size, fun k hk hl => (setCell_other hl).trans (h.same k hk hl), by rw [set_cells h.box]; rfl⟩
theorem FS.below {w w3 W : World} {lb v : Nat} (h : FS w3 W lb v) (hb : Below w.heap.size w w3) (hl : w.heap.size ≤ lb) : Below w.heap.size w W :=
  hb.trans ⟨h.os, h.tape, h.out, h.size, fun k hk => h.same k (by have := hb.size; omega) (by omega)⟩
theorem FS.arcs {w3 W : World} {lb v b off : Nat} {l : List Ai} (h : FS w3 W lb v) (hA : Arcs w3 (some ⟨b, off, none⟩) l) (hb : b ≠ lb) (hlt : b < w3.heap.size) : Arcs W (some ⟨b, off, none⟩) l := by
  refine ⟨hA.1, ?_⟩
  rcases hA.2 with h0 | ⟨b', off', e, hlt', hc⟩
  · exact .inl h0
  · cases e
    have hcell : ∀ o, W.cell? ⟨b, o, none⟩ = w3.cell? ⟨b, o, none⟩ := fun o => by simp only [World.cell?, h.same b hlt hb]
    exact .inr ⟨b, off, rfl, by have := h.size; omega, fun i hi => ⟨(hcell _).trans (hc i hi).1, (hcell _).trans (hc i hi).2⟩⟩
def leastP {n : Nat} (v : Nat) (pre : List (PE n)) : Nat := pre.foldl (fun a x => min a x.1) v
theorem leastP_snoc {n : Nat} (v : Nat) (pre : List (PE n)) (x : PE n) : leastP v (pre ++ [x]) = min (leastP v pre) x.1 := by simp [leastP]
theorem leastP_pl {n : Nat} {hn : 0 < n} {f m v : Nat} : leastP v (plL n hn f m) = ((List.range m).map fun j => (f + j) % n).foldl min v := by
  unfold leastP plL
  rw [List.foldl_map, List.foldl_map]
theorem leastP_le {n : Nat} (v : Nat) : ∀ (pre : List (PE n)), leastP v pre ≤ v
  | [] => Nat.le_refl _
  | x :: pre => by
    have := leastP_le (min v x.1) pre
    unfold leastP at *
    rw [List.foldl_cons]; omega
structure FI (w3 : World) (lb g v bN : Nat) (Ds : List Nat) {n : Nat} (pre : List (PE n)) (W : World) : Prop where
  fs : FS w3 W lb (leastP v pre)
  mks : Mk w3.heap.size W Ds
  sz : bN < W.heap.size
theorem FI.from {w3 A B : World} {lb g v bN : Nat} {Ds : List Nat} {n : Nat} {pre : List (PE n)} {C : Nat} {row : Option Nat} (hs : FI w3 lb g v bN Ds pre A) (hg : A.grownBy B row) (hr : ∀ r, row = some r → C ≤ r ∧ ∃ o : Obj, A.heap[r]? = some o ∧ o.isCells = false) (hC : w3.heap.size ≤ C) (hD : ∀ D ∈ Ds, D < C) : FI w3 lb g v bN Ds pre B :=
  ⟨hs.fs.from hg hr hC, hs.mks.grown hD hg fun r e => (hr r e).1, Nat.lt_of_lt_of_le hs.sz hg.size⟩
/-- the least behind so many gaps -/
def leastG (n s : Nat) (G : List Ar) : Nat := (G.flatMap (cands n s)).foldl min n
theorem leastG_snoc (n s : Nat) (G : List Ar) (g : Ar) : leastG n s (G ++ [g]) = (cands n s g).foldl min (leastG n s G) := by
  unfold leastG
  rw [List.flatMap_append, List.foldl_append]
  simp
theorem leastG_le (n s : Nat) (G : List Ar) : leastG n s G ≤ n := (foldl_min _ _).1

set_option maxHeartbeats 8000000 in
theorem Fit_good (l : List Ai) (A : Option Addr) (c m s : Nat) (w : World) (hI : Arcs w A l) (hA : ∀ a, A = some a → a.spot = none) (hm2 : m ≤ 1000) (hlen : l.length ≤ 1000) (hm : mayB m l = true) (hs1 : 1 ≤ s) (hs2 : s ≤ m) :
    Calls Try.prog 21 #[.slice A l.length c, .int .i64 (s : Nat), .int .i64 (m : Nat)] w fun e w' => e = .returned (fitV l s m) ∧ Below w.heap.size w w' := by
  obtain ⟨⟨h1, h2⟩, hok⟩ := mayB_t hm
  have hm0 : 0 < m := by omega
  have HAr := hide (fun W (h : Arcs W A l) => areArcs_at l A c m W h (by omega))
  rw [hm] at HAr
  have HV := hide (show fitV l s m = if fitP (tkI m l) m s = m then .tuple #[.int .i64 0, .int .i64 2] else .tuple #[.int .i64 (fitP (tkI m l) m s : Nat), .int .i64 0] from by
    unfold fitV; rw [if_pos hm, if_pos (by omega)]; rfl)
  have HTk := hide (fun W (h : Arcs W A l) => taken_at l A c m W h hA hok hm0 hm2 hlen)
  have HI := hide (fun W (h : Below w.heap.size w W) => hI.of_below h (Nat.le_refl _))
  have HtI := hide (show tkI m l = tk m (l.map tA) from rfl)
  rw [← HtI.out] at HTk
  have HGp := hide (fun W g h => gaps_at (tkI m l) m g hm0 hm2 W h)
  have HFt := hide (show fitP (tkI m l) m s = leastG m s (gapF (tkI m l) m) from rfl)
  have HGm := hide (fun a h => gapF_mem (t := tkI m l) hm0 (a := a) h)
  have HGl := hide (show (gapF (tkI m l) m).length ≤ m from by
    unfold gapF
    split
    · exact gapTo_le _ _ _
    · simp; omega)
  obtain ⟨N, hN⟩ : ∃ N, N = l.length := ⟨_, rfl⟩
  rw [← hN] at HAr HTk ⊢
  generalize tkI m l = t at *
  generalize hGe : gapF t m = G at *
  clear hI hm hok HtI hN h1 h2 hGe
  refine calls_of_wp_marks Try.func21 rfl ?_
  simp only [Try.ntmps21, List.size_toArray, List.length_cons, List.length_nil, Nat.reduceAdd, Nat.reduceSub, Array.replicate_succ, Array.replicate_zero, List.push_toArray, List.append_toArray, List.nil_append, List.cons_append]
  go_wp2_with fail
  refine (HAr.out _ (HI.out _ (Below.refl _ _))).mono ?_
  rintro e w1 ⟨rfl, hb⟩
  have HB := hide hb
  clear hb
  have hd1 : decide ((s : Int) < 1) = false := decide_eq_false (by omega)
  have hd2 : decide (m < s) = false := decide_eq_false (by omega)
  have hd3 : decide ((m : Int) < (s : Int)) = false := decide_eq_false (by omega)
  go_wp2_with fail
  have HBa := hide (bal w1 (.cells #[.int .i64 (m : Nat)] 3))
  have hbox : (w1.alloc (.cells #[.int .i64 (m : Nat)] 3)).heap[w1.heap.size]? = some (.cells #[.int .i64 (m : Nat)] 3 (0, 0)) := heap_alloc_new w1 _
  have hwlb := HB.out.size
  generalize w1.alloc (.cells #[.int .i64 (m : Nat)] 3) = wa at *
  generalize hlb : w1.heap.size = lb at *
  have HBa2 := hide (HB.out.trans (HBa.out.mono hwlb))
  clear hlb
  refine (HTk.out wa (HI.out wa HBa2.out)).mono ?_
  rintro e w2 ⟨g, rfl, hg, hrow, hb⟩
  have hlba : lb < wa.heap.size := (Array.getElem?_eq_some_iff.1 hbox).1
  have hbox2 := (hb.block lb hlba).trans hbox
  have HB2 := hide (HBa2.out.trans (hb.mono HBa2.out.size))
  have HRow := hide hrow
  have hsz2 := hb.size
  clear hb hrow hbox HBa HBa2
  go_wp2_with fail
  refine (HGp.out w2 g HRow.out).mono ?_
  rintro e w3 ⟨v, rfl, hO, hb⟩
  have hbox3 := (hb.block lb (by omega)).trans hbox2
  have HB3 := hide (HB2.out.trans (hb.mono HB2.out.size))
  have hlb3 : lb < w2.heap.size := by omega
  obtain ⟨A', c', rfl, hAr⟩ := own_arcs hO (fun z hz => by
    obtain ⟨a, ha, rfl⟩ := List.mem_map.1 hz
    obtain ⟨⟨x1, x2⟩, _⟩ := HGm.out a ha
    unfold I64; dsimp only; omega)
  have hblk : ∀ b off, A' = some ⟨b, off, none⟩ → b ≠ lb ∧ b < w3.heap.size := fun b off e => by
    have := own_block hO (k := b) (by rw [e]; rfl)
    exact ⟨by have := this.2.1; omega, this.1⟩
  rw [toI_len]
  have HAr := hide hAr
  have HBlk := hide hblk
  have hG3 := HGl.out
  obtain ⟨M, hM⟩ : ∃ M, M = G.length := ⟨_, rfl⟩
  rw [← hM] at hG3 ⊢
  have HM := hide hM
  have HF0 := hide (show FS w3 w3 lb m from ⟨rfl, rfl, rfl, Nat.le_refl _, fun _ _ _ => rfl, hbox3⟩)
  have hlbw3 : lb < w3.heap.size := by have := hb.size; omega
  clear hb hO hbox2 hAr hblk hM hbox3
  go_wp2_with fail
  refine wp_loop (fun a W => ∃ (k : Nat) (Ds : List Nat) (u10 u11 u32 u33 u34 u35 u36 u37 u38 u39 u40 u41 u42 u43 u44 u45 u46 u47 u48 u49 : Value), k ≤ M ∧ a = { tmps := #[.slice A N c, .int .i64 (s : Nat), .int .i64 (m : Nat), undef, undef, undef, .int .i64 0, .int .i64 0, .pointer (some ⟨lb, 0, none⟩), undef, u10, u11, .bool false, .slice A N c, .int .i64 (m : Nat), .bool true, .bool false, .bool false, .int .i64 (s : Nat), .bool false, .bool false, .int .i64 (s : Nat), .int .i64 (m : Nat), .bool false, .bool false, .int .i64 (m : Nat), .slice A N c, .int .i64 (m : Nat), .slice (some ⟨g, 0, none⟩) m m, .slice A' M c', .int .i64 (M : Nat), .int .i64 (k : Nat), u32, u33, u34, u35, u36, u37, u38, u39, u40, u41, u42, u43, u44, u45, u46, u47, u48, u49, undef, undef, undef, undef], defers := marked Ds } ∧ FS w3 W lb (leastG m s (G.take k)) ∧ Mk w3.heap.size W Ds) (fun a _ => M - (intOf (a.tmps.getD 31 undef)).toNat) ⟨0, [], undef, undef, undef, undef, undef, undef, undef, undef, undef, undef, undef, undef, undef, undef, undef, undef, undef, undef, undef, undef, by omega, rfl, HF0.out, Mk.nil _ _⟩ ?_
  rintro a wr ⟨k, Ds, u10, u11, u32, u33, u34, u35, u36, u37, u38, u39, u40, u41, u42, u43, u44, u45, u46, u47, u48, u49, hk, rfl, hFS, hM⟩
  have HFs := hide hFS
  have HMk := hide hM
  have hsz3 := hFS.size
  by_cases hlt : k < M
  · have hkl : k < G.length := by rw [← HM.out]; exact hlt
    have hkl' : k < (toI G).length := by rw [toI_len]; exact hkl
    obtain ⟨b, off, rfl, _, _, _⟩ := HAr.out.at hkl'
    obtain ⟨hb1, hb2⟩ := HBlk.out b off rfl
    obtain ⟨b', off', e, hbl, c0, c1⟩ := (hFS.arcs HAr.out hb1 hb2).at hkl'
    cases e
    have eG : (toI G).getD k (0, 0) = (((G.getD k (0, 0)).1 : Int), ((G.getD k (0, 0)).2 : Int)) := by
      rw [List.getD_eq_getElem?_getD, List.getD_eq_getElem?_getD]
      unfold toI
      rw [List.getElem?_map, List.getElem?_eq_getElem hkl]; rfl
    rw [eG] at c0 c1
    have hmem : G.getD k (0, 0) ∈ G := by rw [List.getD_eq_getElem?_getD, List.getElem?_eq_getElem hkl]; exact List.getElem_mem _
    obtain ⟨⟨hF, hGl⟩, _⟩ := HGm.out _ hmem
    have HSt := hide (show leastG m s (G.take (k + 1)) = (cands m s (G.getD k (0, 0))).foldl min (leastG m s (G.take k)) from by
      rw [take_snoc G (0, 0) k hkl, leastG_snoc])
    have hlg := leastG_le m s (G.take k)
    generalize leastG m s (G.take k) = v at *
    generalize G.getD k (0, 0) = ga at *
    obtain ⟨F, Gl⟩ := ga
    dsimp only at c0 c1 hF hGl
    clear eG hmem hFS hM hkl hkl'
    go_wp2_with fail
    refine (plmk_at _ _ _ _).mono ?_
    rintro e w' ⟨rfl, rfl⟩
    go_wp2_with fail
    have hbb : Below wr.heap.size wr (((wr.alloc (.cells #[.int .i64 (F : Nat), .int .i64 (Gl : Nat)] 41)).alloc (.cells #[.int .i64 (F : Nat), .int .i64 ((Gl : Int) - (s : Int) + 1)] 41)).alloc (.cells #[.int .i64 (m : Nat)] 3)) := ((bal wr _).alloc (by simp) _).alloc (by simp; omega) _
    have hF3 := HFs.out.on hbb
    have hM3 := HMk.out.below hbb
    have hA : (((wr.alloc (.cells #[.int .i64 (F : Nat), .int .i64 (Gl : Nat)] 41)).alloc (.cells #[.int .i64 (F : Nat), .int .i64 ((Gl : Int) - (s : Int) + 1)] 41)).alloc (.cells #[.int .i64 (m : Nat)] 3)).heap[wr.heap.size + 1]? = some (.cells #[.int .i64 (F : Nat), .int .i64 ((Gl : Int) - (s : Int) + 1)] 41 (0, 0)) := (heap_alloc_old _ _ (by simp)).trans (heap_alloc2_new wr _ _)
    have hN : (((wr.alloc (.cells #[.int .i64 (F : Nat), .int .i64 (Gl : Nat)] 41)).alloc (.cells #[.int .i64 (F : Nat), .int .i64 ((Gl : Int) - (s : Int) + 1)] 41)).alloc (.cells #[.int .i64 (m : Nat)] 3)).heap[wr.heap.size + 1 + 1]? = some (.cells #[.int .i64 (m : Nat)] 3 (0, 0)) := by
      have := heap_alloc_new ((wr.alloc (.cells #[.int .i64 (F : Nat), .int .i64 (Gl : Nat)] 41)).alloc (.cells #[.int .i64 (F : Nat), .int .i64 ((Gl : Int) - (s : Int) + 1)] 41)) (.cells #[.int .i64 (m : Nat)] 3)
      simpa using this
    have hsz : wr.heap.size + 3 ≤ (((wr.alloc (.cells #[.int .i64 (F : Nat), .int .i64 (Gl : Nat)] 41)).alloc (.cells #[.int .i64 (F : Nat), .int .i64 ((Gl : Int) - (s : Int) + 1)] 41)).alloc (.cells #[.int .i64 (m : Nat)] 3)).heap.size := by simp
    generalize (((wr.alloc (.cells #[.int .i64 (F : Nat), .int .i64 (Gl : Nat)] 41)).alloc (.cells #[.int .i64 (F : Nat), .int .i64 ((Gl : Int) - (s : Int) + 1)] 41)).alloc (.cells #[.int .i64 (m : Nat)] 3)) = W3 at *
    generalize wr.heap.size = gb at *
    have HI0 := hide (show FI w3 lb g v (gb + 1 + 1) Ds (n := m) [] W3 from ⟨hF3, hM3, by omega⟩)
    have HDs := hide hM3.lt
    clear hF3 hM3 hbb HFs HMk
    refine' wp_pl (gb + 1) (gb + 1 + 1) m hm0 (by omega) F hF ((Gl : Int) - (s : Int) + 1) (by omega) rfl (by omega) (by omega) hA hN rfl
      (fun pre W => FI w3 lb g v (gb + 1 + 1) Ds pre W)
      (fun c pre W => False)
      (fun s A B row hs hg hr => hs.from hg hr (by omega) HDs.out)
      (fun c s A B row hs hg hr => hs)
      HI0.out _ ?assign ?body ?done ?stop
    case assign =>
      intro l x W K hK
      gi_wp2
      exact hK
    case body =>
      rintro bb pre ⟨x, hx⟩ W hFI hlenp
      dsimp only at hx ⊢
      have HFI := hide hFI
      have k0 : W.cell? ⟨lb, 0, none⟩ = some (.int .i64 (leastP v pre : Nat)) := by rw [cell_of_row _ _ _ _ _ _ hFI.fs.box]; rfl
      have k2 : W.frozen? ⟨lb, 0, none⟩ = false := by simp [World.frozen?, hFI.fs.box]
      have hlW : lb < W.heap.size := (Array.getElem?_eq_some_iff.1 hFI.fs.box).1
      have HSn := hide (leastP_snoc v pre ⟨x, hx⟩)
      generalize hlp : leastP v pre = q at *
      have hmn : ∀ (ts : Array TypeId) (ty : TypeId) (W : World), (Builtin.min_ ts ty #[.int .i64 (q : Nat), .int .i64 (x : Nat)]).run Try.prog W = .ok (.int .i64 (min q x : Nat)) W := fun ts ty W => by
        rw [run_min_int2]
        have : (if (x : Int) < (q : Int) then (x : Int) else (q : Int)) = ((min q x : Nat) : Int) := by split <;> omega
        rw [this]
      generalize hmq : min q x = r at *
      clear hFI hA hN HI0 hlp hmq
      gi_wp2
      refine ⟨KeepsOthers.setCell _ _ _, fun h => ?_, ?_, HFI.out.mks.on (KeepsOthers.setCell _ _ _), by simpa using HFI.out.sz⟩
      · rw [setCell_other (by omega)]; exact h
      · rw [HSn.out]; exact HFI.out.fs.set r
    case done =>
      rintro D W hD hFI hK
      have hfs := hFI.fs
      rw [leastP_pl, show ((Gl : Int) - (s : Int) + 1).toNat = Gl + 1 - s by omega] at hfs
      have HF3 := hide (show FS w3 W lb (leastG m s (G.take (k + 1))) from by rw [HSt.out]; exact hfs)
      have HM3 := hide (hFI.mks.more (D := D) (by omega) hK fun h => by have := HDs.out D h; omega)
      clear hFI hA hN HI0 hfs
      go_wp2_with fail
      refine ⟨⟨k + 1, D :: Ds, _, _, _, _, _, _, _, _, _, _, _, _, _, _, _, _, _, _, _, _, by omega, rfl, HF3.out, HM3.out⟩, ?_⟩
      simp [intOf]; omega
    case stop => exact fun _ _ _ _ _ _ h _ => h.elim
  · obtain rfl : k = M := by omega
    have HLt := hide (show leastG m s (G.take k) = fitP t m s from by rw [HFt.out, HM.out, List.take_length])
    rw [HLt.out] at hFS
    have k0 : wr.cell? ⟨lb, 0, none⟩ = some (.int .i64 (fitP t m s : Nat)) := by rw [cell_of_row _ _ _ _ _ _ hFS.box]; rfl
    have HBw := hide (hFS.below HB3.out hwlb)
    have hle : fitP t m s ≤ m := by rw [← HLt.out]; exact leastG_le _ _ _
    generalize fitP t m s = r at *
    clear hFS hM HFs HF0
    by_cases hr : r = m
    · have hb : ((r : Int) == (m : Int)) = true := beq_iff_eq.2 (by omega)
      have HV2 := hide (show fitV l s m = .tuple #[.int .i64 0, .int .i64 2] from by rw [HV.out, if_pos hr])
      clear hr
      go_wp2_with fail
      refine leave_ret HMk.out ?_
      intro W' hb' hk'
      exact ⟨.tuple #[.int .i64 0, .int .i64 2], by simp [results, Try.results21, go_sem], by rw [HV2.out], HBw.out.trans (hb'.mono HB3.out.size)⟩
    · have hb : ((r : Int) == (m : Int)) = false := beq_eq_false_iff_ne.2 (by omega)
      have HV2 := hide (show fitV l s m = .tuple #[.int .i64 (r : Nat), .int .i64 0] from by rw [HV.out, if_neg hr])
      clear hr
      go_wp2_with fail
      refine leave_ret HMk.out ?_
      intro W' hb' hk'
      exact ⟨.tuple #[.int .i64 (r : Nat), .int .i64 0], by simp [results, Try.results21, go_sem], by rw [HV2.out], HBw.out.trans (hb'.mono HB3.out.size)⟩

theorem Fit_at (l : List Ai) (A : Option Addr) (c : Nat) (s n : Int) (w : World) (hI : Arcs w A l) (hA : ∀ a, A = some a → a.spot = none) (hn : ringB n = true → n ≤ 1000) (hlen : l.length ≤ 1000) :
    Calls Try.prog 21 #[.slice A l.length c, .int .i64 s, .int .i64 n] w fun e w' => e = .returned (fitV l s n) ∧ Below w.heap.size w w' := by
  cases hm : mayB n l with
  | false => exact Fit_bad l A c s n w hI hlen (.inl hm)
  | true =>
    by_cases hs : 1 ≤ s ∧ s ≤ n
    · obtain ⟨⟨h1, h2⟩, _⟩ := mayB_t hm
      have h1000 := hn (decide_eq_true ⟨h1, h2⟩)
      obtain ⟨m, rfl⟩ := Int.eq_ofNat_of_zero_le (show 0 ≤ n by omega)
      obtain ⟨q, rfl⟩ := Int.eq_ofNat_of_zero_le (show 0 ≤ s by omega)
      exact Fit_good l A c m q w hI hA (by omega) hlen hm (by omega) (by omega)
    · exact Fit_bad l A c s n w hI hlen (.inr hs)
end Go.Proofs.Ytmplioglihmkjaa
