/-
  The stretches between, the program's own.
-/
import Derived.Test.YtmplioglihmkjaaRgU
namespace Go.Proofs.Ytmplioglihmkjaa
open Go.RowKit Go.Shelf
attribute [local go_sem] Oper.semAt_some
set_option linter.unusedVariables false
set_option linter.unusedSimpArgs false
set_option maxRecDepth 100000

/-- what stands where a search begins -/
def Hd2 (t : Nat → Bool) (n i : Nat) (l : List Ar) : Prop := (Hd t n i ∧ l = gapTo t n i) ∨ (anyT t n = false ∧ i = 0 ∧ l = [])
def cellNat (W : World) (b : Nat) : Nat := match W.cell? ⟨b, 0, none⟩ with | some v => (intOf v).toNat | none => 0

theorem start_gs (w : World) (b n q : Nat) : GS w (((w.alloc (.cells #[.slice (some ⟨b, 0, none⟩) n n] 65)).alloc (.cells #[.int .i64 (q : Nat)] 3)).alloc (.cells #[.slice none 0 0] 34)) b n q [] := by
  refine ⟨((bal w _).alloc (by simp) _).alloc (by simp; omega) _, (heap_alloc_old _ _ (by simp; omega)).trans (heap_alloc2_old w _ _), (heap_alloc_old _ _ (by simp)).trans (heap_alloc2_new w _ _), _, by have := heap_alloc_new ((w.alloc (.cells #[.slice (some ⟨b, 0, none⟩) n n] 65)).alloc (.cells #[.int .i64 (q : Nat)] 3)) (.cells #[.slice none 0 0] 34); simpa using this, World.ownsRow_nil _ _ _ _⟩

/-- what stands while one is searched: the list, how long the gap is, the marks -/
structure GI (w : World) (t : Nat → Bool) (b n i gb : Nat) (l : List Ar) (Ds : List Nat) (pre : List (PE n)) (W : World) : Prop where
  gs : GS w W b n i l
  sz : gb + 3 ≤ W.heap.size
  gp : W.heap[gb]? = some (.cells #[.int .i64 (i : Nat), .int .i64 (pre.length : Nat)] 41 (0, 0))
  mks : Mk (w.heap.size + 3) W Ds
  fr : ∀ x ∈ pre, t x.1 = false
  ob : ∃ v, W.heap[w.heap.size + 1 + 1]? = some (.cells #[v] 34 (0, 0)) ∧ ∀ k, v.ownBlock = some k → k < gb
/-- how it is left -/
structure GX (w : World) (t : Nat → Bool) (b n i gb : Nat) (l : List Ar) (Ds : List Nat) (c : Code) (pre : List (PE n)) (W : World) : Prop where
  mks : Mk (w.heap.size + 3) W Ds
  out : ∃ pre' x i', pre = pre' ++ [x] ∧ (∀ y ∈ pre', t y.1 = false) ∧ t x.1 = true ∧ GS w W b n i' (l ++ if 0 < pre'.length then [(i, pre'.length)] else []) ∧ ((c = .exit 0 ∧ x.1 < i ∧ i' = i) ∨ (c = .exit 1 ∧ i ≤ x.1 ∧ i' = x.1 + 1))
theorem GI.from {w A B : World} {t : Nat → Bool} {b n i gb : Nat} {l : List Ar} {Ds : List Nat} {pre : List (PE n)} {C : Nat} {row : Option Nat} (hs : GI w t b n i gb l Ds pre A) (hg : A.grownBy B row) (hr : ∀ r, row = some r → C ≤ r ∧ ∃ o : Obj, A.heap[r]? = some o ∧ o.isCells = false) (hC : w.heap.size ≤ C) (hD : ∀ D ∈ Ds, D < C) : GI w t b n i gb l Ds pre B :=
  ⟨hs.gs.from hg hr hC, Nat.le_trans hs.sz hg.size, row_kept hs.gp hg hr, hs.mks.grown hD hg fun r e => (hr r e).1, hs.fr, let ⟨v, h1, h2⟩ := hs.ob; ⟨v, row_kept h1 hg hr, h2⟩⟩
theorem GX.from {w A B : World} {t : Nat → Bool} {b n i gb : Nat} {l : List Ar} {Ds : List Nat} {c : Code} {pre : List (PE n)} {C : Nat} {row : Option Nat} (hs : GX w t b n i gb l Ds c pre A) (hg : A.grownBy B row) (hr : ∀ r, row = some r → C ≤ r ∧ ∃ o : Obj, A.heap[r]? = some o ∧ o.isCells = false) (hC : w.heap.size ≤ C) (hD : ∀ D ∈ Ds, D < C) : GX w t b n i gb l Ds c pre B := by
  obtain ⟨p, x, i', e, h1, h2, h3, h4⟩ := hs.out
  exact ⟨hs.mks.grown hD hg fun r e => (hr r e).1, p, x, i', e, h1, h2, h3.from hg hr hC, h4⟩
theorem plL_all {n i : Nat} (hn : 0 < n) (hi : i < n) (q : Nat) (hq : q < n) : (⟨q, hq⟩ : PE n) ∈ plL n hn i n := by
  unfold plL
  refine List.mem_map.2 ⟨(q + n - i) % n, by simp; exact Nat.mod_lt _ hn, ?_⟩
  apply Subtype.ext
  show (i + (q + n - i) % n) % n = q
  rw [Nat.add_mod_mod, show i + (q + n - i) = q + n by omega, Nat.add_mod_right, Nat.mod_eq_of_lt hq]
theorem gs_len {t : Nat → Bool} {n i : Nat} {l : List Ar} (h : Hd2 t n i l) (hi : i ≤ n) : l.length ≤ n := by
  rcases h with ⟨_, rfl⟩ | ⟨_, _, rfl⟩
  · have := gapTo_le t n i; omega
  · simp
theorem gi_more {w W : World} {t : Nat → Bool} {b n i gb : Nat} {l : List Ar} {Ds : List Nat} {pre : List (PE n)} {x : PE n} (h : GI w t b n i gb l Ds pre W) (ht : t x.1 = false) (hg : w.heap.size + 3 ≤ gb) : GI w t b n i gb l Ds (pre ++ [x]) (W.setCell ⟨gb, 1, none⟩ (.int .i64 ((pre.length : Int) + 1))) := by
  obtain ⟨v, h1, h2⟩ := h.gs.ls
  obtain ⟨v', h3, h4⟩ := h.ob
  rw [h1] at h3
  cases h3
  refine ⟨⟨h.gs.bel.setCell (p := ⟨gb, 1, none⟩) (by show w.heap.size ≤ gb; omega) _, ?_, ?_, v, ?_, ?_⟩, ?_, ?_, ?_, fun y hy => ?_, v, ?_, h4⟩
  · rw [setCell_other (by omega)]; exact h.gs.pb
  · rw [setCell_other (by omega)]; exact h.gs.fr
  · rw [setCell_other (by omega)]; exact h1
  · exact own_stands h2 fun k hk => setCell_other (by have := h4 k hk; omega)
  · simpa using h.sz
  · rw [set_cells h.gp]; simp
  · exact h.mks.on (KeepsOthers.setCell _ _ _)
  · rcases List.mem_append.1 hy with h5 | h5
    · exact h.fr y h5
    · obtain rfl := List.mem_singleton.1 h5; exact ht
  · rw [setCell_other (by omega)]; exact h1
theorem gs_app {w W w4 : World} {b n i kk : Nat} {l : List Ar} {v v4 : Value} {o : Obj} (h : GS w W b n i l) (h1 : W.heap[w.heap.size + 1 + 1]? = some (.cells #[v] 34 (0, 0))) (h2 : OwnA W (w.heap.size + 3) v (toI l))
    (hg : (W.alloc o).grownBy w4 v.ownBlock) (h4 : w4.ownsRow (w.heap.size + 3) 41 2 v4 ((toI l).length + 1) (flatA (toI l) ++ [.int .i64 (i : Nat), .int .i64 (kk : Nat)])) :
    (∀ k, k < w.heap.size + 3 → w4.heap[k]? = W.heap[k]?) ∧ KeepsOthers W w4 ∧ Below w.heap.size w w4 ∧ GS w (w4.setCell ⟨w.heap.size + 1 + 1, 0, none⟩ v4) b n i (l ++ [(i, kk)]) := by
  have hz := h.lt
  have hk : ∀ k, k < w.heap.size + 3 → w4.heap[k]? = W.heap[k]? := fun k hk => by
    refine (hg.block k (by simp; omega) fun e => ?_).trans (heap_alloc_old W o (by omega))
    have := (own_block h2 e.symm).2.1
    omega
  have hb : Below w.heap.size w w4 := (h.bel.alloc h.bel.size o).grown hg (by simp; omega) fun k e => by have := (own_block h2 e).2.1; omega
  refine ⟨hk, (KeepsOthers.alloc W o).trans (keeps_own (own_below h2 (bal W o) (Nat.le_refl _)) hg), hb, hb.setCell (p := ⟨w.heap.size + 1 + 1, 0, none⟩) (by show w.heap.size ≤ w.heap.size + 1 + 1; omega) _, ?_, ?_, v4, ?_, ?_⟩
  · rw [setCell_other (by omega), hk _ (by omega)]; exact h.pb
  · rw [setCell_other (by omega), hk _ (by omega)]; exact h.fr
  · rw [set_cells ((hk _ (by omega)).trans h1)]; rfl
  · have := own_stands h4 (W' := w4.setCell ⟨w.heap.size + 1 + 1, 0, none⟩ v4) fun k hk => setCell_other (by have := (own_block h4 hk).2.1; omega)
    unfold OwnA
    rw [toI_snoc, flatA_snoc, List.length_append]
    exact this

set_option maxHeartbeats 8000000 in
theorem gaps_at (t : Nat → Bool) (n b : Nat) (hn : 0 < n) (hn2 : n ≤ 1000) (w : World) (hr : w.heap[b]? = some (.cells (brow t n) 4 (0, 0))) :
    Calls Try.prog 41 #[.slice (some ⟨b, 0, none⟩) n n] w fun e w' => ∃ v, e = .returned v ∧ OwnA w' w.heap.size v (toI (gapF t n)) ∧ Below w.heap.size w w' := by
  have HR := hide hr
  have hbl : b < w.heap.size := (Array.getElem?_eq_some_iff.1 hr).1
  have HIx := hide (fun W h => index_at t n b W (by omega) h)
  obtain ⟨m, rfl⟩ : ∃ m, n = m + 1 := ⟨n - 1, by omega⟩
  have hc0 : w.cell? ⟨b, m, none⟩ = some (.bool (t m)) := by rw [cell_of_row _ _ _ _ _ _ hr, brow_get (by omega)]
  clear hr
  cases hlast : t m with
  | true =>
    have HLs := hide hlast
    rw [hlast] at hc0
    clear hlast
    refine calls_of_wp_marks Try.func41 rfl ?_
    simp only [Try.ntmps41, List.size_toArray, List.length_cons, List.length_nil, Nat.reduceAdd, Nat.reduceSub, Array.replicate_succ, Array.replicate_zero, List.push_toArray, List.append_toArray, List.nil_append, List.cons_append]
    go_wp2_with fail
    go_step3
    have cB : (w.alloc (.cells #[.slice (some ⟨b, 0, none⟩) (m + 1) (m + 1)] 65)).cell? ⟨w.heap.size, 0, none⟩ = some (.slice (some ⟨b, 0, none⟩) (m + 1) (m + 1)) := by rw [cell_of_row _ _ _ _ _ _ (heap_alloc_new w _)]; rfl
    go_wp2_with fail
    have HG : Hid (GS w (((w.alloc (.cells #[.slice (some ⟨b, 0, none⟩) (m + 1) (m + 1)] 65)).alloc (.cells #[.int .i64 0] 3)).alloc (.cells #[.slice none 0 0] 34)) b (m + 1) 0 []) := start_gs w b (m + 1) 0
    have HH : Hid (Hd2 t (m + 1) 0 []) := .inl ⟨last_hd (by omega) HLs.out, rfl⟩
    go_step3
    go_wp2_with fail
    generalize ((w.alloc (.cells #[.slice (some ⟨b, 0, none⟩) (m + 1) (m + 1)] 65)).alloc (.cells #[.int .i64 0] 3)).alloc (.cells #[.slice none 0 0] 34) = W1 at *
    refine wp_loop (fun a W => ∃ (i : Nat) (l : List Ar) (Ds : List Nat) (u6 u7 u19 u20 u21 u22 u23 u24 u25 u26 u27 u28 u29 u30 u31 u32 u33 u34 u35 u36 u37 u38 u39 u40 u41 u42 u43 u44 u45 u46 u47 u48 u49 u50 u51 u52 : Value), i ≤ m + 1 ∧ a = { tmps := #[Value.slice (some ⟨b, 0, none⟩) (m + 1) (m + 1), .pointer (some ⟨w.heap.size, 0, none⟩), .slice none 0 0, .int .i64 ((m : Int) + 1), .pointer (some ⟨w.heap.size + 1, 0, none⟩), .pointer (some ⟨w.heap.size + 1 + 1, 0, none⟩), u6, u7, .slice (some ⟨b, 0, none⟩) (m + 1) (m + 1), .int .i64 ((m : Int) + 1), .slice (some ⟨b, 0, none⟩) (m + 1) (m + 1), .int .i64 ((m : Int) + 1), .int .i64 m, .pointer (some ⟨b, m, none⟩), .bool true, .bool false, undef, undef, undef, u19, u20, u21, u22, u23, u24, u25, u26, u27, u28, u29, u30, u31, u32, u33, u34, u35, u36, u37, u38, u39, u40, u41, u42, u43, u44, u45, u46, u47, u48, u49, u50, u51, u52, undef], defers := marked Ds } ∧ GS w W b (m + 1) i l ∧ Mk (w.heap.size + 3) W Ds ∧ Hd2 t (m + 1) i l) (fun a W => m + 1 - cellNat W (w.heap.size + 1)) ⟨0, _, [], undef, undef, undef, undef, undef, undef, undef, undef, undef, undef, undef, undef, undef, undef, undef, undef, undef, undef, undef, undef, undef, undef, undef, undef, undef, undef, undef, undef, undef, undef, undef, undef, undef, undef, undef, undef, by omega, rfl, HG.out, Mk.nil _ _, HH.out⟩ ?_
    rintro a wr ⟨i, l, Ds, u6, u7, u19, u20, u21, u22, u23, u24, u25, u26, u27, u28, u29, u30, u31, u32, u33, u34, u35, u36, u37, u38, u39, u40, u41, u42, u43, u44, u45, u46, u47, u48, u49, u50, u51, u52, hi, rfl, hG, hM, hH⟩
    have HG := hide hG
    have HM := hide hM
    have HH := hide hH
    obtain ⟨c0, c1, _, _⟩ := hG.cells
    have hz1 := hG.lt
    have hz2 : w.heap.size + 1 < wr.heap.size := by omega
    have hz3 : w.heap.size < wr.heap.size := by omega
    have HC := hide (show cellNat wr (w.heap.size + 1) = i from by unfold cellNat; rw [c1]; rfl)
    clear hG hM hH
    by_cases hlt : i < m + 1
    · go_wp2_with fail
      refine (plmk_at _ _ _ _).mono ?_
      rintro e w' ⟨rfl, rfl⟩
      go_wp2_with fail
      have hbb : Below wr.heap.size wr (((wr.alloc (.cells #[.int .i64 (i : Nat), .int .i64 0] 41)).alloc (.cells #[.int .i64 (i : Nat), .int .i64 ((m : Int) + 1)] 41)).alloc (.cells #[.int .i64 ((m : Int) + 1)] 3)) := ((bal wr _).alloc (by simp) _).alloc (by simp; omega) _
      have hG3 := HG.out.on hbb
      have hM3 := HM.out.below hbb
      have hgp : (((wr.alloc (.cells #[.int .i64 (i : Nat), .int .i64 0] 41)).alloc (.cells #[.int .i64 (i : Nat), .int .i64 ((m : Int) + 1)] 41)).alloc (.cells #[.int .i64 ((m : Int) + 1)] 3)).heap[wr.heap.size]? = some (.cells #[.int .i64 (i : Nat), .int .i64 0] 41 (0, 0)) := (heap_alloc_old _ _ (by simp; omega)).trans (heap_alloc2_old wr _ _)
      have hA : (((wr.alloc (.cells #[.int .i64 (i : Nat), .int .i64 0] 41)).alloc (.cells #[.int .i64 (i : Nat), .int .i64 ((m : Int) + 1)] 41)).alloc (.cells #[.int .i64 ((m : Int) + 1)] 3)).heap[wr.heap.size + 1]? = some (.cells #[.int .i64 (i : Nat), .int .i64 ((m : Int) + 1)] 41 (0, 0)) := (heap_alloc_old _ _ (by simp)).trans (heap_alloc2_new wr _ _)
      have hN : (((wr.alloc (.cells #[.int .i64 (i : Nat), .int .i64 0] 41)).alloc (.cells #[.int .i64 (i : Nat), .int .i64 ((m : Int) + 1)] 41)).alloc (.cells #[.int .i64 ((m : Int) + 1)] 3)).heap[wr.heap.size + 1 + 1]? = some (.cells #[.int .i64 ((m + 1 : Nat) : Int)] 3 (0, 0)) := by
        have := heap_alloc_new ((wr.alloc (.cells #[.int .i64 (i : Nat), .int .i64 0] 41)).alloc (.cells #[.int .i64 (i : Nat), .int .i64 ((m : Int) + 1)] 41)) (.cells #[.int .i64 ((m : Int) + 1)] 3)
        simpa using this
      have hsz : wr.heap.size + 3 ≤ (((wr.alloc (.cells #[.int .i64 (i : Nat), .int .i64 0] 41)).alloc (.cells #[.int .i64 (i : Nat), .int .i64 ((m : Int) + 1)] 41)).alloc (.cells #[.int .i64 ((m : Int) + 1)] 3)).heap.size := by simp
      have hll := gs_len HH.out hi
      generalize ((wr.alloc (.cells #[.int .i64 (i : Nat), .int .i64 0] 41)).alloc (.cells #[.int .i64 (i : Nat), .int .i64 ((m : Int) + 1)] 41)).alloc (.cells #[.int .i64 ((m : Int) + 1)] 3) = W3 at hbb hG3 hM3 hgp hA hN hsz ⊢
      have hob : ∃ v, W3.heap[w.heap.size + 1 + 1]? = some (.cells #[v] 34 (0, 0)) ∧ ∀ k, v.ownBlock = some k → k < wr.heap.size := by
        obtain ⟨v, h1, h2⟩ := HG.out.ls
        exact ⟨v, (hbb.block _ (Array.getElem?_eq_some_iff.1 h1).1).trans h1, fun k hk => (own_block h2 hk).1⟩
      clear hbb HG HM c0 c1
      generalize wr.heap.size = gb at *
      have HI0 := hide (show GI w t b (m + 1) i gb l Ds [] W3 from ⟨hG3, hsz, hgp, hM3, by simp, hob⟩)
      have HDs := hide hM3.lt
      clear hG3 hM3 hgp hob
      refine' wp_pl (gb + 1) (gb + 1 + 1) (m + 1) (by omega) (by omega) i (by omega) ((m : Int) + 1) (by omega) rfl (by omega) (by omega) hA hN rfl
        (fun pre W => GI w t b (m + 1) i gb l Ds pre W)
        (fun c pre W => GX w t b (m + 1) i gb l Ds c pre W)
        (fun s A B row hs hg hr => hs.from hg hr (by omega) HDs.out)
        (fun c s A B row hs hg hr => hs.from hg hr (by omega) HDs.out)
        HI0.out _ ?assign ?body ?done ?stop
      case assign =>
        intro l x W K hK
        gi_wp2
        exact hK
      case body =>
        rintro lb pre ⟨x, hx⟩ W hGI hlen
        dsimp only at hx ⊢
        have HGI := hide hGI
        obtain ⟨k0, k1, f1, f2⟩ := hGI.gs.cells
        have kt : W.cell? ⟨b, x, none⟩ = some (.bool (t x)) := by rw [cell_of_row _ _ _ _ _ _ (hGI.gs.old HR.out), brow_get hx]
        have kg0 : W.cell? ⟨gb, 0, none⟩ = some (.int .i64 (i : Nat)) := by rw [cell_of_row _ _ _ _ _ _ hGI.gp]; rfl
        have kg : W.cell? ⟨gb, 1, none⟩ = some (.int .i64 (pre.length : Nat)) := by rw [cell_of_row _ _ _ _ _ _ hGI.gp]; rfl
        have fg : W.frozen? ⟨gb, 1, none⟩ = false := by simp [World.frozen?, hGI.gp]
        have hbW : b < W.heap.size := (Array.getElem?_eq_some_iff.1 (hGI.gs.old HR.out)).1
        have hplen : pre.length ≤ m := by omega
        have HSn := hide (show ∀ d : PE (m + 1), (pre ++ [d]).length = pre.length + 1 from fun d => by simp)
        clear hGI hA hN HI0
        cases ht : t x with
        | false =>
          have HT := hide ht
          rw [ht] at kt
          clear ht
          gi_wp2
          refine ⟨KeepsOthers.setCell _ _ _, fun h => ?_, ?_⟩
          · rw [setCell_other (by omega)]; exact h
          · exact gi_more HGI.out HT.out (by omega)
        | true =>
          have HT := hide ht
          rw [ht] at kt
          clear ht
          obtain ⟨kk, hkk⟩ : ∃ kk, kk = pre.length := ⟨_, rfl⟩
          rw [← hkk] at kg hplen
          have HK := hide hkk
          clear hkk
          by_cases hk0 : kk = 0
          · subst hk0
            by_cases hxi : x < i
            · have HE := hide (show GX w t b (m + 1) i gb l Ds (.exit 0) (pre ++ [⟨x, hx⟩]) W from
                ⟨HGI.out.mks, pre, ⟨x, hx⟩, i, rfl, HGI.out.fr, HT.out, by rw [← HK.out]; simpa using HGI.out.gs, .inl ⟨rfl, hxi, rfl⟩⟩)
              gi_wp2
              exact ⟨KeepsOthers.refl _, HE.out⟩
            · have HE := hide (show GX w t b (m + 1) i gb l Ds (.exit 1) (pre ++ [⟨x, hx⟩]) (W.setCell ⟨w.heap.size + 1, 0, none⟩ (.int .i64 ((x + 1 : Nat) : Int))) from
                ⟨HGI.out.mks.on (KeepsOthers.setCell _ _ _), pre, ⟨x, hx⟩, x + 1, rfl, HGI.out.fr, HT.out, by rw [← HK.out]; simpa using HGI.out.gs.goes (x + 1), .inr ⟨rfl, by dsimp only; omega, rfl⟩⟩)
              gi_wp2
              exact ⟨KeepsOthers.setCell _ _ _, HE.out⟩
          · obtain ⟨v, l1, l2⟩ := HGI.out.gs.ls
            obtain ⟨A, c, rfl⟩ := own_slice l2
            have kl : W.cell? ⟨w.heap.size + 1 + 1, 0, none⟩ = some (.slice A (toI l).length c) := by rw [cell_of_row _ _ _ _ _ _ l1]; rfl
            have HL1 := hide l1
            have HL2 := hide l2
            have hl1000 : (toI l).length ≤ 100000 := by rw [toI_len]; omega
            have hWz : w.heap.size + 3 ≤ W.heap.size := by have := HGI.out.gs.lt; omega
            have hgW : gb < W.heap.size := (Array.getElem?_eq_some_iff.1 HGI.out.gp).1
            have hwW : w.heap.size + 1 + 1 < W.heap.size := by omega
            have hwW1 : w.heap.size + 1 < W.heap.size := by omega
            have HAp := hide (fun (o : Obj) (w4 : World) (v4 : Value) hg h4 => gs_app (i := i) (kk := kk) (v4 := v4) (w4 := w4) (o := o) HGI.out.gs l1 l2 hg h4)
            clear l1 l2
            generalize hN : (toI l).length = N at *
            have HN := hide hN
            clear hN
            have hk1 : 0 < kk := by omega
            by_cases hxi : x < i
            · gi_wp2_with (gi_at_builtin; refine wpListIn_one _ rfl _ _ 34 rfl 41 (.agg #[.int .i64 0, .int .i64 0]) 2 16 under_arcs info_arc rfl (by decide) (by decide) (w.heap.size + 3) _ _ _ rfl (by first | exact own_below HL2.out (bal W _) (Nat.le_refl _) | (have := own_below HL2.out (bal W (.cells #[.int .i64 (i : Nat), .int .i64 (kk : Nat)] 41)) (Nat.le_refl _); unfold OwnA at this; rw [HN.out] at this; exact this)) _ _ [.int .i64 (i : Nat), .int .i64 (kk : Nat)] rfl (heap_alloc_new W _) rfl (by simp [Value.oneCell']) hl1000 (by simp; omega) ?_; intro v' w4 hown4 hgr4 hwh; obtain ⟨A4, c4, rfl⟩ := own_slice hown4; obtain ⟨a1, a2, a3, a4⟩ := HAp.out _ _ _ hgr4 hown4; have HKo := hide a2; have HGs := hide a4; have e1 : w4.cell? ⟨w.heap.size + 1, 0, none⟩ = some (.int .i64 (i : Nat)) := (by rw [cell_of_row _ _ _ _ _ _ ((a1 _ (by omega)).trans HGI.out.gs.fr)]; rfl); have e2 : w4.frozen? ⟨w.heap.size + 1, 0, none⟩ = false := (by simp [World.frozen?, (a1 _ (show w.heap.size + 1 < w.heap.size + 3 by omega)).trans HGI.out.gs.fr]); have e3 : w4.frozen? ⟨w.heap.size + 1 + 1, 0, none⟩ = false := (by simp [World.frozen?, (a1 _ (show w.heap.size + 1 + 1 < w.heap.size + 3 by omega)).trans HL1.out]); have e5 : w4.cell? ⟨w.heap.size + 1 + 1, 0, none⟩ = some (.slice A N c) := (by rw [cell_of_row _ _ _ _ _ _ ((a1 _ (by omega)).trans HL1.out)]; rfl); clear hown4 hgr4 hwh a1 a2 a3 a4)
              exact ⟨HKo.out.trans (KeepsOthers.setCell _ _ _), ⟨HGI.out.mks.on (HKo.out.trans (KeepsOthers.setCell _ _ _)), pre, ⟨x, hx⟩, i, rfl, HGI.out.fr, HT.out, by rw [← HK.out, if_pos hk1]; exact HGs.out, .inl ⟨rfl, hxi, rfl⟩⟩⟩
            · gi_wp2_with (gi_at_builtin; refine wpListIn_one _ rfl _ _ 34 rfl 41 (.agg #[.int .i64 0, .int .i64 0]) 2 16 under_arcs info_arc rfl (by decide) (by decide) (w.heap.size + 3) _ _ _ rfl (by first | exact own_below HL2.out (bal W _) (Nat.le_refl _) | (have := own_below HL2.out (bal W (.cells #[.int .i64 (i : Nat), .int .i64 (kk : Nat)] 41)) (Nat.le_refl _); unfold OwnA at this; rw [HN.out] at this; exact this)) _ _ [.int .i64 (i : Nat), .int .i64 (kk : Nat)] rfl (heap_alloc_new W _) rfl (by simp [Value.oneCell']) hl1000 (by simp; omega) ?_; intro v' w4 hown4 hgr4 hwh; obtain ⟨A4, c4, rfl⟩ := own_slice hown4; obtain ⟨a1, a2, a3, a4⟩ := HAp.out _ _ _ hgr4 hown4; have HKo := hide a2; have HGs := hide a4; have e1 : w4.cell? ⟨w.heap.size + 1, 0, none⟩ = some (.int .i64 (i : Nat)) := (by rw [cell_of_row _ _ _ _ _ _ ((a1 _ (by omega)).trans HGI.out.gs.fr)]; rfl); have e2 : w4.frozen? ⟨w.heap.size + 1, 0, none⟩ = false := (by simp [World.frozen?, (a1 _ (show w.heap.size + 1 < w.heap.size + 3 by omega)).trans HGI.out.gs.fr]); have e3 : w4.frozen? ⟨w.heap.size + 1 + 1, 0, none⟩ = false := (by simp [World.frozen?, (a1 _ (show w.heap.size + 1 + 1 < w.heap.size + 3 by omega)).trans HL1.out]); have e5 : w4.cell? ⟨w.heap.size + 1 + 1, 0, none⟩ = some (.slice A N c) := (by rw [cell_of_row _ _ _ _ _ _ ((a1 _ (by omega)).trans HL1.out)]; rfl); clear hown4 hgr4 hwh a1 a2 a3 a4)
              exact ⟨(HKo.out.trans (KeepsOthers.setCell _ _ _)).trans (KeepsOthers.setCell _ _ _), ⟨HGI.out.mks.on ((HKo.out.trans (KeepsOthers.setCell _ _ _)).trans (KeepsOthers.setCell _ _ _)), pre, ⟨x, hx⟩, x + 1, rfl, HGI.out.fr, HT.out, by rw [← HK.out, if_pos hk1]; exact HGs.out.goes (x + 1), .inr ⟨rfl, by dsimp only; omega, rfl⟩⟩⟩
      case done =>
        rintro D W hD hGI hK
        have hall : anyT t (m + 1) = false := anyT_false.2 fun q hq => hGI.fr ⟨q, hq⟩ (by
          rw [show ((m : Int) + 1).toNat = m + 1 by omega]
          exact plL_all _ hlt q hq)
        rcases HH.out with ⟨hd, _⟩ | ⟨_, rfl, rfl⟩
        · rw [hd_any (by omega) hd] at hall; cases hall
        · have HV := hide (show gapF t (m + 1) = [(0, m + 1)] from by unfold gapF; rw [hall]; rfl)
          have hgp := hGI.gp
          rw [plL_len, show ((m : Int) + 1).toNat = m + 1 by omega] at hgp
          have kg0 : W.cell? ⟨gb, 0, none⟩ = some (.int .i64 0) := by rw [cell_of_row _ _ _ _ _ _ hgp]; rfl
          have kg : W.cell? ⟨gb, 1, none⟩ = some (.int .i64 ((m : Int) + 1)) := by rw [cell_of_row _ _ _ _ _ _ hgp]; rfl
          have hgW : gb < W.heap.size := (Array.getElem?_eq_some_iff.1 hgp).1
          have HMk := hide ((hGI.mks.more (D := D) (by omega) hK fun h => by have := HDs.out D h; omega).below (bal W (.cells #[.int .i64 0, .int .i64 ((m : Int) + 1)] 41)))
          have HBl := hide (hGI.gs.bel.alloc hGI.gs.bel.size (.cells #[.int .i64 0, .int .i64 ((m : Int) + 1)] 41))
          have hwW : w.heap.size ≤ W.heap.size := hGI.gs.bel.size
          clear hGI hall hgp hA hN HI0
          go_wp2_with fail
          rw [Exit.noGoto_ret]
          refine leave_ret HMk.out ?_
          intro W' hb' hk'
          refine ⟨.slice (some ⟨W.heap.size, 0, none⟩) 1 1, by simp [results, Try.results41, go_sem], _, rfl, ?_, HBl.out.trans (hb'.mono (by omega))⟩
          rw [HV.out]
          exact ⟨rfl, .inr ⟨W.heap.size, 1, #[.int .i64 0, .int .i64 ((m : Int) + 1)], rfl, hwW, hk'.same _ _ (heap_alloc_new W _) rfl, Nat.le_refl _, by simp [maxLen], rfl, rfl⟩⟩
      case stop =>
        rintro D j k W hD hk hGX hK
        obtain ⟨pre', ⟨x, hx⟩, i', e, hfr, htx, hgs, hcase⟩ := hGX.out
        dsimp only at htx hcase
        have hlen : k = pre'.length + 1 := by
          have := congrArg List.length e
          rw [plL_len] at this
          simpa using this
        subst hlen
        rw [plL_succ] at e
        obtain ⟨e1, e2⟩ := List.append_inj' e rfl
        have e2 : (i + pre'.length) % (m + 1) = x := by
          have := List.cons.inj e2
          exact congrArg Subtype.val this.1
        have hfree : ∀ j, j < pre'.length → t ((i + j) % (m + 1)) = false := fun j hj => by
          refine hfr ⟨(i + j) % (m + 1), Nat.mod_lt _ (by omega)⟩ ?_
          rw [← e1]
          unfold plL
          exact List.mem_map.2 ⟨j, by simpa using hj, rfl⟩
        have hkm : pre'.length < m + 1 := by omega
        generalize pre'.length = kk at *
        have hrun : IsRun t (m + 1) i kk := ⟨by omega, hfree, fun _ => by rw [e2]; exact htx⟩
        rcases HH.out with ⟨hd, hl⟩ | ⟨hno, _, _⟩
        · have HMk := hide (hGX.mks.more (D := D) (by omega) hK fun h => by have := HDs.out D h; omega)
          have hhs : (i + kk) % (m + 1) = if i + kk < m + 1 then i + kk else i + kk - (m + 1) := mod2N (by omega)
          rcases hcase with ⟨rfl, hxi, rfl⟩ | ⟨rfl, hxi, rfl⟩
          · have hw : m + 1 ≤ i' + kk := by
              apply Nat.le_of_not_lt
              intro h
              rw [if_pos h] at hhs
              omega
            have HV := hide (show gapF t (m + 1) = l ++ [(i', kk)] from by
              unfold gapF; rw [hd_any (by omega) hd]
              rw [hl]; exact step_end hd hrun hlt hw)
            rw [if_pos (show 0 < kk by omega), ← HV.out] at hgs
            obtain ⟨v, g1, g2⟩ := hgs.ls
            have kl : W.cell? ⟨w.heap.size + 1 + 1, 0, none⟩ = some v := by rw [cell_of_row _ _ _ _ _ _ g1]; rfl
            obtain ⟨A, c, rfl⟩ := own_slice g2
            have HBl := hide hgs.bel
            have HO := hide g2
            clear hGX hgs g1 g2 hA hN HI0 hrun hfr hfree e e1
            go_wp2_with fail
            rw [Exit.noGoto_ret]
            refine leave_ret HMk.out ?_
            intro W' hb' hk'
            refine ⟨.slice A (toI (gapF t (m + 1))).length c, by simp [results, Try.results41, go_sem], _, rfl, ?_, HBl.out.trans (hb'.mono (by omega))⟩
            have := own_cells HO.out hk'
            refine ⟨this.1, ?_⟩
            rcases this.2 with h | ⟨g, cap, cur, a, b, d⟩
            · exact .inl h
            · exact .inr ⟨g, cap, cur, a, by omega, d⟩
          · have hw : i + kk < m + 1 := by
              apply Nat.lt_of_not_le
              intro h
              rw [if_neg (by omega)] at hhs
              omega
            rw [if_pos hw] at hhs
            have hxe : x = i + kk := by omega
            obtain ⟨s1, s2⟩ := step_on hd hrun hw
            have HH2 : Hid (Hd2 t (m + 1) (x + 1) (l ++ if 0 < kk then [(i, kk)] else [])) := .inl ⟨by rw [hxe]; exact s2, by rw [hxe, s1, hl]⟩
            have HG2 := hide hgs
            have HMs := hide (show m + 1 - cellNat W (w.heap.size + 1) < m + 1 - cellNat wr (w.heap.size + 1) from by
              rw [HC.out]
              have : cellNat W (w.heap.size + 1) = x + 1 := by unfold cellNat; rw [hgs.cells.2.1]; rfl
              omega)
            clear hGX hgs hA hN HI0 hrun hfr hfree e e1
            go_wp2_with fail
            exact ⟨⟨x + 1, _, D :: Ds, _, _, _, _, _, _, _, _, _, _, _, _, _, _, _, _, _, _, _, _, _, _, _, _, _, _, _, _, _, _, _, _, _, _, _, _, by omega, rfl, HG2.out, HMk.out, HH2.out⟩, HMs.out⟩
        · rw [anyT_false.1 hno x hx] at htx; cases htx
    · obtain rfl : i = m + 1 := by omega
      rcases HH.out with ⟨hd, hl⟩ | ⟨_, h0, _⟩
      · have HV := hide (show gapF t (m + 1) = l from by unfold gapF; rw [hd_any (by omega) hd, hl]; rfl)
        have hgs := HG.out
        rw [← HV.out] at hgs
        obtain ⟨v, g1, g2⟩ := hgs.ls
        have kl : wr.cell? ⟨w.heap.size + 1 + 1, 0, none⟩ = some v := by rw [cell_of_row _ _ _ _ _ _ g1]; rfl
        obtain ⟨A, c, rfl⟩ := own_slice g2
        have HBl := hide hgs.bel
        have HO := hide g2
        clear hgs g1 g2 hd hl
        go_wp2_with fail
        rw [Exit.noGoto_ret]
        refine leave_ret HM.out ?_
        intro W' hb' hk'
        refine ⟨.slice A (toI (gapF t (m + 1))).length c, by simp [results, Try.results41, go_sem], _, rfl, ?_, HBl.out.trans (hb'.mono (by omega))⟩
        have := own_cells HO.out hk'
        refine ⟨this.1, ?_⟩
        rcases this.2 with h | ⟨g, cap, cur, a, b, d⟩
        · exact .inl h
        · exact .inr ⟨g, cap, cur, a, by omega, d⟩
      · omega
  | false =>
    obtain ⟨q, hq, hqm, hH⟩ : ∃ q : Nat, idxF t (m + 1) = (q : Int) - 1 ∧ q ≤ m + 1 ∧ Hd2 t (m + 1) q [] := by
      by_cases ha : anyT t (m + 1) = true
      · obtain ⟨q, hq, hqt, hqb⟩ := least_of ha
        obtain ⟨h1, h2⟩ := first_hd hq hqt hqb (show t (m + 1 - 1) = false from hlast)
        exact ⟨q + 1, by rw [idx_some hq hqt hqb]; omega, by omega, .inl ⟨h2, h1.symm⟩⟩
      · have ha : anyT t (m + 1) = false := by simpa using ha
        exact ⟨0, by rw [idx_none (anyT_false.1 ha)]; omega, by omega, .inr ⟨ha, rfl, rfl⟩⟩
    have HH := hide hH
    have HLs := hide hlast
    rw [hlast] at hc0
    rw [hq] at HIx
    clear hlast hH hq
    refine calls_of_wp_marks Try.func41 rfl ?_
    simp only [Try.ntmps41, List.size_toArray, List.length_cons, List.length_nil, Nat.reduceAdd, Nat.reduceSub, Array.replicate_succ, Array.replicate_zero, List.push_toArray, List.append_toArray, List.nil_append, List.cons_append]
    go_wp2_with fail
    go_step3
    have cB : (w.alloc (.cells #[.slice (some ⟨b, 0, none⟩) (m + 1) (m + 1)] 65)).cell? ⟨w.heap.size, 0, none⟩ = some (.slice (some ⟨b, 0, none⟩) (m + 1) (m + 1)) := by rw [cell_of_row _ _ _ _ _ _ (heap_alloc_new w _)]; rfl
    go_wp2_with fail
    refine (HIx.out _ (by first | exact (Below.block (bal w _) b hbl).trans HR.out | exact ((bal w _).alloc (by simp) _).block b hbl |>.trans HR.out)).mono ?_
    rintro e w' ⟨rfl, rfl⟩
    go_wp2_with fail

    have HG : Hid (GS w (((w.alloc (.cells #[.slice (some ⟨b, 0, none⟩) (m + 1) (m + 1)] 65)).alloc (.cells #[.int .i64 (q : Nat)] 3)).alloc (.cells #[.slice none 0 0] 34)) b (m + 1) q []) := start_gs w b (m + 1) q
    go_step3
    go_wp2_with fail
    generalize ((w.alloc (.cells #[.slice (some ⟨b, 0, none⟩) (m + 1) (m + 1)] 65)).alloc (.cells #[.int .i64 (q : Nat)] 3)).alloc (.cells #[.slice none 0 0] 34) = W1 at *
    refine wp_loop (fun a W => ∃ (i : Nat) (l : List Ar) (Ds : List Nat) (u6 u7 u19 u20 u21 u22 u23 u24 u25 u26 u27 u28 u29 u30 u31 u32 u33 u34 u35 u36 u37 u38 u39 u40 u41 u42 u43 u44 u45 u46 u47 u48 u49 u50 u51 u52 : Value), i ≤ m + 1 ∧ a = { tmps := #[Value.slice (some ⟨b, 0, none⟩) (m + 1) (m + 1), .pointer (some ⟨w.heap.size, 0, none⟩), .slice none 0 0, .int .i64 ((m : Int) + 1), .pointer (some ⟨w.heap.size + 1, 0, none⟩), .pointer (some ⟨w.heap.size + 1 + 1, 0, none⟩), u6, u7, .slice (some ⟨b, 0, none⟩) (m + 1) (m + 1), .int .i64 ((m : Int) + 1), .slice (some ⟨b, 0, none⟩) (m + 1) (m + 1), .int .i64 ((m : Int) + 1), .int .i64 m, .pointer (some ⟨b, m, none⟩), .bool false, .bool true, .slice (some ⟨b, 0, none⟩) (m + 1) (m + 1), .int .i64 ((q : Int) - 1), .int .i64 (q : Nat), u19, u20, u21, u22, u23, u24, u25, u26, u27, u28, u29, u30, u31, u32, u33, u34, u35, u36, u37, u38, u39, u40, u41, u42, u43, u44, u45, u46, u47, u48, u49, u50, u51, u52, undef], defers := marked Ds } ∧ GS w W b (m + 1) i l ∧ Mk (w.heap.size + 3) W Ds ∧ Hd2 t (m + 1) i l) (fun a W => m + 1 - cellNat W (w.heap.size + 1)) ⟨q, _, [], undef, undef, undef, undef, undef, undef, undef, undef, undef, undef, undef, undef, undef, undef, undef, undef, undef, undef, undef, undef, undef, undef, undef, undef, undef, undef, undef, undef, undef, undef, undef, undef, undef, undef, undef, undef, by omega, rfl, HG.out, Mk.nil _ _, HH.out⟩ ?_
    rintro a wr ⟨i, l, Ds, u6, u7, u19, u20, u21, u22, u23, u24, u25, u26, u27, u28, u29, u30, u31, u32, u33, u34, u35, u36, u37, u38, u39, u40, u41, u42, u43, u44, u45, u46, u47, u48, u49, u50, u51, u52, hi, rfl, hG, hM, hH⟩
    have HG := hide hG
    have HM := hide hM
    have HH := hide hH
    obtain ⟨c0, c1, _, _⟩ := hG.cells
    have hz1 := hG.lt
    have hz2 : w.heap.size + 1 < wr.heap.size := by omega
    have hz3 : w.heap.size < wr.heap.size := by omega
    have HC := hide (show cellNat wr (w.heap.size + 1) = i from by unfold cellNat; rw [c1]; rfl)
    clear hG hM hH
    by_cases hlt : i < m + 1
    · go_wp2_with fail
      refine (plmk_at _ _ _ _).mono ?_
      rintro e w' ⟨rfl, rfl⟩
      go_wp2_with fail
      have hbb : Below wr.heap.size wr (((wr.alloc (.cells #[.int .i64 (i : Nat), .int .i64 0] 41)).alloc (.cells #[.int .i64 (i : Nat), .int .i64 ((m : Int) + 1)] 41)).alloc (.cells #[.int .i64 ((m : Int) + 1)] 3)) := ((bal wr _).alloc (by simp) _).alloc (by simp; omega) _
      have hG3 := HG.out.on hbb
      have hM3 := HM.out.below hbb
      have hgp : (((wr.alloc (.cells #[.int .i64 (i : Nat), .int .i64 0] 41)).alloc (.cells #[.int .i64 (i : Nat), .int .i64 ((m : Int) + 1)] 41)).alloc (.cells #[.int .i64 ((m : Int) + 1)] 3)).heap[wr.heap.size]? = some (.cells #[.int .i64 (i : Nat), .int .i64 0] 41 (0, 0)) := (heap_alloc_old _ _ (by simp; omega)).trans (heap_alloc2_old wr _ _)
      have hA : (((wr.alloc (.cells #[.int .i64 (i : Nat), .int .i64 0] 41)).alloc (.cells #[.int .i64 (i : Nat), .int .i64 ((m : Int) + 1)] 41)).alloc (.cells #[.int .i64 ((m : Int) + 1)] 3)).heap[wr.heap.size + 1]? = some (.cells #[.int .i64 (i : Nat), .int .i64 ((m : Int) + 1)] 41 (0, 0)) := (heap_alloc_old _ _ (by simp)).trans (heap_alloc2_new wr _ _)
      have hN : (((wr.alloc (.cells #[.int .i64 (i : Nat), .int .i64 0] 41)).alloc (.cells #[.int .i64 (i : Nat), .int .i64 ((m : Int) + 1)] 41)).alloc (.cells #[.int .i64 ((m : Int) + 1)] 3)).heap[wr.heap.size + 1 + 1]? = some (.cells #[.int .i64 ((m + 1 : Nat) : Int)] 3 (0, 0)) := by
        have := heap_alloc_new ((wr.alloc (.cells #[.int .i64 (i : Nat), .int .i64 0] 41)).alloc (.cells #[.int .i64 (i : Nat), .int .i64 ((m : Int) + 1)] 41)) (.cells #[.int .i64 ((m : Int) + 1)] 3)
        simpa using this
      have hsz : wr.heap.size + 3 ≤ (((wr.alloc (.cells #[.int .i64 (i : Nat), .int .i64 0] 41)).alloc (.cells #[.int .i64 (i : Nat), .int .i64 ((m : Int) + 1)] 41)).alloc (.cells #[.int .i64 ((m : Int) + 1)] 3)).heap.size := by simp
      have hll := gs_len HH.out hi
      generalize ((wr.alloc (.cells #[.int .i64 (i : Nat), .int .i64 0] 41)).alloc (.cells #[.int .i64 (i : Nat), .int .i64 ((m : Int) + 1)] 41)).alloc (.cells #[.int .i64 ((m : Int) + 1)] 3) = W3 at hbb hG3 hM3 hgp hA hN hsz ⊢
      have hob : ∃ v, W3.heap[w.heap.size + 1 + 1]? = some (.cells #[v] 34 (0, 0)) ∧ ∀ k, v.ownBlock = some k → k < wr.heap.size := by
        obtain ⟨v, h1, h2⟩ := HG.out.ls
        exact ⟨v, (hbb.block _ (Array.getElem?_eq_some_iff.1 h1).1).trans h1, fun k hk => (own_block h2 hk).1⟩
      clear hbb HG HM c0 c1
      generalize wr.heap.size = gb at *
      have HI0 := hide (show GI w t b (m + 1) i gb l Ds [] W3 from ⟨hG3, hsz, hgp, hM3, by simp, hob⟩)
      have HDs := hide hM3.lt
      clear hG3 hM3 hgp hob
      refine' wp_pl (gb + 1) (gb + 1 + 1) (m + 1) (by omega) (by omega) i (by omega) ((m : Int) + 1) (by omega) rfl (by omega) (by omega) hA hN rfl
        (fun pre W => GI w t b (m + 1) i gb l Ds pre W)
        (fun c pre W => GX w t b (m + 1) i gb l Ds c pre W)
        (fun s A B row hs hg hr => hs.from hg hr (by omega) HDs.out)
        (fun c s A B row hs hg hr => hs.from hg hr (by omega) HDs.out)
        HI0.out _ ?assign ?body ?done ?stop
      case assign =>
        intro l x W K hK
        gi_wp2
        exact hK
      case body =>
        rintro lb pre ⟨x, hx⟩ W hGI hlen
        dsimp only at hx ⊢
        have HGI := hide hGI
        obtain ⟨k0, k1, f1, f2⟩ := hGI.gs.cells
        have kt : W.cell? ⟨b, x, none⟩ = some (.bool (t x)) := by rw [cell_of_row _ _ _ _ _ _ (hGI.gs.old HR.out), brow_get hx]
        have kg0 : W.cell? ⟨gb, 0, none⟩ = some (.int .i64 (i : Nat)) := by rw [cell_of_row _ _ _ _ _ _ hGI.gp]; rfl
        have kg : W.cell? ⟨gb, 1, none⟩ = some (.int .i64 (pre.length : Nat)) := by rw [cell_of_row _ _ _ _ _ _ hGI.gp]; rfl
        have fg : W.frozen? ⟨gb, 1, none⟩ = false := by simp [World.frozen?, hGI.gp]
        have hbW : b < W.heap.size := (Array.getElem?_eq_some_iff.1 (hGI.gs.old HR.out)).1
        have hplen : pre.length ≤ m := by omega
        have HSn := hide (show ∀ d : PE (m + 1), (pre ++ [d]).length = pre.length + 1 from fun d => by simp)
        clear hGI hA hN HI0
        cases ht : t x with
        | false =>
          have HT := hide ht
          rw [ht] at kt
          clear ht
          gi_wp2
          refine ⟨KeepsOthers.setCell _ _ _, fun h => ?_, ?_⟩
          · rw [setCell_other (by omega)]; exact h
          · exact gi_more HGI.out HT.out (by omega)
        | true =>
          have HT := hide ht
          rw [ht] at kt
          clear ht
          obtain ⟨kk, hkk⟩ : ∃ kk, kk = pre.length := ⟨_, rfl⟩
          rw [← hkk] at kg hplen
          have HK := hide hkk
          clear hkk
          by_cases hk0 : kk = 0
          · subst hk0
            by_cases hxi : x < i
            · have HE := hide (show GX w t b (m + 1) i gb l Ds (.exit 0) (pre ++ [⟨x, hx⟩]) W from
                ⟨HGI.out.mks, pre, ⟨x, hx⟩, i, rfl, HGI.out.fr, HT.out, by rw [← HK.out]; simpa using HGI.out.gs, .inl ⟨rfl, hxi, rfl⟩⟩)
              gi_wp2
              exact ⟨KeepsOthers.refl _, HE.out⟩
            · have HE := hide (show GX w t b (m + 1) i gb l Ds (.exit 1) (pre ++ [⟨x, hx⟩]) (W.setCell ⟨w.heap.size + 1, 0, none⟩ (.int .i64 ((x + 1 : Nat) : Int))) from
                ⟨HGI.out.mks.on (KeepsOthers.setCell _ _ _), pre, ⟨x, hx⟩, x + 1, rfl, HGI.out.fr, HT.out, by rw [← HK.out]; simpa using HGI.out.gs.goes (x + 1), .inr ⟨rfl, by dsimp only; omega, rfl⟩⟩)
              gi_wp2
              exact ⟨KeepsOthers.setCell _ _ _, HE.out⟩
          · obtain ⟨v, l1, l2⟩ := HGI.out.gs.ls
            obtain ⟨A, c, rfl⟩ := own_slice l2
            have kl : W.cell? ⟨w.heap.size + 1 + 1, 0, none⟩ = some (.slice A (toI l).length c) := by rw [cell_of_row _ _ _ _ _ _ l1]; rfl
            have HL1 := hide l1
            have HL2 := hide l2
            have hl1000 : (toI l).length ≤ 100000 := by rw [toI_len]; omega
            have hWz : w.heap.size + 3 ≤ W.heap.size := by have := HGI.out.gs.lt; omega
            have hgW : gb < W.heap.size := (Array.getElem?_eq_some_iff.1 HGI.out.gp).1
            have hwW : w.heap.size + 1 + 1 < W.heap.size := by omega
            have hwW1 : w.heap.size + 1 < W.heap.size := by omega
            have HAp := hide (fun (o : Obj) (w4 : World) (v4 : Value) hg h4 => gs_app (i := i) (kk := kk) (v4 := v4) (w4 := w4) (o := o) HGI.out.gs l1 l2 hg h4)
            clear l1 l2
            generalize hN : (toI l).length = N at *
            have HN := hide hN
            clear hN
            have hk1 : 0 < kk := by omega
            by_cases hxi : x < i
            · gi_wp2_with (gi_at_builtin; refine wpListIn_one _ rfl _ _ 34 rfl 41 (.agg #[.int .i64 0, .int .i64 0]) 2 16 under_arcs info_arc rfl (by decide) (by decide) (w.heap.size + 3) _ _ _ rfl (by first | exact own_below HL2.out (bal W _) (Nat.le_refl _) | (have := own_below HL2.out (bal W (.cells #[.int .i64 (i : Nat), .int .i64 (kk : Nat)] 41)) (Nat.le_refl _); unfold OwnA at this; rw [HN.out] at this; exact this)) _ _ [.int .i64 (i : Nat), .int .i64 (kk : Nat)] rfl (heap_alloc_new W _) rfl (by simp [Value.oneCell']) hl1000 (by simp; omega) ?_; intro v' w4 hown4 hgr4 hwh; obtain ⟨A4, c4, rfl⟩ := own_slice hown4; obtain ⟨a1, a2, a3, a4⟩ := HAp.out _ _ _ hgr4 hown4; have HKo := hide a2; have HGs := hide a4; have e1 : w4.cell? ⟨w.heap.size + 1, 0, none⟩ = some (.int .i64 (i : Nat)) := (by rw [cell_of_row _ _ _ _ _ _ ((a1 _ (by omega)).trans HGI.out.gs.fr)]; rfl); have e2 : w4.frozen? ⟨w.heap.size + 1, 0, none⟩ = false := (by simp [World.frozen?, (a1 _ (show w.heap.size + 1 < w.heap.size + 3 by omega)).trans HGI.out.gs.fr]); have e3 : w4.frozen? ⟨w.heap.size + 1 + 1, 0, none⟩ = false := (by simp [World.frozen?, (a1 _ (show w.heap.size + 1 + 1 < w.heap.size + 3 by omega)).trans HL1.out]); have e5 : w4.cell? ⟨w.heap.size + 1 + 1, 0, none⟩ = some (.slice A N c) := (by rw [cell_of_row _ _ _ _ _ _ ((a1 _ (by omega)).trans HL1.out)]; rfl); clear hown4 hgr4 hwh a1 a2 a3 a4)
              exact ⟨HKo.out.trans (KeepsOthers.setCell _ _ _), ⟨HGI.out.mks.on (HKo.out.trans (KeepsOthers.setCell _ _ _)), pre, ⟨x, hx⟩, i, rfl, HGI.out.fr, HT.out, by rw [← HK.out, if_pos hk1]; exact HGs.out, .inl ⟨rfl, hxi, rfl⟩⟩⟩
            · gi_wp2_with (gi_at_builtin; refine wpListIn_one _ rfl _ _ 34 rfl 41 (.agg #[.int .i64 0, .int .i64 0]) 2 16 under_arcs info_arc rfl (by decide) (by decide) (w.heap.size + 3) _ _ _ rfl (by first | exact own_below HL2.out (bal W _) (Nat.le_refl _) | (have := own_below HL2.out (bal W (.cells #[.int .i64 (i : Nat), .int .i64 (kk : Nat)] 41)) (Nat.le_refl _); unfold OwnA at this; rw [HN.out] at this; exact this)) _ _ [.int .i64 (i : Nat), .int .i64 (kk : Nat)] rfl (heap_alloc_new W _) rfl (by simp [Value.oneCell']) hl1000 (by simp; omega) ?_; intro v' w4 hown4 hgr4 hwh; obtain ⟨A4, c4, rfl⟩ := own_slice hown4; obtain ⟨a1, a2, a3, a4⟩ := HAp.out _ _ _ hgr4 hown4; have HKo := hide a2; have HGs := hide a4; have e1 : w4.cell? ⟨w.heap.size + 1, 0, none⟩ = some (.int .i64 (i : Nat)) := (by rw [cell_of_row _ _ _ _ _ _ ((a1 _ (by omega)).trans HGI.out.gs.fr)]; rfl); have e2 : w4.frozen? ⟨w.heap.size + 1, 0, none⟩ = false := (by simp [World.frozen?, (a1 _ (show w.heap.size + 1 < w.heap.size + 3 by omega)).trans HGI.out.gs.fr]); have e3 : w4.frozen? ⟨w.heap.size + 1 + 1, 0, none⟩ = false := (by simp [World.frozen?, (a1 _ (show w.heap.size + 1 + 1 < w.heap.size + 3 by omega)).trans HL1.out]); have e5 : w4.cell? ⟨w.heap.size + 1 + 1, 0, none⟩ = some (.slice A N c) := (by rw [cell_of_row _ _ _ _ _ _ ((a1 _ (by omega)).trans HL1.out)]; rfl); clear hown4 hgr4 hwh a1 a2 a3 a4)
              exact ⟨(HKo.out.trans (KeepsOthers.setCell _ _ _)).trans (KeepsOthers.setCell _ _ _), ⟨HGI.out.mks.on ((HKo.out.trans (KeepsOthers.setCell _ _ _)).trans (KeepsOthers.setCell _ _ _)), pre, ⟨x, hx⟩, x + 1, rfl, HGI.out.fr, HT.out, by rw [← HK.out, if_pos hk1]; exact HGs.out.goes (x + 1), .inr ⟨rfl, by dsimp only; omega, rfl⟩⟩⟩
      case done =>
        rintro D W hD hGI hK
        have hall : anyT t (m + 1) = false := anyT_false.2 fun q hq => hGI.fr ⟨q, hq⟩ (by
          rw [show ((m : Int) + 1).toNat = m + 1 by omega]
          exact plL_all _ hlt q hq)
        rcases HH.out with ⟨hd, _⟩ | ⟨_, rfl, rfl⟩
        · rw [hd_any (by omega) hd] at hall; cases hall
        · have HV := hide (show gapF t (m + 1) = [(0, m + 1)] from by unfold gapF; rw [hall]; rfl)
          have hgp := hGI.gp
          rw [plL_len, show ((m : Int) + 1).toNat = m + 1 by omega] at hgp
          have kg0 : W.cell? ⟨gb, 0, none⟩ = some (.int .i64 0) := by rw [cell_of_row _ _ _ _ _ _ hgp]; rfl
          have kg : W.cell? ⟨gb, 1, none⟩ = some (.int .i64 ((m : Int) + 1)) := by rw [cell_of_row _ _ _ _ _ _ hgp]; rfl
          have hgW : gb < W.heap.size := (Array.getElem?_eq_some_iff.1 hgp).1
          have HMk := hide ((hGI.mks.more (D := D) (by omega) hK fun h => by have := HDs.out D h; omega).below (bal W (.cells #[.int .i64 0, .int .i64 ((m : Int) + 1)] 41)))
          have HBl := hide (hGI.gs.bel.alloc hGI.gs.bel.size (.cells #[.int .i64 0, .int .i64 ((m : Int) + 1)] 41))
          have hwW : w.heap.size ≤ W.heap.size := hGI.gs.bel.size
          clear hGI hall hgp hA hN HI0
          go_wp2_with fail
          rw [Exit.noGoto_ret]
          refine leave_ret HMk.out ?_
          intro W' hb' hk'
          refine ⟨.slice (some ⟨W.heap.size, 0, none⟩) 1 1, by simp [results, Try.results41, go_sem], _, rfl, ?_, HBl.out.trans (hb'.mono (by omega))⟩
          rw [HV.out]
          exact ⟨rfl, .inr ⟨W.heap.size, 1, #[.int .i64 0, .int .i64 ((m : Int) + 1)], rfl, hwW, hk'.same _ _ (heap_alloc_new W _) rfl, Nat.le_refl _, by simp [maxLen], rfl, rfl⟩⟩
      case stop =>
        rintro D j k W hD hk hGX hK
        obtain ⟨pre', ⟨x, hx⟩, i', e, hfr, htx, hgs, hcase⟩ := hGX.out
        dsimp only at htx hcase
        have hlen : k = pre'.length + 1 := by
          have := congrArg List.length e
          rw [plL_len] at this
          simpa using this
        subst hlen
        rw [plL_succ] at e
        obtain ⟨e1, e2⟩ := List.append_inj' e rfl
        have e2 : (i + pre'.length) % (m + 1) = x := by
          have := List.cons.inj e2
          exact congrArg Subtype.val this.1
        have hfree : ∀ j, j < pre'.length → t ((i + j) % (m + 1)) = false := fun j hj => by
          refine hfr ⟨(i + j) % (m + 1), Nat.mod_lt _ (by omega)⟩ ?_
          rw [← e1]
          unfold plL
          exact List.mem_map.2 ⟨j, by simpa using hj, rfl⟩
        have hkm : pre'.length < m + 1 := by omega
        generalize pre'.length = kk at *
        have hrun : IsRun t (m + 1) i kk := ⟨by omega, hfree, fun _ => by rw [e2]; exact htx⟩
        rcases HH.out with ⟨hd, hl⟩ | ⟨hno, _, _⟩
        · have HMk := hide (hGX.mks.more (D := D) (by omega) hK fun h => by have := HDs.out D h; omega)
          have hhs : (i + kk) % (m + 1) = if i + kk < m + 1 then i + kk else i + kk - (m + 1) := mod2N (by omega)
          rcases hcase with ⟨rfl, hxi, rfl⟩ | ⟨rfl, hxi, rfl⟩
          · have hw : m + 1 ≤ i' + kk := by
              apply Nat.le_of_not_lt
              intro h
              rw [if_pos h] at hhs
              omega
            have HV := hide (show gapF t (m + 1) = l ++ [(i', kk)] from by
              unfold gapF; rw [hd_any (by omega) hd]
              rw [hl]; exact step_end hd hrun hlt hw)
            rw [if_pos (show 0 < kk by omega), ← HV.out] at hgs
            obtain ⟨v, g1, g2⟩ := hgs.ls
            have kl : W.cell? ⟨w.heap.size + 1 + 1, 0, none⟩ = some v := by rw [cell_of_row _ _ _ _ _ _ g1]; rfl
            obtain ⟨A, c, rfl⟩ := own_slice g2
            have HBl := hide hgs.bel
            have HO := hide g2
            clear hGX hgs g1 g2 hA hN HI0 hrun hfr hfree e e1
            go_wp2_with fail
            rw [Exit.noGoto_ret]
            refine leave_ret HMk.out ?_
            intro W' hb' hk'
            refine ⟨.slice A (toI (gapF t (m + 1))).length c, by simp [results, Try.results41, go_sem], _, rfl, ?_, HBl.out.trans (hb'.mono (by omega))⟩
            have := own_cells HO.out hk'
            refine ⟨this.1, ?_⟩
            rcases this.2 with h | ⟨g, cap, cur, a, b, d⟩
            · exact .inl h
            · exact .inr ⟨g, cap, cur, a, by omega, d⟩
          · have hw : i + kk < m + 1 := by
              apply Nat.lt_of_not_le
              intro h
              rw [if_neg (by omega)] at hhs
              omega
            rw [if_pos hw] at hhs
            have hxe : x = i + kk := by omega
            obtain ⟨s1, s2⟩ := step_on hd hrun hw
            have HH2 : Hid (Hd2 t (m + 1) (x + 1) (l ++ if 0 < kk then [(i, kk)] else [])) := .inl ⟨by rw [hxe]; exact s2, by rw [hxe, s1, hl]⟩
            have HG2 := hide hgs
            have HMs := hide (show m + 1 - cellNat W (w.heap.size + 1) < m + 1 - cellNat wr (w.heap.size + 1) from by
              rw [HC.out]
              have : cellNat W (w.heap.size + 1) = x + 1 := by unfold cellNat; rw [hgs.cells.2.1]; rfl
              omega)
            clear hGX hgs hA hN HI0 hrun hfr hfree e e1
            go_wp2_with fail
            exact ⟨⟨x + 1, _, D :: Ds, _, _, _, _, _, _, _, _, _, _, _, _, _, _, _, _, _, _, _, _, _, _, _, _, _, _, _, _, _, _, _, _, _, _, _, _, by omega, rfl, HG2.out, HMk.out, HH2.out⟩, HMs.out⟩
        · rw [anyT_false.1 hno x hx] at htx; cases htx
    · obtain rfl : i = m + 1 := by omega
      rcases HH.out with ⟨hd, hl⟩ | ⟨_, h0, _⟩
      · have HV := hide (show gapF t (m + 1) = l from by unfold gapF; rw [hd_any (by omega) hd, hl]; rfl)
        have hgs := HG.out
        rw [← HV.out] at hgs
        obtain ⟨v, g1, g2⟩ := hgs.ls
        have kl : wr.cell? ⟨w.heap.size + 1 + 1, 0, none⟩ = some v := by rw [cell_of_row _ _ _ _ _ _ g1]; rfl
        obtain ⟨A, c, rfl⟩ := own_slice g2
        have HBl := hide hgs.bel
        have HO := hide g2
        clear hgs g1 g2 hd hl
        go_wp2_with fail
        rw [Exit.noGoto_ret]
        refine leave_ret HM.out ?_
        intro W' hb' hk'
        refine ⟨.slice A (toI (gapF t (m + 1))).length c, by simp [results, Try.results41, go_sem], _, rfl, ?_, HBl.out.trans (hb'.mono (by omega))⟩
        have := own_cells HO.out hk'
        refine ⟨this.1, ?_⟩
        rcases this.2 with h | ⟨g, cap, cur, a, b, d⟩
        · exact .inl h
        · exact .inr ⟨g, cap, cur, a, by omega, d⟩
      · omega
end Go.Proofs.Ytmplioglihmkjaa
