/-
  The document's own rows of who is come to, told.
-/
import Derived.Test.YthngjegimecaaaaDoorRmC
import Derived.StillTailTactics
import Derived.Deep.RegionHeld
import Derived.WalkMore
namespace Go.Proofs.YthngjegimecaaaaDoor
open Go.RowKit Go.Deep
set_option linter.unusedVariables false
set_option linter.unusedSimpArgs false

theorem wpStill_skip' {P : Program} {ops : Array Oper} {w : World} {Q : Act → Prop} {a : Act} {o : Oper} {rest : List Oper} (hw : Region.wanted o (yielded ops a.tmps) = false) (h : wpStill P ops w Q rest (a.put o.dst undef)) : wpStill P ops w Q (o :: rest) a :=
  wpStill_step fun K hK => by
    rw [if_neg (by rw [hw]; exact Bool.false_ne_true)]
    exact hK _ h
theorem alloc_setCell (w : World) (o : Obj) (p : Addr) (v : Value) (h : p.block < w.heap.size) : (w.alloc o).setCell p v = (w.setCell p v).alloc o := by
  unfold World.setCell World.alloc
  simp only
  congr 1
  apply Array.ext_getElem?
  intro i
  simp only [Array.getElem?_modify, Array.getElem?_push, Array.size_modify]
  by_cases h1 : p.block = i
  · rw [if_pos h1, if_neg (show i ≠ w.heap.size by omega), if_neg (show i ≠ w.heap.size by omega), if_pos h1]
  · rw [if_neg h1, if_neg h1]

theorem setCell_self {w : World} {b k : Nat} {v : Value} (h : w.cell? ⟨b, k, none⟩ = some v) : w.setCell ⟨b, k, none⟩ v = w := by
  unfold World.cell? at h
  have e : (w.setCell ⟨b, k, none⟩ v).heap = w.heap := by
    unfold World.setCell
    simp only
    apply Array.ext_getElem?
    intro i
    rw [Array.getElem?_modify]
    by_cases hi : b = i
    · subst hi
      rw [if_pos rfl]
      dsimp only at h
      split at h
      · rename_i hc
        rw [hc]
        simp only [Option.map_some, Option.isSome_none, Bool.false_eq_true, if_false] at h ⊢
        congr 2
        apply Array.ext_getElem?
        intro j
        rw [Array.getElem?_setIfInBounds]
        by_cases hj : k = j
        · subst hj
          rw [if_pos rfl, h]
          have := (Array.getElem?_eq_some_iff.1 h).1
          rw [if_pos this]
        · rw [if_neg hj]
      · cases h
    · rw [if_neg hi]
  show { w with heap := (w.setCell ⟨b, k, none⟩ v).heap } = w
  rw [e]

set_option maxRecDepth 100000 in
set_option maxHeartbeats 4000000 in
theorem rreach_at (c : Conf) (d : Ad) (w : World) (hg : Glo w) (h : ConfAt w c d) (hn : c.parts.length ≤ 1000) (hk100 : c.links.length ≤ 100) (hd : ∀ k, k < c.links.length → (c.links.getD k default).dests.length ≤ 1000) :
    Calls Tryd.prog 6 #[c.val d] w fun e w' => ∃ g bs, e = .returned (.slice (some ⟨g, 0, none⟩) c.parts.length c.parts.length) ∧ RmS w' g bs c.parts.length (nextF c c.links) ∧ w.heap.size ≤ g ∧ Below w.heap.size w w' := by
  have hS := CfS.first 28 hg h
  have HP := hide (fun W (H : CfS w W c d) z => rpart_at c d z W H.g H.cf)
  have HLK := hide (fun W (hb : Below w.heap.size w W) k (hk : k < c.links.length) => (h.links.of_below hb (Nat.le_refl _)).at hk)
  have HDd := hide hd
  clear hg h
  generalize hA : w.alloc (.cells (c.cells d) 28) = wa at hS
  obtain ⟨oA, oC, pA, pC, wA, wC, qA, qC, lA, lC⟩ := d
  unfold Conf.val at HP ⊢
  unfold Conf.cells at hA
  dsimp only at hA hS HP HLK ⊢
  have HA := hide hA
  have HS := hide hS
  clear hA
  obtain ⟨_, ⟨_, _, _, _, _, _, _, _, _, e8, _, _, _⟩, _, _⟩ := hS
  dsimp only at e8
  have hmk := make_nilb c.parts.length (by omega) wa
  have hn2 := heap_alloc_new wa (.cells (nilsA c.parts.length) 34)
  have hb2 := bal wa (.cells (nilsA c.parts.length) 34)
  have HR0 : Hid (RpS (wa.alloc (.cells (nilsA c.parts.length) 34)) wa.heap.size [] c.parts.length 0 []) := ⟨rfl, hn2, fun p hp => by omega, fun b hb => (by cases hb), List.Pairwise.nil⟩
  have HB2 := hide hb2
  have HL2 : Hid (wa.heap.size < (wa.alloc (.cells (nilsA c.parts.length) 34)).heap.size) := (Array.getElem?_eq_some_iff.1 hn2).1
  have hwz := HS.out.bel.size
  have HWZ := hide hwz
  clear hn2 hb2 hwz
  go_enter Tryd.func6, Tryd.ntmps6
  go_wp2_with fail
  rw [HA.out]
  clear HA
  go_upto_region 3 with fail
  rw [hmk]
  go_simp
  clear e8 hmk
  generalize wa.alloc (.cells (nilsA c.parts.length) 34) = w2 at HR0 HB2 HL2 ⊢
  go_wp2_with fail
  go_loopw [5] (fun i W => ∃ (k : Nat) (bs : List Nat), k ≤ c.parts.length ∧ i = .int .i64 k ∧ Below wa.heap.size wa W ∧ wa.heap.size < W.heap.size ∧ RpS W wa.heap.size bs c.parts.length k []) (fun i _ => c.parts.length - (intOf i).toNat)
  case atStart => exact ⟨0, [], by omega, rfl, HB2.out, HL2.out, HR0.out⟩
  case round =>
    obtain ⟨k, bs, hk, rfl, hbw, hlw, hr⟩ := hrel
    have HBW := hide hbw; have HR := hide hr; have HLW := hide hlw
    clear hbw hr hlw HR0 HB2 HL2
    by_cases hlt : k < c.parts.length
    · have HKL := hide (show k + 1 ≤ c.parts.length by omega)
      have hmk := make_bools c.parts.length (by omega) wr
      have hgb := HR.out.blk
      have hbl := HR.out.len
      have hlw2 := HLW.out
      have hc1 := (bal wr (.cells (bls (List.replicate c.parts.length false)) 4)).block _ hlw2
      have hgb1 := hc1.trans hgb
      have c0 : (wr.alloc (.cells (bls (List.replicate c.parts.length false)) 4)).cell? ⟨wa.heap.size, k, none⟩ = some (.slice none 0 0) := by
        rw [cell_of_row _ _ _ _ _ _ hgb1]
        rw [List.getElem?_toArray, List.getElem?_append_right (by rw [List.length_map, hbl]; exact Nat.le_refl _), List.length_map, hbl, Nat.sub_self, show c.parts.length - k = c.parts.length - (k + 1) + 1 by omega, List.replicate_succ]
        rfl
      have f0 : (wr.alloc (.cells (bls (List.replicate c.parts.length false)) 4)).frozen? ⟨wa.heap.size, k, none⟩ = false := by unfold World.frozen?; rw [hgb1]; rfl
      have HN1 := hide (heap_alloc_new wr (.cells (bls (List.replicate c.parts.length false)) 4))
      have HRm := hide (HR.out.own hlt hlw2)
      have HB1 : Hid (Below wa.heap.size wa (((wr.alloc (.cells (bls (List.replicate c.parts.length false)) 4)).setCell ⟨wa.heap.size, k, none⟩ (slB c.parts.length wr.heap.size)).setCell ⟨wr.heap.size, k, none⟩ (.bool true))) :=
        ((HBW.out.trans ((bal wr _).mono (by omega))).setCell (p := ⟨wa.heap.size, k, none⟩) (Nat.le_refl _) _).setCell (p := ⟨wr.heap.size, k, none⟩) (by show _ ≤ wr.heap.size; omega) _
      have HL1 : Hid (wa.heap.size < (((wr.alloc (.cells (bls (List.replicate c.parts.length false)) 4)).setCell ⟨wa.heap.size, k, none⟩ (slB c.parts.length wr.heap.size)).setCell ⟨wr.heap.size, k, none⟩ (.bool true)).heap.size) := (Array.getElem?_eq_some_iff.1 HRm.out.blk).1
      unfold slB at HRm HB1 HL1
      clear hgb hbl hc1 hgb1
      go_upto_region 7 with fail
      have hne : wa.heap.size ≠ wr.heap.size := by omega
      clear hmk
      have c1 : ((wr.alloc (.cells (bls (List.replicate c.parts.length false)) 4)).setCell ⟨wa.heap.size, k, none⟩ (.slice (some ⟨wr.heap.size, 0, none⟩) c.parts.length c.parts.length)).cell? ⟨wa.heap.size, k, none⟩ = some (.slice (some ⟨wr.heap.size, 0, none⟩) c.parts.length c.parts.length) := World.cell?_setCell_same _ _ _ (by rw [c0])
      have hnb : ((wr.alloc (.cells (bls (List.replicate c.parts.length false)) 4)).setCell ⟨wa.heap.size, k, none⟩ (.slice (some ⟨wr.heap.size, 0, none⟩) c.parts.length c.parts.length)).heap[wr.heap.size]? = some (.cells (bls (List.replicate c.parts.length false)) 4 (0, 0)) := by
        rw [setCell_other (by omega)]; exact HN1.out
      have c2 := bls_at hnb (show k < (List.replicate c.parts.length false).length by rw [List.length_replicate]; exact hlt)
      have f2 : ((wr.alloc (.cells (bls (List.replicate c.parts.length false)) 4)).setCell ⟨wa.heap.size, k, none⟩ (.slice (some ⟨wr.heap.size, 0, none⟩) c.parts.length c.parts.length)).frozen? ⟨wr.heap.size, k, none⟩ = false := by unfold World.frozen?; rw [hnb]; rfl
      rw [alloc_setCell _ _ _ _ hlw2] at c1 c2 f2 HRm HB1 HL1
      clear c0 f0 hnb HN1 HR HBW HLW
      generalize (wr.setCell ⟨wa.heap.size, k, none⟩ (.slice (some ⟨wr.heap.size, 0, none⟩) c.parts.length c.parts.length)).alloc (.cells (bls (List.replicate c.parts.length false)) 4) = w3 at c1 c2 f2 HRm HB1 HL1 ⊢
      go_wp2_with fail
      go_roundw
      case rel => exact ⟨k + 1, _, HKL.out, by go_num, HB1.out, HL1.out, HRm.out⟩
      case measure => have := HKL.out; simp [intOf]; omega
    · obtain rfl : k = c.parts.length := by omega
      have HM0 := hide (MtS.of_rps HR.out)
      clear HR hlt hk
      have HBW0 := hide HBW.out
      clear HBW HLW
      go_wp2_with fail
      go_loopw [6, 7, 8, 9, 10, 11, 12, 13, 14, 15] (fun i s7 s8 s9 s10 s11 s12 s13 s14 s15 W => ∃ r : Nat, r ≤ c.parts.length ∧ i = .int .i64 r ∧ Below wa.heap.size wa W ∧ MtS W wa.heap.size bs c.parts.length (fun p => sweepN (edgesF c c.links) r (firstB c.parts.length p))) (fun i _ _ _ _ _ _ _ _ _ _ => c.parts.length - (intOf i).toNat)
      case atStart => exact ⟨0, by omega, rfl, HBW0.out, HM0.out⟩
      case round =>
        obtain ⟨r, hr, rfl, hbw, hm⟩ := hrel
        have HBW := hide hbw; have HM := hide hm
        clear hbw hm HM0 HBW0
        by_cases hrl : r < c.parts.length
        · have HRL := hide (show r + 1 ≤ c.parts.length by omega)
          have HMs : Hid (MtS wr wa.heap.size bs c.parts.length (fun p => sweep (sweepN (edgesF c c.links) r (firstB c.parts.length p)) (edgesF c (c.links.take 0)))) := HM.out
          have HBs := hide HBW.out
          go_wp2_with fail
          clear HM HBW
          go_loopw [7, 8, 9, 10, 11, 12, 13, 14, 15] (fun i s8 s9 s10 s11 s12 s13 s14 s15 W => ∃ k : Nat, k ≤ c.links.length ∧ i = .int .i64 k ∧ Below wa.heap.size wa W ∧ MtS W wa.heap.size bs c.parts.length (fun p => sweep (sweepN (edgesF c c.links) r (firstB c.parts.length p)) (edgesF c (c.links.take k)))) (fun i _ _ _ _ _ _ _ _ _ => c.links.length - (intOf i).toNat)
          case atStart => exact ⟨0, by omega, rfl, HBs.out, HMs.out⟩
          case round =>
            obtain ⟨k, hk, rfl, hbw, hm⟩ := hrel
            have HBW := hide hbw; have HM := hide hm
            clear hbw hm HMs HBs
            by_cases hlt : k < c.links.length
            · have HKL := hide (show k + 1 ≤ c.links.length by omega)
              have HSr := hide (HS.out.below HBW.out)
              have HST := hide (edges_step hlt)
              have hdl := HDd.out k hlt
              obtain ⟨lb, lo, Ai, ci, hlA, hlb, g0', g1', g2', _, _, hI0, _, _⟩ := HLK.out wa HS.out.bel k hlt
              subst hlA
              have HI0 := hide hI0
              have hI := hI0.of_below HBW.out (Nat.le_refl _)
              have g0 := cell_below HBW.out (Nat.le_refl _) hlb g0'
              have g1 := cell_below HBW.out (Nat.le_refl _) hlb g1'
              have g2 := cell_below HBW.out (Nat.le_refl _) hlb g2'
              clear g0' g1' g2' hI0
              obtain ⟨lk, hlk⟩ : ∃ lk, c.links.getD k default = lk := ⟨_, rfl⟩
              rw [hlk] at g0 g1 g2 hI HI0 HST hdl
              obtain ⟨_, ⟨_, e0, e1, e2, e3, e4, e5, e6, e7, e8, e9, e10, e11⟩, _, _⟩ := HSr.out
              dsimp only at e0 e1 e2 e3 e4 e5 e6 e7 e8 e9 e10 e11
              have hb3 := bal wr (.cells #[.int .i64 lk.source, .slice Ai lk.dests.length ci, .int .i64 lk.offset] 38)
              have hn3 := heap_alloc_new wr (.cells #[.int .i64 lk.source, .slice Ai lk.dests.length ci, .int .i64 lk.offset] 38)
              have HS3 := hide (HSr.out.below hb3); have HL3 := hide hn3; have HI3 := hide (hI.of_below hb3 (Nat.le_refl _))
              have HM3 := hide (HM.out.below hb3)
              have HB3 := hide (HBW.out.trans (hb3.mono HBW.out.size))
              have HLT : Hid (∀ p, p < c.parts.length → bs.getD p 0 < wr.heap.size) := fun p hp => (Array.getElem?_eq_some_iff.1 (HM.out.row p hp).1).1
              have HLW : Hid (wa.heap.size ≤ wr.heap.size) := HBW.out.size
              clear hb3 hn3 hI hlb
              go_upto_region 15 with fail
              clear e0 e1 e2 e3 e4 e5 e6 e7 e8 e9 e10 e11 g0 g1 g2 HSr HM HBW
              generalize wr.alloc (.cells #[.int .i64 lk.source, .slice Ai lk.dests.length ci, .int .i64 lk.offset] 38) = w3 at HS3 HL3 HI3 HM3 HB3 ⊢
              generalize wr.heap.size = LB at HL3 HLT HLW ⊢
              have hl3 := (Array.getElem?_eq_some_iff.1 HL3.out).1
              obtain ⟨_, ⟨_, e0, e1, e2, e3, e4, e5, e6, e7, e8, e9, e10, e11⟩, _, _⟩ := HS3.out
              dsimp only at e0 e1 e2 e3 e4 e5 e6 e7 e8 e9 e10 e11
              have l0 : w3.cell? ⟨LB, 0, none⟩ = some (.int .i64 lk.source) := by rw [cell_of_row _ _ _ _ _ _ HL3.out]; rfl
              go_wp2_with fail
              refine (HP.out w3 HS3.out lk.source).mono ?_
              rintro e w4 ⟨rfl, hb4⟩
              have HS4 := hide (HS3.out.below hb4); have HI4 := hide (HI3.out.of_below hb4 (Nat.le_refl _))
              have HM4 := hide (HM3.out.below hb4)
              have HL4 := hide ((hb4.block _ hl3).trans HL3.out)
              have HB4 := hide (HB3.out.trans (hb4.mono HB3.out.size))
              have l1 : w4.cell? ⟨LB, 1, none⟩ = some (.slice Ai lk.dests.length ci) := by rw [cell_of_row _ _ _ _ _ _ HL4.out]; rfl
              have HF0 : Hid (decide (0 ≤ partN c lk.source) = fineB c lk 0) := by
                show _ = _
                rw [partN_nn]; simp [fineB]
              obtain ⟨u, hu⟩ : ∃ u, partN c lk.source = u := ⟨_, rfl⟩
              rw [hu] at HF0 ⊢
              have HU := hide hu
              clear hb4 HS3 HI3 HM3 HL3 HB3 hl3 l0 hu e0 e1 e2 e3 e4 e5 e6 e7 e8 e9 e10 e11
              go_wp2_with fail
              go_loopw [11, 10, 12] (fun i s10 s12 W => ∃ j : Nat, j ≤ lk.dests.length ∧ i = .int .i64 j ∧ s10 = .bool (fineB c lk j) ∧ Below w4.heap.size w4 W) (fun i _ _ _ => lk.dests.length - (intOf i).toNat)
              case atStart => exact ⟨0, by omega, rfl, congrArg Value.bool HF0.out, Below.refl _ _⟩
              case round =>
                obtain ⟨j, hj, rfl, rfl, hbw⟩ := hrel
                have HBW4 := hide hbw
                have l1 : wr.cell? ⟨LB, 1, none⟩ = some (.slice Ai lk.dests.length ci) := by rw [cell_of_row _ _ _ _ _ _ ((HBW4.out.block _ (Array.getElem?_eq_some_iff.1 HL4.out).1).trans HL4.out)]; rfl
                clear hbw
                by_cases hj2 : j < lk.dests.length
                · obtain ⟨ib, io, hIA, hib, i0⟩ := (HI4.out.of_below HBW4.out (Nat.le_refl _)).at hj2
                  subst hIA
                  have HJL := hide (show j + 1 ≤ lk.dests.length by omega)
                  have HFS := hide (fineB_step (c := c) hj2)
                  have hLB : LB < wr.drew.heap.size := Nat.lt_of_lt_of_le (Array.getElem?_eq_some_iff.1 HL4.out).1 HBW4.out.size
                  have HSi := hide (HS4.out.below HBW4.out)
                  generalize lk.dests.getD j 0 = z at i0 HFS
                  obtain ⟨_, ⟨_, e0, e1, e2, e3, e4, e5, e6, e7, e8, e9, e10, e11⟩, _, _⟩ := HSi.out
                  dsimp only at e0 e1 e2 e3 e4 e5 e6 e7 e8 e9 e10 e11
                  have HS0 : Hid (CfS w wr.drew c ⟨oA, oC, pA, pC, wA, wC, qA, qC, some ⟨lb, lo, none⟩, lC⟩ ∧ wr.drew.cell? ⟨w.heap.size, 0, none⟩ = some (.int .i64 c.nodes) ∧ wr.drew.cell? ⟨w.heap.size, 1, none⟩ = some (.slice oA c.owners.length oC) ∧ wr.drew.cell? ⟨w.heap.size, 2, none⟩ = some (.int .i64 c.drift) ∧ wr.drew.cell? ⟨w.heap.size, 3, none⟩ = some (.int .i64 c.reading) ∧ wr.drew.cell? ⟨w.heap.size, 4, none⟩ = some (.int .i64 c.margin) ∧ wr.drew.cell? ⟨w.heap.size, 5, none⟩ = some (.int .i64 c.bound) ∧ wr.drew.cell? ⟨w.heap.size, 6, none⟩ = some (.int .i64 c.rejoin) ∧ wr.drew.cell? ⟨w.heap.size, 7, none⟩ = some (.int .i64 c.quota) ∧ wr.drew.cell? ⟨w.heap.size, 8, none⟩ = some (.slice pA c.parts.length pC) ∧ wr.drew.cell? ⟨w.heap.size, 9, none⟩ = some (.slice wA c.windows.length wC) ∧ wr.drew.cell? ⟨w.heap.size, 10, none⟩ = some (.slice qA c.ports.length qC) ∧ wr.drew.cell? ⟨w.heap.size, 11, none⟩ = some (.slice (some ⟨lb, lo, none⟩) c.links.length lC) ∧ wr.drew.cell? ⟨LB, 1, none⟩ = some (.slice (some ⟨ib, io, none⟩) lk.dests.length ci) ∧ wr.drew.cell? ⟨ib, io + j, none⟩ = some (.int .i64 z) ∧ LB < wr.drew.heap.size ∧ ib < wr.drew.heap.size ∧ Below w4.heap.size w4 wr.drew) := ⟨HSi.out.below (vdrewNx (Below.refl _ wr) 1), e0, e1, e2, e3, e4, e5, e6, e7, e8, e9, e10, e11, l1, i0, hLB, hib, vdrewNx HBW4.out 1⟩
                  have HKp : Hid (∀ W W', (CfS w W c ⟨oA, oC, pA, pC, wA, wC, qA, qC, some ⟨lb, lo, none⟩, lC⟩ ∧ W.cell? ⟨w.heap.size, 0, none⟩ = some (.int .i64 c.nodes) ∧ W.cell? ⟨w.heap.size, 1, none⟩ = some (.slice oA c.owners.length oC) ∧ W.cell? ⟨w.heap.size, 2, none⟩ = some (.int .i64 c.drift) ∧ W.cell? ⟨w.heap.size, 3, none⟩ = some (.int .i64 c.reading) ∧ W.cell? ⟨w.heap.size, 4, none⟩ = some (.int .i64 c.margin) ∧ W.cell? ⟨w.heap.size, 5, none⟩ = some (.int .i64 c.bound) ∧ W.cell? ⟨w.heap.size, 6, none⟩ = some (.int .i64 c.rejoin) ∧ W.cell? ⟨w.heap.size, 7, none⟩ = some (.int .i64 c.quota) ∧ W.cell? ⟨w.heap.size, 8, none⟩ = some (.slice pA c.parts.length pC) ∧ W.cell? ⟨w.heap.size, 9, none⟩ = some (.slice wA c.windows.length wC) ∧ W.cell? ⟨w.heap.size, 10, none⟩ = some (.slice qA c.ports.length qC) ∧ W.cell? ⟨w.heap.size, 11, none⟩ = some (.slice (some ⟨lb, lo, none⟩) c.links.length lC) ∧ W.cell? ⟨LB, 1, none⟩ = some (.slice (some ⟨ib, io, none⟩) lk.dests.length ci) ∧ W.cell? ⟨ib, io + j, none⟩ = some (.int .i64 z) ∧ LB < W.heap.size ∧ ib < W.heap.size ∧ Below w4.heap.size w4 W) → Below W.heap.size W W' → (CfS w W' c ⟨oA, oC, pA, pC, wA, wC, qA, qC, some ⟨lb, lo, none⟩, lC⟩ ∧ W'.cell? ⟨w.heap.size, 0, none⟩ = some (.int .i64 c.nodes) ∧ W'.cell? ⟨w.heap.size, 1, none⟩ = some (.slice oA c.owners.length oC) ∧ W'.cell? ⟨w.heap.size, 2, none⟩ = some (.int .i64 c.drift) ∧ W'.cell? ⟨w.heap.size, 3, none⟩ = some (.int .i64 c.reading) ∧ W'.cell? ⟨w.heap.size, 4, none⟩ = some (.int .i64 c.margin) ∧ W'.cell? ⟨w.heap.size, 5, none⟩ = some (.int .i64 c.bound) ∧ W'.cell? ⟨w.heap.size, 6, none⟩ = some (.int .i64 c.rejoin) ∧ W'.cell? ⟨w.heap.size, 7, none⟩ = some (.int .i64 c.quota) ∧ W'.cell? ⟨w.heap.size, 8, none⟩ = some (.slice pA c.parts.length pC) ∧ W'.cell? ⟨w.heap.size, 9, none⟩ = some (.slice wA c.windows.length wC) ∧ W'.cell? ⟨w.heap.size, 10, none⟩ = some (.slice qA c.ports.length qC) ∧ W'.cell? ⟨w.heap.size, 11, none⟩ = some (.slice (some ⟨lb, lo, none⟩) c.links.length lC) ∧ W'.cell? ⟨LB, 1, none⟩ = some (.slice (some ⟨ib, io, none⟩) lk.dests.length ci) ∧ W'.cell? ⟨ib, io + j, none⟩ = some (.int .i64 z) ∧ LB < W'.heap.size ∧ ib < W'.heap.size ∧ Below w4.heap.size w4 W')) := fun W W' h hb => by
                    obtain ⟨_, ⟨_, x0, x1, x2, x3, x4, x5, x6, x7, x8, x9, x10, x11⟩, _, _⟩ := h.1.below hb
                    obtain ⟨_, _, _, _, _, _, _, _, _, _, _, _, _, y1, y2, y3, y4, y5⟩ := id h
                    exact ⟨h.1.below hb, x0, x1, x2, x3, x4, x5, x6, x7, x8, x9, x10, x11, cell_below hb (Nat.le_refl _) y3 y1, cell_below hb (Nat.le_refl _) y4 y2, Nat.lt_of_lt_of_le y3 hb.size, Nat.lt_of_lt_of_le y4 hb.size, y5.trans (hb.mono y5.size)⟩
                  go_wp2_with fail
                  clear e0 e1 e2 e3 e4 e5 e6 e7 e8 e9 e10 e11 HSi i0 l1 hLB hib
                  refine wp_region_held_drew (S := fun w' => CfS w w' c ⟨oA, oC, pA, pC, wA, wC, qA, qC, some ⟨lb, lo, none⟩, lC⟩ ∧ w'.cell? ⟨w.heap.size, 0, none⟩ = some (.int .i64 c.nodes) ∧ w'.cell? ⟨w.heap.size, 1, none⟩ = some (.slice oA c.owners.length oC) ∧ w'.cell? ⟨w.heap.size, 2, none⟩ = some (.int .i64 c.drift) ∧ w'.cell? ⟨w.heap.size, 3, none⟩ = some (.int .i64 c.reading) ∧ w'.cell? ⟨w.heap.size, 4, none⟩ = some (.int .i64 c.margin) ∧ w'.cell? ⟨w.heap.size, 5, none⟩ = some (.int .i64 c.bound) ∧ w'.cell? ⟨w.heap.size, 6, none⟩ = some (.int .i64 c.rejoin) ∧ w'.cell? ⟨w.heap.size, 7, none⟩ = some (.int .i64 c.quota) ∧ w'.cell? ⟨w.heap.size, 8, none⟩ = some (.slice pA c.parts.length pC) ∧ w'.cell? ⟨w.heap.size, 9, none⟩ = some (.slice wA c.windows.length wC) ∧ w'.cell? ⟨w.heap.size, 10, none⟩ = some (.slice qA c.ports.length qC) ∧ w'.cell? ⟨w.heap.size, 11, none⟩ = some (.slice (some ⟨lb, lo, none⟩) c.links.length lC) ∧ w'.cell? ⟨LB, 1, none⟩ = some (.slice (some ⟨ib, io, none⟩) lk.dests.length ci) ∧ w'.cell? ⟨ib, io + j, none⟩ = some (.int .i64 z) ∧ LB < w'.heap.size ∧ ib < w'.heap.size ∧ Below w4.heap.size w4 w') (by kernel_rfl) (by (first | exact HKp.out _ _ hHeld hb1 | exact HS0.out)) (fun hHeld => ?_)
                  refine wpAnyH_take (i := 0) (v := ?v1_0) rfl (by kernel_rfl) (by kernel_rfl) (by kernel_rfl) (fun _ _ _ h => h) (Or.inl ⟨by kernel_rfl, ?y1_0⟩) (by assumption) ?r1_0
                  case y1_0 => (intro W hSW; (try dsimp only at hSW); go_simp; (try with_reducible rfl))
                  change wpAnyH _ _ _ _ _ _ _ (Act.put _ (some 67) _) _
                  (try simp only [Act.put, List.setIfInBounds_toArray, List.set_cons_zero, List.set_cons_succ])
                  refine wpAnyH_take (i := 1) (v := ?v1_1) rfl (by kernel_rfl) (by kernel_rfl) (by kernel_rfl) (fun _ _ _ h => h) (Or.inl ⟨by kernel_rfl, ?y1_1⟩) (by assumption) ?r1_1
                  case y1_1 => (intro W hSW; (try dsimp only at hSW); go_simp; (try with_reducible rfl))
                  change wpAnyH _ _ _ _ _ _ _ (Act.put _ (some 68) _) _
                  (try simp only [Act.put, List.setIfInBounds_toArray, List.set_cons_zero, List.set_cons_succ])
                  refine wpAnyH_take (i := 2) (v := ?v1_2) rfl (by kernel_rfl) (by kernel_rfl) (by kernel_rfl) (fun _ _ _ h => h) (Or.inl ⟨by kernel_rfl, ?y1_2⟩) (by assumption) ?r1_2
                  case y1_2 => (intro W hSW; (try dsimp only at hSW); go_simp; (try with_reducible rfl))
                  change wpAnyH _ _ _ _ _ _ _ (Act.put _ (some 69) _) _
                  (try simp only [Act.put, List.setIfInBounds_toArray, List.set_cons_zero, List.set_cons_succ])
                  refine wpAnyH_take (i := 3) (v := ?v1_3) rfl (by kernel_rfl) (by kernel_rfl) (by kernel_rfl) (fun _ _ _ h => h) (Or.inl ⟨by kernel_rfl, ?y1_3⟩) (by assumption) ?r1_3
                  case y1_3 => (intro W hSW; (try dsimp only at hSW); go_simp; (try with_reducible rfl))
                  change wpAnyH _ _ _ _ _ _ _ (Act.put _ (some 70) _) _
                  (try simp only [Act.put, List.setIfInBounds_toArray, List.set_cons_zero, List.set_cons_succ])
                  refine wpAnyH_take (i := 4) (v := ?v1_4) rfl (by kernel_rfl) (by kernel_rfl) (by kernel_rfl) (fun _ _ _ h => h) (Or.inl ⟨by kernel_rfl, ?y1_4⟩) (by assumption) ?r1_4
                  case y1_4 => (intro W hSW; (try dsimp only at hSW); go_simp; (try with_reducible rfl))
                  change wpAnyH _ _ _ _ _ _ _ (Act.put _ (some 71) _) _
                  (try simp only [Act.put, List.setIfInBounds_toArray, List.set_cons_zero, List.set_cons_succ])
                  refine wpAnyH_take (i := 5) (v := ?v1_5) rfl (by kernel_rfl) (by kernel_rfl) (by kernel_rfl) (fun _ _ _ h => h) (Or.inl ⟨by kernel_rfl, ?y1_5⟩) (by assumption) ?r1_5
                  case y1_5 => (intro W hSW; (try dsimp only at hSW); go_simp; (try with_reducible rfl))
                  change wpAnyH _ _ _ _ _ _ _ (Act.put _ (some 72) _) _
                  (try simp only [Act.put, List.setIfInBounds_toArray, List.set_cons_zero, List.set_cons_succ])
                  refine wpAnyH_ready (rs := [6]) (by kernel_rfl) (by simp) ?_
                  refine AllReadyH.cons rfl (fun K hK => ?_) AllReadyH.nil
                  rw [if_pos (by rfl)]
                  go_simp
                  refine (HP.out _ hHeld.1 _).mono ?_
                  rintro e w5 ⟨rfl, hb1⟩
                  go_simp
                  refine hK.out _ _ (by (first | exact HKp.out _ _ hHeld hb1 | exact HS0.out)) (fun hHeld => ?_)
                  clear hK K
                  (try simp only [Act.put, List.setIfInBounds_toArray, List.set_cons_zero, List.set_cons_succ])
                  refine wpAnyH_take (i := 7) (v := ?v1_7) rfl (by kernel_rfl) (by kernel_rfl) (by kernel_rfl) (fun _ _ _ h => h) (Or.inl ⟨by kernel_rfl, ?y1_7⟩) (by assumption) ?r1_7
                  case y1_7 => (intro W hSW; (try dsimp only at hSW); go_simp; (try with_reducible rfl))
                  change wpAnyH _ _ _ _ _ _ _ (Act.put _ (some 12) _) _
                  (try simp only [Act.put, List.setIfInBounds_toArray, List.set_cons_zero, List.set_cons_succ])
                  refine wpAnyH_done (by kernel_rfl) ?_ _
                  clear HS0 HKp
                  have HBn := hide hHeld.2.2.2.2.2.2.2.2.2.2.2.2.2.2.2.2.2
                  clear hHeld
                  have HPN := hide (partN_nn (c := c) (z := z))
                  generalize partN c z = pz at HPN ⊢
                  rcases hfb : fineB c lk j with _ | _
                  · have HFn : Hid (fineB c lk (j + 1) = false) := by
                      show _ = _
                      rw [HFS.out, hfb]; rfl
                    clear hfb
                    go_wp2_with fail
                    go_roundw
                    case rel => exact ⟨j + 1, HJL.out, by go_num, congrArg Value.bool HFn.out.symm, HBn.out⟩
                    case measure => have := HJL.out; simp [intOf]; omega
                  · have HFn : Hid (fineB c lk (j + 1) = decide (0 ≤ pz)) := by
                      show _ = _
                      rw [HFS.out, hfb, HPN.out]; rfl
                    clear hfb
                    go_wp2_with fail
                    go_roundw
                    case rel => exact ⟨j + 1, HJL.out, by go_num, congrArg Value.bool HFn.out.symm, HBn.out⟩
                    case measure => have := HJL.out; simp [intOf]; omega
                · obtain rfl : j = lk.dests.length := by omega
                  obtain ⟨X0, hX0⟩ : ∃ X : Nat → List Bool, (fun p => sweep (sweepN (edgesF c c.links) r (firstB c.parts.length p)) (edgesF c (c.links.take k))) = X := ⟨_, rfl⟩
                  have HFin : Hid (∀ p, sweep (sweepN (edgesF c c.links) r (firstB c.parts.length p)) (edgesF c (c.links.take (k + 1))) = sweep (X0 p) (linkE c lk)) := fun p => by
                    rw [HST.out, sweep_app, ← hX0]
                  have hm5 := HM4.out.below HBW4.out
                  rw [hX0] at hm5
                  have HM5 := hide hm5
                  have HB5 := hide (HB4.out.trans (HBW4.out.mono HB4.out.size))
                  have HL5 := hide ((HBW4.out.block _ (Array.getElem?_eq_some_iff.1 HL4.out).1).trans HL4.out)
                  clear hm5 hX0 HM4 HBW4 HB4 HS4 HI4 HL4 hj2 hj
                  rcases hfb : fineB c lk lk.dests.length with _ | _
                  · have HLE := hide (fineB_no hfb)
                    clear hfb
                    go_wp2_with fail
                    clear l1
                    go_loopw [13, 14, 15] (fun i s14 s15 W => i = .int .i64 0 ∧ Below wa.heap.size wa W ∧ W.heap[LB]? = some (.cells #[.int .i64 lk.source, .slice Ai lk.dests.length ci, .int .i64 lk.offset] 38 (0, 0)) ∧ MtS W wa.heap.size bs c.parts.length X0) (fun _ _ _ _ => 0)
                    case atStart => exact ⟨rfl, HB5.out, HL5.out, HM5.out⟩
                    case round =>
                      obtain ⟨rfl, hbw, hlx, hm⟩ := hrel
                      have HBn := hide hbw
                      have HMn : Hid (MtS wr wa.heap.size bs c.parts.length (fun p => sweep (sweepN (edgesF c c.links) r (firstB c.parts.length p)) (edgesF c (c.links.take (k + 1))))) := hm.ext fun p _ => by
                        rw [HFin.out, HLE.out]; rfl
                      have l1 : wr.cell? ⟨LB, 1, none⟩ = some (.slice Ai lk.dests.length ci) := by rw [cell_of_row _ _ _ _ _ _ hlx]; rfl
                      clear hbw hlx hm
                      by_cases h0 : 0 < lk.dests.length
                      · have h0' : (0 : Int) < (lk.dests.length : Int) := by omega
                        go_wp2_with fail
                        go_roundw
                        case rel => exact ⟨k + 1, HKL.out, by go_num, HBn.out, HMn.out⟩
                        case measure => have := HKL.out; simp [intOf]; omega
                      · have h0' : ¬(0 : Int) < (lk.dests.length : Int) := by omega
                        go_wp2_with fail
                        go_roundw
                        case rel => exact ⟨k + 1, HKL.out, by go_num, HBn.out, HMn.out⟩
                        case measure => have := HKL.out; simp [intOf]; omega
                  · obtain ⟨f, hf, hfn, hall, hle⟩ := fineB_yes hfb
                    obtain rfl : u = (f : Int) := HU.out.symm.trans (partN_some hf)
                    have HALL := hide hall
                    have HFin2 : Hid (∀ p, sweep (sweepN (edgesF c c.links) r (firstB c.parts.length p)) (edgesF c (c.links.take (k + 1))) = sweep (X0 p) (lk.dests.map fun d => (f, (partP c d).getD 0))) := fun p => by
                      rw [HFin.out, hle]
                    clear hfb hf hall hle HFin HU HF0
                    go_wp2_with fail
                    clear l1
                    go_loopw [13, 14, 15] (fun i s14 s15 W => ∃ j : Nat, j ≤ lk.dests.length ∧ i = .int .i64 j ∧ Below wa.heap.size wa W ∧ W.heap[LB]? = some (.cells #[.int .i64 lk.source, .slice Ai lk.dests.length ci, .int .i64 lk.offset] 38 (0, 0)) ∧ MtS W wa.heap.size bs c.parts.length (fun p => sweep (X0 p) ((lk.dests.take j).map fun d => (f, (partP c d).getD 0)))) (fun i _ _ _ => lk.dests.length - (intOf i).toNat)
                    case atStart => exact ⟨0, by omega, rfl, HB5.out, HL5.out, HM5.out⟩
                    case round =>
                      obtain ⟨j, hj, rfl, hbw, hlx, hm⟩ := hrel
                      have HBW5 := hide hbw; have HM6 := hide hm; have HLX := hide hlx
                      have l1 : wr.cell? ⟨LB, 1, none⟩ = some (.slice Ai lk.dests.length ci) := by rw [cell_of_row _ _ _ _ _ _ hlx]; rfl
                      clear hbw hlx hm HM5 HB5 HL5
                      by_cases hj2 : j < lk.dests.length
                      · obtain ⟨ib, io, hIA, hib, i0⟩ := (HI0.out.of_below HBW5.out (Nat.le_refl _)).at hj2
                        subst hIA
                        have HJL := hide (show j + 1 ≤ lk.dests.length by omega)
                        have hLB : LB < wr.drew.heap.size := (Array.getElem?_eq_some_iff.1 HLX.out).1
                        have HSi := hide (HS.out.below HBW5.out)
                        have hmem : lk.dests.getD j 0 ∈ lk.dests := by rw [List.getD_eq_getElem?_getD, List.getElem?_eq_getElem hj2]; exact List.getElem_mem hj2
                        have HTK : Hid (lk.dests.take (j + 1) = lk.dests.take j ++ [lk.dests.getD j 0]) := by
                          show _ = _
                          rw [List.take_add_one, List.getD_eq_getElem?_getD, List.getElem?_eq_getElem hj2]; rfl
                        obtain ⟨q, hq⟩ := Option.isSome_iff_exists.1 (HALL.out _ hmem)
                        have hqn := (partP_lt hq).1
                        have HQ := hide hq
                        clear hmem hq
                        generalize lk.dests.getD j 0 = z at i0 HTK HQ
                        obtain ⟨_, ⟨_, e0, e1, e2, e3, e4, e5, e6, e7, e8, e9, e10, e11⟩, _, _⟩ := HSi.out
                        dsimp only at e0 e1 e2 e3 e4 e5 e6 e7 e8 e9 e10 e11
                        have HS0 : Hid (CfS w wr.drew c ⟨oA, oC, pA, pC, wA, wC, qA, qC, some ⟨lb, lo, none⟩, lC⟩ ∧ wr.drew.cell? ⟨w.heap.size, 0, none⟩ = some (.int .i64 c.nodes) ∧ wr.drew.cell? ⟨w.heap.size, 1, none⟩ = some (.slice oA c.owners.length oC) ∧ wr.drew.cell? ⟨w.heap.size, 2, none⟩ = some (.int .i64 c.drift) ∧ wr.drew.cell? ⟨w.heap.size, 3, none⟩ = some (.int .i64 c.reading) ∧ wr.drew.cell? ⟨w.heap.size, 4, none⟩ = some (.int .i64 c.margin) ∧ wr.drew.cell? ⟨w.heap.size, 5, none⟩ = some (.int .i64 c.bound) ∧ wr.drew.cell? ⟨w.heap.size, 6, none⟩ = some (.int .i64 c.rejoin) ∧ wr.drew.cell? ⟨w.heap.size, 7, none⟩ = some (.int .i64 c.quota) ∧ wr.drew.cell? ⟨w.heap.size, 8, none⟩ = some (.slice pA c.parts.length pC) ∧ wr.drew.cell? ⟨w.heap.size, 9, none⟩ = some (.slice wA c.windows.length wC) ∧ wr.drew.cell? ⟨w.heap.size, 10, none⟩ = some (.slice qA c.ports.length qC) ∧ wr.drew.cell? ⟨w.heap.size, 11, none⟩ = some (.slice (some ⟨lb, lo, none⟩) c.links.length lC) ∧ wr.drew.cell? ⟨LB, 1, none⟩ = some (.slice (some ⟨ib, io, none⟩) lk.dests.length ci) ∧ wr.drew.cell? ⟨ib, io + j, none⟩ = some (.int .i64 z) ∧ LB < wr.drew.heap.size ∧ ib < wr.drew.heap.size ∧ (Below wa.heap.size wa wr.drew ∧ wr.drew.heap[LB]? = some (.cells #[.int .i64 lk.source, .slice (some ⟨ib, io, none⟩) lk.dests.length ci, .int .i64 lk.offset] 38 (0, 0)) ∧ MtS wr.drew wa.heap.size bs c.parts.length (fun p => sweep (X0 p) ((lk.dests.take j).map fun d => (f, (partP c d).getD 0))))) := ⟨HSi.out.below (vdrewNx (Below.refl _ wr) 1), e0, e1, e2, e3, e4, e5, e6, e7, e8, e9, e10, e11, l1, i0, hLB, hib, ⟨vdrewNx HBW5.out 1, HLX.out, HM6.out.below (vdrewNx (Below.refl _ wr) 1)⟩⟩
                        have HKp : Hid (∀ W W', (CfS w W c ⟨oA, oC, pA, pC, wA, wC, qA, qC, some ⟨lb, lo, none⟩, lC⟩ ∧ W.cell? ⟨w.heap.size, 0, none⟩ = some (.int .i64 c.nodes) ∧ W.cell? ⟨w.heap.size, 1, none⟩ = some (.slice oA c.owners.length oC) ∧ W.cell? ⟨w.heap.size, 2, none⟩ = some (.int .i64 c.drift) ∧ W.cell? ⟨w.heap.size, 3, none⟩ = some (.int .i64 c.reading) ∧ W.cell? ⟨w.heap.size, 4, none⟩ = some (.int .i64 c.margin) ∧ W.cell? ⟨w.heap.size, 5, none⟩ = some (.int .i64 c.bound) ∧ W.cell? ⟨w.heap.size, 6, none⟩ = some (.int .i64 c.rejoin) ∧ W.cell? ⟨w.heap.size, 7, none⟩ = some (.int .i64 c.quota) ∧ W.cell? ⟨w.heap.size, 8, none⟩ = some (.slice pA c.parts.length pC) ∧ W.cell? ⟨w.heap.size, 9, none⟩ = some (.slice wA c.windows.length wC) ∧ W.cell? ⟨w.heap.size, 10, none⟩ = some (.slice qA c.ports.length qC) ∧ W.cell? ⟨w.heap.size, 11, none⟩ = some (.slice (some ⟨lb, lo, none⟩) c.links.length lC) ∧ W.cell? ⟨LB, 1, none⟩ = some (.slice (some ⟨ib, io, none⟩) lk.dests.length ci) ∧ W.cell? ⟨ib, io + j, none⟩ = some (.int .i64 z) ∧ LB < W.heap.size ∧ ib < W.heap.size ∧ (Below wa.heap.size wa W ∧ W.heap[LB]? = some (.cells #[.int .i64 lk.source, .slice (some ⟨ib, io, none⟩) lk.dests.length ci, .int .i64 lk.offset] 38 (0, 0)) ∧ MtS W wa.heap.size bs c.parts.length (fun p => sweep (X0 p) ((lk.dests.take j).map fun d => (f, (partP c d).getD 0))))) → Below W.heap.size W W' → (CfS w W' c ⟨oA, oC, pA, pC, wA, wC, qA, qC, some ⟨lb, lo, none⟩, lC⟩ ∧ W'.cell? ⟨w.heap.size, 0, none⟩ = some (.int .i64 c.nodes) ∧ W'.cell? ⟨w.heap.size, 1, none⟩ = some (.slice oA c.owners.length oC) ∧ W'.cell? ⟨w.heap.size, 2, none⟩ = some (.int .i64 c.drift) ∧ W'.cell? ⟨w.heap.size, 3, none⟩ = some (.int .i64 c.reading) ∧ W'.cell? ⟨w.heap.size, 4, none⟩ = some (.int .i64 c.margin) ∧ W'.cell? ⟨w.heap.size, 5, none⟩ = some (.int .i64 c.bound) ∧ W'.cell? ⟨w.heap.size, 6, none⟩ = some (.int .i64 c.rejoin) ∧ W'.cell? ⟨w.heap.size, 7, none⟩ = some (.int .i64 c.quota) ∧ W'.cell? ⟨w.heap.size, 8, none⟩ = some (.slice pA c.parts.length pC) ∧ W'.cell? ⟨w.heap.size, 9, none⟩ = some (.slice wA c.windows.length wC) ∧ W'.cell? ⟨w.heap.size, 10, none⟩ = some (.slice qA c.ports.length qC) ∧ W'.cell? ⟨w.heap.size, 11, none⟩ = some (.slice (some ⟨lb, lo, none⟩) c.links.length lC) ∧ W'.cell? ⟨LB, 1, none⟩ = some (.slice (some ⟨ib, io, none⟩) lk.dests.length ci) ∧ W'.cell? ⟨ib, io + j, none⟩ = some (.int .i64 z) ∧ LB < W'.heap.size ∧ ib < W'.heap.size ∧ (Below wa.heap.size wa W' ∧ W'.heap[LB]? = some (.cells #[.int .i64 lk.source, .slice (some ⟨ib, io, none⟩) lk.dests.length ci, .int .i64 lk.offset] 38 (0, 0)) ∧ MtS W' wa.heap.size bs c.parts.length (fun p => sweep (X0 p) ((lk.dests.take j).map fun d => (f, (partP c d).getD 0)))))) := fun W W' h hb => by
                          obtain ⟨_, ⟨_, x0, x1, x2, x3, x4, x5, x6, x7, x8, x9, x10, x11⟩, _, _⟩ := h.1.below hb
                          obtain ⟨_, _, _, _, _, _, _, _, _, _, _, _, _, y1, y2, y3, y4, y5⟩ := id h
                          exact ⟨h.1.below hb, x0, x1, x2, x3, x4, x5, x6, x7, x8, x9, x10, x11, cell_below hb (Nat.le_refl _) y3 y1, cell_below hb (Nat.le_refl _) y4 y2, Nat.lt_of_lt_of_le y3 hb.size, Nat.lt_of_lt_of_le y4 hb.size, ⟨y5.1.trans (hb.mono y5.1.size), (hb.block _ y3).trans y5.2.1, y5.2.2.below hb⟩⟩
                        go_wp2_with fail
                        clear e0 e1 e2 e3 e4 e5 e6 e7 e8 e9 e10 e11 HSi i0 l1 hLB hib
                        refine wp_region_held_drew (S := fun w' => CfS w w' c ⟨oA, oC, pA, pC, wA, wC, qA, qC, some ⟨lb, lo, none⟩, lC⟩ ∧ w'.cell? ⟨w.heap.size, 0, none⟩ = some (.int .i64 c.nodes) ∧ w'.cell? ⟨w.heap.size, 1, none⟩ = some (.slice oA c.owners.length oC) ∧ w'.cell? ⟨w.heap.size, 2, none⟩ = some (.int .i64 c.drift) ∧ w'.cell? ⟨w.heap.size, 3, none⟩ = some (.int .i64 c.reading) ∧ w'.cell? ⟨w.heap.size, 4, none⟩ = some (.int .i64 c.margin) ∧ w'.cell? ⟨w.heap.size, 5, none⟩ = some (.int .i64 c.bound) ∧ w'.cell? ⟨w.heap.size, 6, none⟩ = some (.int .i64 c.rejoin) ∧ w'.cell? ⟨w.heap.size, 7, none⟩ = some (.int .i64 c.quota) ∧ w'.cell? ⟨w.heap.size, 8, none⟩ = some (.slice pA c.parts.length pC) ∧ w'.cell? ⟨w.heap.size, 9, none⟩ = some (.slice wA c.windows.length wC) ∧ w'.cell? ⟨w.heap.size, 10, none⟩ = some (.slice qA c.ports.length qC) ∧ w'.cell? ⟨w.heap.size, 11, none⟩ = some (.slice (some ⟨lb, lo, none⟩) c.links.length lC) ∧ w'.cell? ⟨LB, 1, none⟩ = some (.slice (some ⟨ib, io, none⟩) lk.dests.length ci) ∧ w'.cell? ⟨ib, io + j, none⟩ = some (.int .i64 z) ∧ LB < w'.heap.size ∧ ib < w'.heap.size ∧ (Below wa.heap.size wa w' ∧ w'.heap[LB]? = some (.cells #[.int .i64 lk.source, .slice (some ⟨ib, io, none⟩) lk.dests.length ci, .int .i64 lk.offset] 38 (0, 0)) ∧ MtS w' wa.heap.size bs c.parts.length (fun p => sweep (X0 p) ((lk.dests.take j).map fun d => (f, (partP c d).getD 0))))) (by kernel_rfl) (by (first | exact HKp.out _ _ hHeld hb1 | exact HS0.out)) (fun hHeld => ?_)
                        refine wpAnyH_take (i := 0) (v := ?v2_0) rfl (by kernel_rfl) (by kernel_rfl) (by kernel_rfl) (fun _ _ _ h => h) (Or.inl ⟨by kernel_rfl, ?y2_0⟩) (by assumption) ?r2_0
                        case y2_0 => (intro W hSW; (try dsimp only at hSW); go_simp; (try with_reducible rfl))
                        change wpAnyH _ _ _ _ _ _ _ (Act.put _ (some 89) _) _
                        (try simp only [Act.put, List.setIfInBounds_toArray, List.set_cons_zero, List.set_cons_succ])
                        refine wpAnyH_take (i := 1) (v := ?v2_1) rfl (by kernel_rfl) (by kernel_rfl) (by kernel_rfl) (fun _ _ _ h => h) (Or.inl ⟨by kernel_rfl, ?y2_1⟩) (by assumption) ?r2_1
                        case y2_1 => (intro W hSW; (try dsimp only at hSW); go_simp; (try with_reducible rfl))
                        change wpAnyH _ _ _ _ _ _ _ (Act.put _ (some 90) _) _
                        (try simp only [Act.put, List.setIfInBounds_toArray, List.set_cons_zero, List.set_cons_succ])
                        refine wpAnyH_take (i := 2) (v := ?v2_2) rfl (by kernel_rfl) (by kernel_rfl) (by kernel_rfl) (fun _ _ _ h => h) (Or.inl ⟨by kernel_rfl, ?y2_2⟩) (by assumption) ?r2_2
                        case y2_2 => (intro W hSW; (try dsimp only at hSW); go_simp; (try with_reducible rfl))
                        change wpAnyH _ _ _ _ _ _ _ (Act.put _ (some 91) _) _
                        (try simp only [Act.put, List.setIfInBounds_toArray, List.set_cons_zero, List.set_cons_succ])
                        refine wpAnyH_take (i := 3) (v := ?v2_3) rfl (by kernel_rfl) (by kernel_rfl) (by kernel_rfl) (fun _ _ _ h => h) (Or.inl ⟨by kernel_rfl, ?y2_3⟩) (by assumption) ?r2_3
                        case y2_3 => (intro W hSW; (try dsimp only at hSW); go_simp; (try with_reducible rfl))
                        change wpAnyH _ _ _ _ _ _ _ (Act.put _ (some 92) _) _
                        (try simp only [Act.put, List.setIfInBounds_toArray, List.set_cons_zero, List.set_cons_succ])
                        refine wpAnyH_take (i := 4) (v := ?v2_4) rfl (by kernel_rfl) (by kernel_rfl) (by kernel_rfl) (fun _ _ _ h => h) (Or.inl ⟨by kernel_rfl, ?y2_4⟩) (by assumption) ?r2_4
                        case y2_4 => (intro W hSW; (try dsimp only at hSW); go_simp; (try with_reducible rfl))
                        change wpAnyH _ _ _ _ _ _ _ (Act.put _ (some 93) _) _
                        (try simp only [Act.put, List.setIfInBounds_toArray, List.set_cons_zero, List.set_cons_succ])
                        refine wpAnyH_take (i := 5) (v := ?v2_5) rfl (by kernel_rfl) (by kernel_rfl) (by kernel_rfl) (fun _ _ _ h => h) (Or.inl ⟨by kernel_rfl, ?y2_5⟩) (by assumption) ?r2_5
                        case y2_5 => (intro W hSW; (try dsimp only at hSW); go_simp; (try with_reducible rfl))
                        change wpAnyH _ _ _ _ _ _ _ (Act.put _ (some 94) _) _
                        (try simp only [Act.put, List.setIfInBounds_toArray, List.set_cons_zero, List.set_cons_succ])
                        refine wpAnyH_ready (rs := [6]) (by kernel_rfl) (by simp) ?_
                        refine AllReadyH.cons rfl (fun K hK => ?_) AllReadyH.nil
                        rw [if_pos (by rfl)]
                        go_simp
                        refine (HP.out _ hHeld.1 _).mono ?_
                        rintro e w5 ⟨rfl, hb1⟩
                        go_simp
                        refine hK.out _ _ (by (first | exact HKp.out _ _ hHeld hb1 | exact HS0.out)) (fun hHeld => ?_)
                        clear hK K
                        (try simp only [Act.put, List.setIfInBounds_toArray, List.set_cons_zero, List.set_cons_succ])
                        refine wpAnyH_take (i := 7) (v := ?v2_7) rfl (by kernel_rfl) (by kernel_rfl) (by kernel_rfl) (fun _ _ _ h => h) (Or.inl ⟨by kernel_rfl, ?y2_7⟩) (by assumption) ?r2_7
                        case y2_7 => (intro W hSW; (try dsimp only at hSW); go_simp; (try with_reducible rfl))
                        change wpAnyH _ _ _ _ _ _ _ (Act.put _ (some 14) _) _
                        (try simp only [Act.put, List.setIfInBounds_toArray, List.set_cons_zero, List.set_cons_succ])
                        refine wpAnyH_done (by kernel_rfl) ?_ _
                        clear HS0 HKp
                        have HBn := hide hHeld.2.2.2.2.2.2.2.2.2.2.2.2.2.2.2.2.2.1
                        have HLn := hide hHeld.2.2.2.2.2.2.2.2.2.2.2.2.2.2.2.2.2.2.1
                        have hm7 := hHeld.2.2.2.2.2.2.2.2.2.2.2.2.2.2.2.2.2.2.2
                        have HXN : Hid (∀ p, sweep (X0 p) ((lk.dests.take (j + 1)).map fun d => (f, (partP c d).getD 0)) = put1 (sweep (X0 p) ((lk.dests.take j).map fun d => (f, (partP c d).getD 0))) (f, q)) := fun p => by
                          rw [HTK.out, List.map_append, sweep_app, List.map_singleton, HQ.out]; rfl
                        obtain ⟨X1, hX1⟩ : ∃ X : Nat → List Bool, (fun p => sweep (X0 p) ((lk.dests.take j).map fun d => (f, (partP c d).getD 0))) = X := ⟨_, rfl⟩
                        have HX1 := hide hX1
                        rw [hX1] at hm7
                        have HM7 : Hid (MtS w5 wa.heap.size bs c.parts.length (fun p => if p < 0 then put1 (X1 p) (f, q) else X1 p)) := hm7.ext fun p _ => if_neg (by omega)
                        rw [partN_some HQ.out]
                        clear hHeld hm7 hX1 HTK HBW5 HM6 HLX hb1 HQ
                        go_wp2_with fail
                        go_loopw [15] (fun i W => ∃ t : Nat, t ≤ c.parts.length ∧ i = .int .i64 t ∧ Below wa.heap.size wa W ∧ W.heap[LB]? = some (.cells #[.int .i64 lk.source, .slice (some ⟨ib, io, none⟩) lk.dests.length ci, .int .i64 lk.offset] 38 (0, 0)) ∧ MtS W wa.heap.size bs c.parts.length (fun p => if p < t then put1 (X1 p) (f, q) else X1 p)) (fun i _ => c.parts.length - (intOf i).toNat)
                        case atStart => exact ⟨0, by omega, rfl, HBn.out, HLn.out, HM7.out⟩
                        case round =>
                          obtain ⟨t, ht, rfl, hbw, hlx, hm⟩ := hrel
                          have HBW6 := hide hbw; have HM8 := hide hm; have HL8 := hide hlx
                          clear hbw hlx hm HM7 HLn HBn
                          by_cases htl : t < c.parts.length
                          · have HTL := hide (show t + 1 ≤ c.parts.length by omega)
                            have c1 := HM8.out.cell htl
                            have c2 := HM8.out.bit htl hqn
                            have c3 := HM8.out.bit htl hfn
                            have fz := HM8.out.free (j := q) htl
                            simp only [if_neg (Nat.lt_irrefl t)] at c2 c3
                            have hbl := HLT.out t htl
                            have hlo := HM8.out.low _ (HM8.out.mem htl)
                            have HNext : Hid (∀ v : Bool, v = ((X1 t).getD q false || (X1 t).getD f false) → Below wa.heap.size wa (wr.drew.setCell ⟨bs.getD t 0, q, none⟩ (.bool v)) ∧ (wr.drew.setCell ⟨bs.getD t 0, q, none⟩ (.bool v)).heap[LB]? = some (.cells #[.int .i64 lk.source, .slice (some ⟨ib, io, none⟩) lk.dests.length ci, .int .i64 lk.offset] 38 (0, 0)) ∧
                                MtS (wr.drew.setCell ⟨bs.getD t 0, q, none⟩ (.bool v)) wa.heap.size bs c.parts.length (fun p => if p < t + 1 then put1 (X1 p) (f, q) else X1 p)) := fun v hv => by
                              refine ⟨(vdrewNx HBW6.out 1).setCell (p := ⟨bs.getD t 0, q, none⟩) (by show _ ≤ bs.getD t 0; omega) _, by rw [setCell_other (by omega)]; exact HL8.out, ((HM8.out.below (vdrewNx (Below.refl _ wr) 1)).put htl v).ext fun p hp => ?_⟩
                              by_cases e : p = t
                              · subst e
                                simp only [if_pos (Nat.lt_succ_self p), if_pos, if_neg (Nat.lt_irrefl p)]
                                unfold put1
                                rw [hv]
                              · rw [if_neg e]
                                by_cases e2 : p < t
                                · rw [if_pos e2, if_pos (by omega)]
                                · rw [if_neg e2, if_neg (by omega)]
                            clear hbl hlo HM8 HL8 HBW6
                            generalize bs.getD t 0 = b at c1 c2 c3 fz HNext
                            have c1' : wr.drew.cell? ⟨wa.heap.size, t, none⟩ = some (.slice (some ⟨b, 0, none⟩) c.parts.length c.parts.length) := c1
                            generalize (X1 t).getD q false = x at c2 HNext
                            generalize (X1 t).getD f false = y at c3 HNext
                            have c2' : wr.drew.cell? ⟨b, q, none⟩ = some (.bool x) := c2
                            have fz' : wr.drew.frozen? ⟨b, q, none⟩ = false := fz
                            rcases x with _ | _
                            · rcases y with _ | _
                              · have HN := hide (HNext.out false rfl)
                                clear HNext
                                go_upto_region 29 with fail
                                go_still_tail 22, (by kernel_rfl)
                                change wpList _ _ _ _ _ wr.drew
                                clear c1 c2 c3 fz
                                generalize wr.drew = w9 at c1' c2' fz' HN ⊢
                                go_wp2_with fail
                                go_roundw
                                case rel => exact ⟨t + 1, HTL.out, by go_num, HN.out⟩
                                case measure => have := HTL.out; simp [intOf]; omega
                              · have HN := hide (HNext.out true rfl)
                                clear HNext
                                go_upto_region 29 with fail
                                go_still_tail 22, (by kernel_rfl)
                                change wpList _ _ _ _ _ wr.drew
                                clear c1 c2 c3 fz
                                generalize wr.drew = w9 at c1' c2' fz' HN ⊢
                                go_wp2_with fail
                                go_roundw
                                case rel => exact ⟨t + 1, HTL.out, by go_num, HN.out⟩
                                case measure => have := HTL.out; simp [intOf]; omega
                            · have hsame := setCell_self c2'
                              have HN := hide (HNext.out true rfl)
                              have HW0 : Hid (wr.drew.cell? ⟨wa.heap.size, t, none⟩ = some (.slice (some ⟨b, 0, none⟩) c.parts.length c.parts.length) ∧ wr.drew.cell? ⟨b, q, none⟩ = some (.bool true) ∧ wr.drew.frozen? ⟨b, q, none⟩ = false) := ⟨c1', c2', fz'⟩
                              rw [hsame] at HN
                              clear HNext
                              go_upto_region 29 with fail
                              clear c1 c2 c3 fz
                              refine wp_region_held_drew (S := fun w' => w'.cell? ⟨wa.heap.size, t, none⟩ = some (.slice (some ⟨b, 0, none⟩) c.parts.length c.parts.length) ∧ w'.cell? ⟨b, q, none⟩ = some (.bool true) ∧ w'.frozen? ⟨b, q, none⟩ = false) (by kernel_rfl) (HW0.out) (fun hHeld => ?_)
                              refine wpAnyH_take (i := 0) (v := ?v3_0) rfl (by kernel_rfl) (by kernel_rfl) (by kernel_rfl) (fun _ _ _ h => h) (Or.inl ⟨by kernel_rfl, ?y3_0⟩) (by assumption) ?r3_0
                              case y3_0 => (intro W hSW; (try dsimp only at hSW); go_simp; (try with_reducible rfl))
                              change wpAnyH _ _ _ _ _ _ _ (Act.put _ (some 101) _) _
                              (try simp only [Act.put, List.setIfInBounds_toArray, List.set_cons_zero, List.set_cons_succ])
                              refine wpAnyH_take (i := 1) (v := ?v3_1) rfl (by kernel_rfl) (by kernel_rfl) (by kernel_rfl) (fun _ _ _ h => h) (Or.inl ⟨by kernel_rfl, ?y3_1⟩) (by assumption) ?r3_1
                              case y3_1 => (intro W hSW; (try dsimp only at hSW); go_simp; (try with_reducible rfl))
                              change wpAnyH _ _ _ _ _ _ _ (Act.put _ (some 102) _) _
                              (try simp only [Act.put, List.setIfInBounds_toArray, List.set_cons_zero, List.set_cons_succ])
                              refine wpAnyH_take (i := 2) (v := ?v3_2) rfl (by kernel_rfl) (by kernel_rfl) (by kernel_rfl) (fun _ _ _ h => h) (Or.inl ⟨by kernel_rfl, ?y3_2⟩) (by assumption) ?r3_2
                              case y3_2 => (intro W hSW; (try dsimp only at hSW); go_simp; (try with_reducible rfl))
                              change wpAnyH _ _ _ _ _ _ _ (Act.put _ (some 103) _) _
                              (try simp only [Act.put, List.setIfInBounds_toArray, List.set_cons_zero, List.set_cons_succ])
                              refine wpAnyH_take (i := 3) (v := ?v3_3) rfl (by kernel_rfl) (by kernel_rfl) (by kernel_rfl) (fun _ _ _ h => h) (Or.inl ⟨by kernel_rfl, ?y3_3⟩) (by assumption) ?r3_3
                              case y3_3 => (intro W hSW; (try dsimp only at hSW); go_simp; (try with_reducible rfl))
                              change wpAnyH _ _ _ _ _ _ _ (Act.put _ (some 104) _) _
                              (try simp only [Act.put, List.setIfInBounds_toArray, List.set_cons_zero, List.set_cons_succ])
                              refine wpAnyH_take (i := 4) (v := ?v3_4) rfl (by kernel_rfl) (by kernel_rfl) (by kernel_rfl) (fun _ _ _ h => h) (Or.inl ⟨by kernel_rfl, ?y3_4⟩) (by assumption) ?r3_4
                              case y3_4 => (intro W hSW; (try dsimp only at hSW); go_simp; (try with_reducible rfl))
                              change wpAnyH _ _ _ _ _ _ _ (Act.put _ (some 105) _) _
                              (try simp only [Act.put, List.setIfInBounds_toArray, List.set_cons_zero, List.set_cons_succ])
                              refine wpAnyH_take (i := 5) (v := ?v3_5) rfl (by kernel_rfl) (by kernel_rfl) (by kernel_rfl) (fun _ _ _ h => h) (Or.inl ⟨by kernel_rfl, ?y3_5⟩) (by assumption) ?r3_5
                              case y3_5 => (intro W hSW; (try dsimp only at hSW); go_simp; (try with_reducible rfl))
                              change wpAnyH _ _ _ _ _ _ _ (Act.put _ (some 106) _) _
                              (try simp only [Act.put, List.setIfInBounds_toArray, List.set_cons_zero, List.set_cons_succ])
                              refine wpAnyH_take (i := 6) (v := ?v3_6) rfl (by kernel_rfl) (by kernel_rfl) (by kernel_rfl) (fun _ _ _ h => h) (Or.inl ⟨by kernel_rfl, ?y3_6⟩) (by assumption) ?r3_6
                              case y3_6 => (intro W hSW; (try dsimp only at hSW); go_simp; (try with_reducible rfl))
                              change wpAnyH _ _ _ _ _ _ _ (Act.put _ (some 107) _) _
                              (try simp only [Act.put, List.setIfInBounds_toArray, List.set_cons_zero, List.set_cons_succ])
                              refine wpAnyH_take (i := 7) (v := ?v3_7) rfl (by kernel_rfl) (by kernel_rfl) (by kernel_rfl) (fun _ _ _ h => h) (Or.inl ⟨by kernel_rfl, ?y3_7⟩) (by assumption) ?r3_7
                              case y3_7 => (intro W hSW; (try dsimp only at hSW); go_simp; (try with_reducible rfl))
                              change wpAnyH _ _ _ _ _ _ _ (Act.put _ (some 108) _) _
                              (try simp only [Act.put, List.setIfInBounds_toArray, List.set_cons_zero, List.set_cons_succ])
                              refine wpAnyH_take (i := 8) (v := ?v3_8) rfl (by kernel_rfl) (by kernel_rfl) (by kernel_rfl) (fun _ _ _ h => h) (Or.inl ⟨by kernel_rfl, ?y3_8⟩) (by assumption) ?r3_8
                              case y3_8 => (intro W hSW; (try dsimp only at hSW); go_simp; (try with_reducible rfl))
                              change wpAnyH _ _ _ _ _ _ _ (Act.put _ (some 109) _) _
                              (try simp only [Act.put, List.setIfInBounds_toArray, List.set_cons_zero, List.set_cons_succ])
                              refine wpAnyH_take (i := 9) (v := ?v3_9) rfl (by kernel_rfl) (by kernel_rfl) (by kernel_rfl) (fun _ _ _ h => h) (Or.inl ⟨by kernel_rfl, ?y3_9⟩) (by assumption) ?r3_9
                              case y3_9 => (intro W hSW; (try dsimp only at hSW); go_simp; (try with_reducible rfl))
                              change wpAnyH _ _ _ _ _ _ _ (Act.put _ (some 110) _) _
                              (try simp only [Act.put, List.setIfInBounds_toArray, List.set_cons_zero, List.set_cons_succ])
                              refine wpAnyH_take (i := 10) (v := ?v3_10) rfl (by kernel_rfl) (by kernel_rfl) (by kernel_rfl) (fun _ _ _ h => h) (Or.inl ⟨by kernel_rfl, ?y3_10⟩) (by assumption) ?r3_10
                              case y3_10 => (intro W hSW; (try dsimp only at hSW); go_simp; (try with_reducible rfl))
                              change wpAnyH _ _ _ _ _ _ _ (Act.put _ (some 111) _) _
                              (try simp only [Act.put, List.setIfInBounds_toArray, List.set_cons_zero, List.set_cons_succ])
                              refine wpAnyH_take (i := 11) (v := ?v3_11) rfl (by kernel_rfl) (by kernel_rfl) (by kernel_rfl) (fun _ _ _ h => h) (Or.inl ⟨by kernel_rfl, ?y3_11⟩) (by assumption) ?r3_11
                              case y3_11 => (intro W hSW; (try dsimp only at hSW); go_simp; (try with_reducible rfl))
                              change wpAnyH _ _ _ _ _ _ _ (Act.put _ (some 112) _) _
                              (try simp only [Act.put, List.setIfInBounds_toArray, List.set_cons_zero, List.set_cons_succ])
                              refine wpAnyH_take (i := 12) (v := ?v3_12) rfl (by kernel_rfl) (by kernel_rfl) (by kernel_rfl) (fun _ _ _ h => h) (Or.inl ⟨by kernel_rfl, ?y3_12⟩) (by assumption) ?r3_12
                              case y3_12 => (intro W hSW; (try dsimp only at hSW); go_simp; (try with_reducible rfl))
                              change wpAnyH _ _ _ _ _ _ _ (Act.put _ (some 113) _) _
                              (try simp only [Act.put, List.setIfInBounds_toArray, List.set_cons_zero, List.set_cons_succ])
                              refine wpAnyH_take (i := 13) (v := undef) rfl (by kernel_rfl) (by kernel_rfl) (by kernel_rfl) (fun _ _ _ h => h) (Or.inr ⟨by kernel_rfl, rfl⟩) (by assumption) ?_
                              change wpAnyH _ _ _ _ _ _ _ (Act.put _ (some 114) _) _
                              (try simp only [Act.put, List.setIfInBounds_toArray, List.set_cons_zero, List.set_cons_succ])
                              refine wpAnyH_take (i := 14) (v := undef) rfl (by kernel_rfl) (by kernel_rfl) (by kernel_rfl) (fun _ _ _ h => h) (Or.inr ⟨by kernel_rfl, rfl⟩) (by assumption) ?_
                              change wpAnyH _ _ _ _ _ _ _ (Act.put _ (some 115) _) _
                              (try simp only [Act.put, List.setIfInBounds_toArray, List.set_cons_zero, List.set_cons_succ])
                              refine wpAnyH_take (i := 15) (v := undef) rfl (by kernel_rfl) (by kernel_rfl) (by kernel_rfl) (fun _ _ _ h => h) (Or.inr ⟨by kernel_rfl, rfl⟩) (by assumption) ?_
                              change wpAnyH _ _ _ _ _ _ _ (Act.put _ (some 116) _) _
                              (try simp only [Act.put, List.setIfInBounds_toArray, List.set_cons_zero, List.set_cons_succ])
                              refine wpAnyH_take (i := 16) (v := undef) rfl (by kernel_rfl) (by kernel_rfl) (by kernel_rfl) (fun _ _ _ h => h) (Or.inr ⟨by kernel_rfl, rfl⟩) (by assumption) ?_
                              change wpAnyH _ _ _ _ _ _ _ (Act.put _ (some 117) _) _
                              (try simp only [Act.put, List.setIfInBounds_toArray, List.set_cons_zero, List.set_cons_succ])
                              refine wpAnyH_take (i := 17) (v := undef) rfl (by kernel_rfl) (by kernel_rfl) (by kernel_rfl) (fun _ _ _ h => h) (Or.inr ⟨by kernel_rfl, rfl⟩) (by assumption) ?_
                              change wpAnyH _ _ _ _ _ _ _ (Act.put _ (some 118) _) _
                              (try simp only [Act.put, List.setIfInBounds_toArray, List.set_cons_zero, List.set_cons_succ])
                              refine wpAnyH_take (i := 18) (v := undef) rfl (by kernel_rfl) (by kernel_rfl) (by kernel_rfl) (fun _ _ _ h => h) (Or.inr ⟨by kernel_rfl, rfl⟩) (by assumption) ?_
                              change wpAnyH _ _ _ _ _ _ _ (Act.put _ (some 119) _) _
                              (try simp only [Act.put, List.setIfInBounds_toArray, List.set_cons_zero, List.set_cons_succ])
                              refine wpAnyH_take (i := 19) (v := undef) rfl (by kernel_rfl) (by kernel_rfl) (by kernel_rfl) (fun _ _ _ h => h) (Or.inr ⟨by kernel_rfl, rfl⟩) (by assumption) ?_
                              change wpAnyH _ _ _ _ _ _ _ (Act.put _ (some 120) _) _
                              (try simp only [Act.put, List.setIfInBounds_toArray, List.set_cons_zero, List.set_cons_succ])
                              refine wpAnyH_take (i := 20) (v := ?v3_20) rfl (by kernel_rfl) (by kernel_rfl) (by kernel_rfl) (fun _ _ _ h => h) (Or.inl ⟨by kernel_rfl, ?y3_20⟩) (by assumption) ?r3_20
                              case y3_20 => (intro W hSW; (try dsimp only at hSW); go_simp; (try with_reducible rfl))
                              change wpAnyH _ _ _ _ _ _ _ (Act.put _ (some 121) _) _
                              (try simp only [Act.put, List.setIfInBounds_toArray, List.set_cons_zero, List.set_cons_succ])
                              refine wpAnyH_take (i := 21) (v := ?v3_21) rfl (by kernel_rfl) (by kernel_rfl) (by kernel_rfl) (fun _ _ _ h => h) (Or.inl ⟨by kernel_rfl, ?y3_21⟩) (by assumption) ?r3_21
                              case y3_21 => (intro W hSW; (try dsimp only at hSW); go_simp; (try with_reducible rfl))
                              change wpAnyH _ _ _ _ _ _ _ (Act.put _ (some 122) _) _
                              (try simp only [Act.put, List.setIfInBounds_toArray, List.set_cons_zero, List.set_cons_succ])
                              refine wpAnyH_ready (rs := [22]) (by kernel_rfl) (by simp) ?_
                              refine AllReadyH.cons rfl (fun K hK => ?_) AllReadyH.nil
                              rw [if_pos (by rfl)]
                              go_simp
                              skip
                              refine hK.out _ _ (HW0.out) (fun hHeld => ?_)
                              clear hK K
                              (try simp only [Act.put, List.setIfInBounds_toArray, List.set_cons_zero, List.set_cons_succ])
                              refine wpAnyH_done (by kernel_rfl) ?_ _
                              clear c1' c2' fz' hsame HW0
                              generalize wr.drew = w9 at HN ⊢
                              go_wp2_with fail
                              go_roundw
                              case rel => exact ⟨t + 1, HTL.out, by go_num, HN.out⟩
                              case measure => have := HTL.out; simp [intOf]; omega
                          · obtain rfl : t = c.parts.length := by omega
                            have HBx := hide HBW6.out; have HLx := hide HL8.out
                            have HMx : Hid (MtS wr wa.heap.size bs c.parts.length (fun p => sweep (X0 p) ((lk.dests.take (j + 1)).map fun d => (f, (partP c d).getD 0)))) := HM8.out.ext fun p hp => by
                              rw [HXN.out, if_pos hp, ← HX1.out]
                            clear HM8 HBW6 HL8
                            go_wp2_with fail
                            go_roundw
                            case rel =>
                              repeat apply Exists.intro
                              exact ⟨⟨j + 1, HJL.out, by go_num, HBx.out, HLx.out, HMx.out⟩, rfl⟩
                            case measure => have := HJL.out; simp [intOf]; omega
                      · obtain rfl : j = lk.dests.length := by omega
                        have HBn := hide HBW5.out
                        have HMn : Hid (MtS wr wa.heap.size bs c.parts.length (fun p => sweep (sweepN (edgesF c c.links) r (firstB c.parts.length p)) (edgesF c (c.links.take (k + 1))))) := HM6.out.ext fun p _ => by
                          rw [HFin2.out, List.take_length]
                        clear HM6 HBW5 HLX
                        go_wp2_with fail
                        go_roundw
                        case rel => exact ⟨k + 1, HKL.out, by go_num, HBn.out, HMn.out⟩
                        case measure => have := HKL.out; simp [intOf]; omega
            · obtain rfl : k = c.links.length := by omega
              have HMx : Hid (MtS wr wa.heap.size bs c.parts.length (fun p => sweepN (edgesF c c.links) (r + 1) (firstB c.parts.length p))) := by
                have h1 := HM.out
                rw [List.take_length] at h1
                exact h1
              have HBx := hide HBW.out
              have HSr := hide (HS.out.below HBW.out)
              obtain ⟨_, ⟨_, _, _, _, _, _, _, _, _, _, _, _, e11⟩, _, _⟩ := HSr.out
              dsimp only at e11
              clear HM HBW
              go_wp2_with fail
              go_roundw
              case rel => exact ⟨r + 1, HRL.out, by go_num, HBx.out, HMx.out⟩
              case measure => have := HRL.out; simp [intOf]; omega
        · obtain rfl : r = c.parts.length := by omega
          have HF := hide (MtS.rms HM.out)
          have HBF := hide (HS.out.bel.trans (HBW.out.mono HWZ.out))
          have hwz := HWZ.out
          clear HM HBW
          go_wp2
          go_ret
          exact ⟨_, bs, rfl, HF.out, hwz, HBF.out⟩
end Go.Proofs.YthngjegimecaaaaDoor
