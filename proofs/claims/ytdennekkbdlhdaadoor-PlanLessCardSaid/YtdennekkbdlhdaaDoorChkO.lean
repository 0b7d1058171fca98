/-
  What the program asks of links.
-/
import Derived.Test.YtdennekkbdlhdaaDoorChkM
import Derived.Test.YtdennekkbdlhdaaDoorChkN
namespace Go.Proofs.YtdennekkbdlhdaaDoor
open Go.RowKit Go.Deep
set_option linter.unusedVariables false
set_option linter.unusedSimpArgs false

theorem pt_node (c : Conf) (hPA : PartsK c) (hPO : PortsK c) (l : Lk) (h : LinkOk c l) : 0 ≤ (ptOf c l).node ∧ (ptOf c l).node < c.nodes := by
  obtain ⟨h1, _⟩ := h
  simp only [ofB, Bool.and_eq_true, decide_eq_true_eq] at h1
  have h2 := (hPO.2 l.source.toNat (by omega)).1
  simp only [ofB, Bool.and_eq_true, decide_eq_true_eq] at h2
  exact (hPA.2.1 _ (by omega)).1

set_option maxRecDepth 100000 in
set_option maxHeartbeats 8000000 in
theorem links_any (c : Conf) (d : Ad) (w : World) (hg : Glo w) (h : ConfAt w c d) (n : Nat) (hn : c.nodes = (n : Int)) (hn2 : n ≤ 16) (hPA : PartsK c) (hPO : PortsK c) :
    Calls Tryd.prog 35 #[c.val d] w fun e w' => ∃ v : Bool, e = .returned (.bool v) ∧ (v = true ↔ LinksK c) ∧ Below w.heap.size w w' := by
  have hS := CfS.first 34 hg h
  have HG0 := hide hg
  have HC0 := hide h
  have HPA := hide hPA
  have HPO := hide hPO
  have hp64 : c.ports.length ≤ 64 := hPO.1
  clear hg h hPA hPO
  obtain ⟨oA, oC, pA, pC, wA, wC, qA, qC, lA, lC⟩ := d
  obtain ⟨nodes, owners, drift, reading, margin, bound, rejoin, quota, parts, windows, ports, links⟩ := c
  dsimp only at hn hp64
  subst hn
  unfold Conf.val
  unfold Conf.cells at hS
  dsimp only at hS ⊢
  have hmk : ∀ W : World, (Instr.makeSlice 69 (.int .i64 (n : Int)) (.int .i64 (n : Int))).run Tryd.prog W = .ok (.slice (some ⟨W.heap.size, 0, none⟩) n n) (W.alloc (.cells (List.replicate n (.slice none 0 0)).toArray 74)) := fun W => make_rowsL n hn2 W
  have hmt : ∀ W : World, (Instr.makeSlice 99 (.int .i64 (ports.length : Int)) (.int .i64 (ports.length : Int))).run Tryd.prog W = .ok (.slice (some ⟨W.heap.size, 0, none⟩) ports.length ports.length) (W.alloc (.cells ((List.replicate ports.length false).map Value.bool).toArray 4)) := fun W => make_truths ports.length hp64 W
  go_enter Tryd.func35, Tryd.ntmps35
  by_cases hlen : links.length ≤ 64
  · have hlen2 : ((links.length : Nat) : Int) ≤ 64 := by omega
    obtain ⟨hb, ⟨hl, e0, e1, e2, e3, e4, e5, e6, e7, e8, e9, e10, e11⟩, hg, hc⟩ := id hS
    dsimp only at e0 e1 e2 e3 e4 e5 e6 e7 e8 e9 e10 e11
    have HS := hide hS
    clear hS hg hc
    have sz1 : (w.alloc (.cells #[.int .i64 (n : Int), .slice oA owners.length oC, .int .i64 drift, .int .i64 reading, .int .i64 margin, .int .i64 bound, .int .i64 rejoin, .int .i64 quota, .slice pA parts.length pC, .slice wA windows.length wC, .slice qA ports.length qC, .slice lA links.length lC] 34)).heap.size = w.heap.size + 1 := Array.size_push _
    have sz2 : ((w.alloc (.cells #[.int .i64 (n : Int), .slice oA owners.length oC, .int .i64 drift, .int .i64 reading, .int .i64 margin, .int .i64 bound, .int .i64 rejoin, .int .i64 quota, .slice pA parts.length pC, .slice wA windows.length wC, .slice qA ports.length qC, .slice lA links.length lC] 34)).alloc (.cells ((List.replicate ports.length false).map Value.bool).toArray 4)).heap.size = w.heap.size + 2 := by rw [show ((w.alloc (.cells #[.int .i64 (n : Int), .slice oA owners.length oC, .int .i64 drift, .int .i64 reading, .int .i64 margin, .int .i64 bound, .int .i64 rejoin, .int .i64 quota, .slice pA parts.length pC, .slice wA windows.length wC, .slice qA ports.length qC, .slice lA links.length lC] 34)).alloc (.cells ((List.replicate ports.length false).map Value.bool).toArray 4)).heap.size = (w.alloc (.cells #[.int .i64 (n : Int), .slice oA owners.length oC, .int .i64 drift, .int .i64 reading, .int .i64 margin, .int .i64 bound, .int .i64 rejoin, .int .i64 quota, .slice pA parts.length pC, .slice wA windows.length wC, .slice qA ports.length qC, .slice lA links.length lC] 34)).heap.size + 1 from Array.size_push _, sz1]
    have hb1 := (Below.refl _ (w.alloc (.cells #[.int .i64 (n : Int), .slice oA owners.length oC, .int .i64 drift, .int .i64 reading, .int .i64 margin, .int .i64 bound, .int .i64 rejoin, .int .i64 quota, .slice pA parts.length pC, .slice wA windows.length wC, .slice qA ports.length qC, .slice lA links.length lC] 34))).alloc (Nat.le_refl _) (.cells ((List.replicate ports.length false).map Value.bool).toArray 4)
    have hb2 := (Below.refl _ ((w.alloc (.cells #[.int .i64 (n : Int), .slice oA owners.length oC, .int .i64 drift, .int .i64 reading, .int .i64 margin, .int .i64 bound, .int .i64 rejoin, .int .i64 quota, .slice pA parts.length pC, .slice wA windows.length wC, .slice qA ports.length qC, .slice lA links.length lC] 34)).alloc (.cells ((List.replicate ports.length false).map Value.bool).toArray 4))).alloc (Nat.le_refl _) (.cells (List.replicate n (.slice none 0 0)).toArray 74)
    have hR0 := rows_new n ((w.alloc (.cells #[.int .i64 (n : Int), .slice oA owners.length oC, .int .i64 drift, .int .i64 reading, .int .i64 margin, .int .i64 bound, .int .i64 rejoin, .int .i64 quota, .slice pA parts.length pC, .slice wA windows.length wC, .slice qA ports.length qC, .slice lA links.length lC] 34)).alloc (.cells ((List.replicate ports.length false).map Value.bool).toArray 4))
    rw [sz2] at hR0
    have hL0 := truths_new ports.length (w.alloc (.cells #[.int .i64 (n : Int), .slice oA owners.length oC, .int .i64 drift, .int .i64 reading, .int .i64 margin, .int .i64 bound, .int .i64 rejoin, .int .i64 quota, .slice pA parts.length pC, .slice wA windows.length wC, .slice qA ports.length qC, .slice lA links.length lC] 34))
    rw [sz1] at hL0
    have HS1 := hide ((HS.out.below hb1).below hb2)
    have HL1 := hide (hL0.kept hb2)
    have HR1 := hide hR0
    rw [show ((List.replicate ports.length false).map Value.bool) = List.replicate ports.length (Value.bool false) from List.map_replicate] at HS1 HL1 HR1
    clear hb1 hb2 hR0 hL0 sz1 sz2
    go_upto_region 6 with fail
    clear hb hl e0 e1 e2 e3 e4 e5 e6 e7 e8 e9 e10 e11
    go_loopw [23] (fun i W => ∃ (k : Nat) (vs : List Value) (L : List Bool), k ≤ links.length ∧ i = .int .i64 k ∧ CfS w W ⟨(n : Int), owners, drift, reading, margin, bound, rejoin, quota, parts, windows, ports, links⟩ ⟨oA, oC, pA, pC, wA, wC, qA, qC, lA, lC⟩ ∧ Truths W (w.heap.size + 1) L ∧ RowsS W (w.heap.size + 3) (w.heap.size + 2) vs (regsOf n ((links.take k).map (ptOf ⟨(n : Int), owners, drift, reading, margin, bound, rejoin, quota, parts, windows, ports, links⟩))) ∧ Hid (standF (List.replicate ports.length false) (namesOf (links.take k)) = some L ∧ ∀ j, j < k → LinkOk ⟨(n : Int), owners, drift, reading, margin, bound, rejoin, quota, parts, windows, ports, links⟩ (links.getD j default))) (fun i _ => links.length - (intOf i).toNat)
    case atStart => exact ⟨0, _, _, by omega, rfl, HS1.out, HL1.out, HR1.out, ⟨rfl, fun j hj => by omega⟩⟩
    case round =>
      obtain ⟨k, vs, L, hk, rfl, hT, hL, hR, H⟩ := hrel
      clear HS HS1 HL1 HR1
      by_cases hlt : k < links.length
      · obtain ⟨lb, lof, Ai, ci, hA, hlb, f0, f1, f2, hci, hcm, hIn, hI1, hI2⟩ := HC0.out.links.at hlt
        dsimp only at hA
        subst hA
        obtain ⟨hb, ⟨hl, e0, e1, e2, e3, e4, e5, e6, e7, e8, e9, e10, e11⟩, hg, hc⟩ := id hT
        dsimp only at e0 e1 e2 e3 e4 e5 e6 e7 e8 e9 e10 e11 f0 f1 f2 hci hIn hI1 hI2
        replace f0 := cell_below hb (Nat.le_refl _) hlb f0
        replace f1 := cell_below hb (Nat.le_refl _) hlb f1
        replace f2 := cell_below hb (Nat.le_refl _) hlb f2
        obtain ⟨⟨source, dests, offset⟩, hp⟩ : ∃ p, links.getD k default = p := ⟨_, rfl⟩
        rw [hp] at f0 f1 f2 hci hIn hI1 hI2
        dsimp only at f0 f1 f2 hci hIn hI1 hI2
        have HP := hide hp
        have HIN := hide hIn
        have hdm : dests.length ≤ 9223372036854775807 := Nat.le_trans hci hcm
        have hbx := (Below.refl wr.heap.size wr).alloc (Nat.le_refl _) (.cells #[.int .i64 source, .slice Ai dests.length ci, .int .i64 offset] 51)
        have HT1 := hide (hT.below hbx)
        have HL1 := hide (hL.kept hbx)
        have HR1 := hide (hR.below hbx)
        have HB1 := hide (hb.trans (hbx.mono hT.bel.size))
        have HK1 := hide (lk_new wr source Ai dests.length ci offset 51)
        have HWR : Hid (w.heap.size + 3 ≤ wr.heap.size ∧ wr.heap.size < (wr.alloc (.cells #[.int .i64 source, .slice Ai dests.length ci, .int .i64 offset] 51)).heap.size) := ⟨by have := (Array.getElem?_eq_some_iff.1 hR.blk).1; omega, alloc_lt _ _⟩
        have HOW : Hid (∀ i, i < n → ∀ g, (vs.getD i undef).ownBlock = some g → g < wr.heap.size) := fun i hi g e => by
          obtain ⟨_, cur, h2⟩ := (hR.own i (by rw [regs_len]; exact hi)).blk e
          exact (Array.getElem?_eq_some_iff.1 h2).1
        obtain ⟨q, hq⟩ : ∃ q, decide (LinkOk ⟨(n : Int), owners, drift, reading, margin, bound, rejoin, quota, parts, windows, ports, links⟩ ⟨source, dests, offset⟩) = q := ⟨_, rfl⟩
        have HLK := hide (link_any ⟨(n : Int), owners, drift, reading, margin, bound, rejoin, quota, parts, windows, ports, links⟩ ⟨oA, oC, pA, pC, wA, wC, qA, qC, some ⟨lb, lof, none⟩, lC⟩ ⟨source, dests, offset⟩ Ai ci (wr.alloc (.cells #[.int .i64 source, .slice Ai dests.length ci, .int .i64 offset] 51)) HT1.out.g HT1.out.cf (hIn.of_below HB1.out (Nat.le_refl _)) hci hcm (fun j hj => (HPO.out.2 j hj).2))
        unfold Conf.val at HLK
        dsimp only at HLK
        rw [hq] at HLK
        have HQ := hide hq
        clear hp hIn hbx hT hL hR hg hc hq
        cases q with
        | false =>
          have HX : Hid (¬ LinksK ⟨(n : Int), owners, drift, reading, margin, bound, rejoin, quota, parts, windows, ports, links⟩) := fun a => by
            have a1 := a.2.1 k hlt
            dsimp only at a1
            rw [HP.out] at a1
            exact of_decide_eq_false HQ.out a1
          go_wp2_with (go_at_call 49; refine HLK.out.mono ?_; rintro e w1 ⟨rfl, hb1⟩; have HB2 := hide (HB1.out.trans (hb1.mono HB1.out.size)); clear hb1)
          go_ret
          exact ⟨false, rfl, ⟨fun h => (by cases h), fun h => absurd h HX.out⟩, HB2.out⟩
        | true =>
          have hok := of_decide_eq_true HQ.out
          obtain ⟨o1, o2, o3, o4, o5⟩ := hok
          dsimp only at o1 o2 o3 o4 o5
          have HSO := hide o1
          have HDO : Hid (∀ j, j < dests.length → ofB (dests.getD j 0) ports.length = true) := fun j hj => (o4 j hj).1
          have HLL : Hid (L.length = ports.length) := (standF_len H.out.1).trans (by simp)
          have HDL : Hid (dests.length ≤ 9223372036854775807) := hdm
          obtain ⟨r, hr⟩ : ∃ r, standF L (source :: dests) = r := ⟨_, rfl⟩
          have HST := hide hr
          have HO4 := hide o4
          clear hr o4
          cases r with
          | none =>
            have HX : Hid (¬ LinksK ⟨(n : Int), owners, drift, reading, margin, bound, rejoin, quota, parts, windows, ports, links⟩) := fun a => by
              have a1 := a.2.2.1
              dsimp only at a1
              rw [names_take links (k + 1), take_snocL links k hlt, HP.out, namesOf_snoc] at a1
              have a2 := stand_part _ _ _ a1
              rw [standF_append, H.out.1] at a2
              dsimp only [Option.bind_some] at a2
              rw [HST.out] at a2
              cases a2
            go_wp2_with (first
              | (go_at_call 49; refine HLK.out.mono ?_; rintro e w1 ⟨rfl, hb1⟩; have HT2 := hide (HT1.out.below hb1); have HL2 := hide (HL1.out.kept hb1); have HR2 := hide (HR1.out.below hb1); have hk2 := HK1.out.below hb1 (Nat.le_refl _); have HK2 := hide hk2; have HB2 := hide (HB1.out.trans (hb1.mono HB1.out.size)); have HW2 : Hid (w.heap.size + 3 ≤ w1.heap.size) := (by show _ ≤ _; have := HWR.out; have := hb1.size; omega); clear hb1; obtain ⟨hkl, k0, k1, k2⟩ := hk2)
              | (go_at_call 50; refine (stand_any ⟨source, dests, offset⟩ Ai ci (w.heap.size + 1) w.heap.size ports.length L w1 (Nat.le_succ _) (fun W hW => HIN.out.of_below (HT2.out.bel.trans hW) (Nat.le_refl _)) HDL.out HL2.out HLL.out hp64 HSO.out HDO.out).mono ?_; rintro e w2 ⟨rfl, ho2, ht2⟩; have HB3 := hide (HB2.out.trans (ho2.below (Nat.le_succ _) HB2.out.size)); rw [HST.out]; have HO2 := hide ho2; have HTR := hide ht2; clear ho2 ht2))
            go_ret
            exact ⟨false, rfl, ⟨fun h => (by cases h), fun h => absurd h HX.out⟩, HB3.out⟩
          | some L2 =>
            have o1' := o1
            simp only [ofB, Bool.and_eq_true, decide_eq_true_eq] at o1'
            obtain ⟨sn, hsn⟩ := Int.eq_ofNat_of_zero_le o1'.1
            subst hsn
            have hsl : sn < ports.length := by omega
            obtain ⟨pb, po, hA, hpb, x0, x1, x2, x3, x4, x5⟩ := HC0.out.ports.at hsl
            dsimp only at hA x0 x1 x2 x3 x4 x5
            subst hA
            have hPs := HPO.out.2 sn hsl
            dsimp only at hPs
            obtain ⟨⟨spart, skind, sdir, ssize, sdepth, sfresh⟩, hsp⟩ : ∃ p, ports.getD sn default = p := ⟨_, rfl⟩
            rw [hsp] at x0 x1 x2 x3 x4 x5 hPs
            dsimp only at x0 x1 x2 x3 x4 x5 hPs
            have HSP := hide hsp
            have HPS := hide hPs.2
            have hpt := hPs.1
            simp only [ofB, Bool.and_eq_true, decide_eq_true_eq] at hpt
            obtain ⟨pn, hpn⟩ := Int.eq_ofNat_of_zero_le hpt.1
            subst hpn
            have hpl : pn < parts.length := by omega
            obtain ⟨qb, qo, hA, hqb, y0, y1, y2⟩ := HC0.out.parts.at hpl
            dsimp only at hA y0 y1 y2
            subst hA
            obtain ⟨⟨node, plo, phi⟩, hpp⟩ : ∃ p, parts.getD pn default = p := ⟨_, rfl⟩
            have hnd := (HPA.out.2.1 pn hpl).1
            dsimp only at hnd
            rw [hpp] at y0 y1 y2 hnd
            dsimp only at y0 y1 y2 hnd
            obtain ⟨nd, hnn⟩ := Int.eq_ofNat_of_zero_le hnd.1
            subst hnn
            have hndn : nd < n := by omega
            have HPP := hide hpp
            have HX0 := hide x0; have HX1 := hide x1; have HX2 := hide x2; have HX3 := hide x3; have HX4 := hide x4; have HX5 := hide x5
            have HY0 := hide y0; have HY1 := hide y1; have HY2 := hide y2
            have HO5 := hide o5
            clear hsp hPs hpt hpp hnd x0 x1 x2 x3 x4 x5 y0 y1 y2 o1' o5 o1 o2 o3
            go_upto_region 12 with (first
              | (go_at_call 49; refine HLK.out.mono ?_; rintro e w1 ⟨rfl, hb1⟩; have HT2 := hide (HT1.out.below hb1); have HL2 := hide (HL1.out.kept hb1); have HR2 := hide (HR1.out.below hb1); have hk2 := HK1.out.below hb1 (Nat.le_refl _); have HK2 := hide hk2; have HB2 := hide (HB1.out.trans (hb1.mono HB1.out.size)); have HW2 : Hid (w.heap.size + 3 ≤ w1.heap.size) := (by show _ ≤ _; have := HWR.out; have := hb1.size; omega); clear hb1; obtain ⟨hkl, k0, k1, k2⟩ := hk2)
              | (go_at_call 50; refine (stand_any ⟨(sn : Int), dests, offset⟩ Ai ci (w.heap.size + 1) w.heap.size ports.length L w1 (Nat.le_succ _) (fun W hW => HIN.out.of_below (HT2.out.bel.trans hW) (Nat.le_refl _)) HDL.out HL2.out HLL.out hp64 HSO.out HDO.out).mono ?_; rintro e w2 ⟨rfl, ho2, ht2⟩; have HB3 := hide (HB2.out.trans (ho2.below (Nat.le_succ _) HB2.out.size)); rw [HST.out]; have HO2 := hide ho2; have HTR := hide ht2; clear ho2 ht2; have hbl := HW2.out; have HT3 := hide (CfS.onl HG0.out HC0.out HT2.out HO2.out (by omega)); have HL3 := hide (HTR.out L2 HST.out); have HR3 := hide (HR2.out.onl HO2.out (by omega)); have HC3 : Hid (∀ (o : Nat) (v : Value), w1.cell? ⟨wr.heap.size, o, none⟩ = some v → w2.cell? ⟨wr.heap.size, o, none⟩ = some v) := (fun o v e => (World.cell?_of_block (w := w1) (HO2.out.block _ hkl (by have := HWR.out; show wr.heap.size ≠ w.heap.size + 1; omega))).trans e); have HW3 : Hid (w.heap.size + 3 ≤ w2.heap.size ∧ wr.heap.size < w2.heap.size) := ⟨Nat.le_trans hbl HO2.out.size, Nat.lt_of_lt_of_le hkl HO2.out.size⟩; replace k0 := HC3.out _ _ k0; replace k1 := HC3.out _ _ k1; replace k2 := HC3.out _ _ k2; replace hkl := HW3.out.2; clear hbl hb hl e0 e1 e2 e3 e4 e5 e6 e7 e8 e9 e10 e11; obtain ⟨hb, ⟨hl, e0, e1, e2, e3, e4, e5, e6, e7, e8, e9, e10, e11⟩, hg, hc⟩ := id HT3.out; clear hg hc; dsimp only at e0 e1 e2 e3 e4 e5 e6 e7 e8 e9 e10 e11; have x0 := cell_below hb (Nat.le_refl _) hpb HX0.out; have x1 := cell_below hb (Nat.le_refl _) hpb HX1.out; have x2 := cell_below hb (Nat.le_refl _) hpb HX2.out; have x3 := cell_below hb (Nat.le_refl _) hpb HX3.out; have x4 := cell_below hb (Nat.le_refl _) hpb HX4.out; have x5 := cell_below hb (Nat.le_refl _) hpb HX5.out; have y0 := cell_below ((Below.refl w2.heap.size w2).alloc (Nat.le_refl _) (.cells #[.int .i64 (pn : Int), .int .i64 skind, .int .i64 sdir, .int .i64 ssize, .int .i64 sdepth, .int .i64 sfresh] 49)) (Nat.le_refl _) (Nat.lt_of_lt_of_le hqb HB3.out.size) (cell_below hb (Nat.le_refl _) hqb HY0.out)))
            have hbx := (Below.refl w2.heap.size w2).alloc (Nat.le_refl _) (.cells #[.int .i64 (pn : Int), .int .i64 skind, .int .i64 sdir, .int .i64 ssize, .int .i64 sdepth, .int .i64 sfresh] 49)
            have HR9 := hide (HR3.out.below hbx)
            have HT9 := hide (HT3.out.below hbx)
            have HL9 := hide (HL3.out.kept hbx)
            have hk9 := cell_below hbx (Nat.le_refl _) hkl k2
            have hp9 : (w2.alloc (.cells #[.int .i64 (pn : Int), .int .i64 skind, .int .i64 sdir, .int .i64 ssize, .int .i64 sdepth, .int .i64 sfresh] 49)).heap[w2.heap.size]? = some (.cells #[.int .i64 (pn : Int), .int .i64 skind, .int .i64 sdir, .int .i64 ssize, .int .i64 sdepth, .int .i64 sfresh] 49 (0, 0)) := heap_alloc_new w2 _
            clear hbx hb hl e0 e1 e2 e3 e4 e5 e6 e7 e8 e9 e10 e11 x0 x1 x2 x3 x4 x5 y0 k0 k1 k2
            generalize w2.alloc (.cells #[.int .i64 (pn : Int), .int .i64 skind, .int .i64 sdir, .int .i64 ssize, .int .i64 sdepth, .int .i64 sfresh] 49) = W9 at HR9 HT9 HL9 hk9 hp9 ⊢
            refine wp_region_held_drew (S := fun w' => w'.cell? ⟨wr.heap.size, 2, none⟩ = some (.int .i64 offset) ∧ w'.cell? ⟨w2.heap.size, 0, none⟩ = some (.int .i64 (pn : Int)) ∧ w'.cell? ⟨w2.heap.size, 1, none⟩ = some (.int .i64 skind) ∧ w'.cell? ⟨w2.heap.size, 2, none⟩ = some (.int .i64 sdir) ∧ w'.cell? ⟨w2.heap.size, 3, none⟩ = some (.int .i64 ssize) ∧ w'.cell? ⟨w2.heap.size, 4, none⟩ = some (.int .i64 sdepth) ∧ w'.cell? ⟨w2.heap.size, 5, none⟩ = some (.int .i64 sfresh)) (by kernel_rfl) (?hS9) (fun hHeld => ?_)
            case hS9 => exact ⟨hk9, by rw [cell_of_row _ _ _ _ _ _ (show W9.drew.heap[w2.heap.size]? = _ from hp9)]; rfl, by rw [cell_of_row _ _ _ _ _ _ (show W9.drew.heap[w2.heap.size]? = _ from hp9)]; rfl, by rw [cell_of_row _ _ _ _ _ _ (show W9.drew.heap[w2.heap.size]? = _ from hp9)]; rfl, by rw [cell_of_row _ _ _ _ _ _ (show W9.drew.heap[w2.heap.size]? = _ from hp9)]; rfl, by rw [cell_of_row _ _ _ _ _ _ (show W9.drew.heap[w2.heap.size]? = _ from hp9)]; rfl, by rw [cell_of_row _ _ _ _ _ _ (show W9.drew.heap[w2.heap.size]? = _ from hp9)]; rfl⟩
            have HRD := hide (show RowsS W9.drew (w.heap.size + 3) (w.heap.size + 2) vs (regsOf n ((links.take k).map (ptOf ⟨(n : Int), owners, drift, reading, margin, bound, rejoin, quota, parts, windows, ports, links⟩))) from HR9.out.below (Below.refl _ _).drew)
            have HTD := hide (show CfS w W9.drew ⟨(n : Int), owners, drift, reading, margin, bound, rejoin, quota, parts, windows, ports, links⟩ ⟨oA, oC, some ⟨qb, qo, none⟩, pC, wA, wC, some ⟨pb, po, none⟩, qC, some ⟨lb, lof, none⟩, lC⟩ from HT9.out.below (Below.refl _ _).drew)
            have HLD := hide (show Truths W9.drew (w.heap.size + 1) L2 from HL9.out.kept (Below.refl _ _).drew)
            have hpd : W9.drew.heap[w2.heap.size]? = some (.cells #[.int .i64 (pn : Int), .int .i64 skind, .int .i64 sdir, .int .i64 ssize, .int .i64 sdepth, .int .i64 sfresh] 49 (0, 0)) := hp9
            have hkd : W9.drew.cell? ⟨wr.heap.size, 2, none⟩ = some (.int .i64 offset) := hk9
            clear hp9 hk9 HR9 HT9 HL9
            generalize W9.drew = WD at HRD HTD HLD hpd hkd hHeld ⊢
            obtain ⟨rc, rf⟩ := HRD.out.cell (i := nd) (by rw [regs_len]; exact hndn)
            refine wpAnyH_take (i := 0) (v := ?v900_0) rfl (by kernel_rfl) (by kernel_rfl) (by kernel_rfl) (fun _ _ _ h => h) (Or.inl ⟨by kernel_rfl, ?y900_0⟩) (by assumption) ?r900_0
            case y900_0 => (intro W hSW; (try dsimp only at hSW); go_simp; (try with_reducible rfl))
            change wpAnyH _ _ _ _ _ _ _ (Act.put _ (some 50) _) _
            (try simp only [Act.put, List.setIfInBounds_toArray, List.set_cons_zero, List.set_cons_succ])
            refine wpAnyH_take (i := 1) (v := ?v900_1) rfl (by kernel_rfl) (by kernel_rfl) (by kernel_rfl) (fun _ _ _ h => h) (Or.inl ⟨by kernel_rfl, ?y900_1⟩) (by assumption) ?r900_1
            case y900_1 => (intro W hSW; (try dsimp only at hSW); go_simp; (try with_reducible rfl))
            change wpAnyH _ _ _ _ _ _ _ (Act.put _ (some 51) _) _
            (try simp only [Act.put, List.setIfInBounds_toArray, List.set_cons_zero, List.set_cons_succ])
            refine wpAnyH_take (i := 2) (v := ?v900_2) rfl (by kernel_rfl) (by kernel_rfl) (by kernel_rfl) (fun _ _ _ h => h) (Or.inl ⟨by kernel_rfl, ?y900_2⟩) (by assumption) ?r900_2
            case y900_2 => (intro W hSW; (try dsimp only at hSW); go_simp; (try with_reducible rfl))
            change wpAnyH _ _ _ _ _ _ _ (Act.put _ (some 52) _) _
            (try simp only [Act.put, List.setIfInBounds_toArray, List.set_cons_zero, List.set_cons_succ])
            refine wpAnyH_take (i := 3) (v := ?v900_3) rfl (by kernel_rfl) (by kernel_rfl) (by kernel_rfl) (fun _ _ _ h => h) (Or.inl ⟨by kernel_rfl, ?y900_3⟩) (by assumption) ?r900_3
            case y900_3 => (intro W hSW; (try dsimp only at hSW); go_simp; (try with_reducible rfl))
            change wpAnyH _ _ _ _ _ _ _ (Act.put _ (some 53) _) _
            (try simp only [Act.put, List.setIfInBounds_toArray, List.set_cons_zero, List.set_cons_succ])
            refine wpAnyH_take (i := 4) (v := ?v900_4) rfl (by kernel_rfl) (by kernel_rfl) (by kernel_rfl) (fun _ _ _ h => h) (Or.inl ⟨by kernel_rfl, ?y900_4⟩) (by assumption) ?r900_4
            case y900_4 => (intro W hSW; (try dsimp only at hSW); go_simp; (try with_reducible rfl))
            change wpAnyH _ _ _ _ _ _ _ (Act.put _ (some 54) _) _
            (try simp only [Act.put, List.setIfInBounds_toArray, List.set_cons_zero, List.set_cons_succ])
            refine wpAnyH_take (i := 6) (v := ?v900_6) rfl (by kernel_rfl) (by kernel_rfl) (by kernel_rfl) (fun _ _ _ h => h) (Or.inl ⟨by kernel_rfl, ?y900_6⟩) (by assumption) ?r900_6
            case y900_6 => (intro W hSW; (try dsimp only at hSW); go_simp; (try with_reducible rfl))
            change wpAnyH _ _ _ _ _ _ _ (Act.put _ (some 56) _) _
            (try simp only [Act.put, List.setIfInBounds_toArray, List.set_cons_zero, List.set_cons_succ])
            refine wpAnyH_take (i := 7) (v := ?v900_7) rfl (by kernel_rfl) (by kernel_rfl) (by kernel_rfl) (fun _ _ _ h => h) (Or.inl ⟨by kernel_rfl, ?y900_7⟩) (by assumption) ?r900_7
            case y900_7 => (intro W hSW; (try dsimp only at hSW); go_simp; (try with_reducible rfl))
            change wpAnyH _ _ _ _ _ _ _ (Act.put _ (some 57) _) _
            (try simp only [Act.put, List.setIfInBounds_toArray, List.set_cons_zero, List.set_cons_succ])
            refine wpAnyH_take (i := 8) (v := ?v900_8) rfl (by kernel_rfl) (by kernel_rfl) (by kernel_rfl) (fun _ _ _ h => h) (Or.inl ⟨by kernel_rfl, ?y900_8⟩) (by assumption) ?r900_8
            case y900_8 => (intro W hSW; (try dsimp only at hSW); go_simp; (try with_reducible rfl))
            change wpAnyH _ _ _ _ _ _ _ (Act.put _ (some 58) _) _
            (try simp only [Act.put, List.setIfInBounds_toArray, List.set_cons_zero, List.set_cons_succ])
            refine wpAnyH_take (i := 9) (v := ?v900_9) rfl (by kernel_rfl) (by kernel_rfl) (by kernel_rfl) (fun _ _ _ h => h) (Or.inl ⟨by kernel_rfl, ?y900_9⟩) (by assumption) ?r900_9
            case y900_9 => (intro W hSW; (try dsimp only at hSW); go_simp; (try with_reducible rfl))
            change wpAnyH _ _ _ _ _ _ _ (Act.put _ (some 59) _) _
            (try simp only [Act.put, List.setIfInBounds_toArray, List.set_cons_zero, List.set_cons_succ])
            refine wpAnyH_take (i := 10) (v := ?v900_10) rfl (by kernel_rfl) (by kernel_rfl) (by kernel_rfl) (fun _ _ _ h => h) (Or.inl ⟨by kernel_rfl, ?y900_10⟩) (by assumption) ?r900_10
            case y900_10 => (intro W hSW; (try dsimp only at hSW); go_simp; (try with_reducible rfl))
            change wpAnyH _ _ _ _ _ _ _ (Act.put _ (some 60) _) _
            (try simp only [Act.put, List.setIfInBounds_toArray, List.set_cons_zero, List.set_cons_succ])
            have HRG : Hid ((regsOf n ((links.take k).map (ptOf ⟨(n : Int), owners, drift, reading, margin, bound, rejoin, quota, parts, windows, ports, links⟩))).set nd ((regsOf n ((links.take k).map (ptOf ⟨(n : Int), owners, drift, reading, margin, bound, rejoin, quota, parts, windows, ports, links⟩))).getD nd [] ++ [⟨offset, offset + (1 + ssize)⟩]) = regsOf n ((links.take (k + 1)).map (ptOf ⟨(n : Int), owners, drift, reading, margin, bound, rejoin, quota, parts, windows, ports, links⟩))) := by
              show _ = _
              have e : ptOf ⟨(n : Int), owners, drift, reading, margin, bound, rejoin, quota, parts, windows, ports, links⟩ ⟨(sn : Int), dests, offset⟩ = ⟨(nd : Int), offset, offset + (1 + ssize)⟩ := by
                unfold ptOf
                dsimp only [Int.toNat_natCast]
                rw [HSP.out]
                dsimp only [Int.toNat_natCast]
                rw [HPP.out]
              rw [take_snocL links k hlt, HP.out, List.map_append, List.map_singleton, e, regs_snoc n _ ⟨(nd : Int), offset, offset + (1 + ssize)⟩ nd hndn rfl]
              rfl
            have HHX : Hid (standF (List.replicate ports.length false) (namesOf (links.take (k + 1))) = some L2 ∧ ∀ j, j < k + 1 → LinkOk ⟨(n : Int), owners, drift, reading, margin, bound, rejoin, quota, parts, windows, ports, links⟩ (links.getD j default)) := by
              refine ⟨?_, fun j hj => ?_⟩
              · rw [take_snocL links k hlt, HP.out, namesOf_snoc, standF_append, H.out.1]
                exact HST.out
              · rcases Nat.lt_succ_iff_lt_or_eq.1 hj with h5 | rfl
                · exact H.out.2 j h5
                · rw [HP.out]; exact of_decide_eq_true HQ.out
            have HLN : Hid (((regsOf n ((links.take k).map (ptOf ⟨(n : Int), owners, drift, reading, margin, bound, rejoin, quota, parts, windows, ports, links⟩))).getD nd []).length ≤ 100000) := by
              rw [regs_at _ _ _ hndn]
              show _ ≤ _
              rw [List.length_map]
              refine Nat.le_trans (List.length_filter_le _ _) ?_
              rw [List.length_map, List.length_take]
              omega
            have HOB : Hid (∀ g, (vs.getD nd undef).ownBlock = some g → w.heap.size + 2 < g) := fun g e => ((HRD.out.own nd (by rw [regs_len]; exact hndn)).blk e).1
            have hss := portB_size HPS.out
            dsimp only at hss
            have hof := HO5.out
            simp only [inB, Bool.and_eq_true, decide_eq_true_eq, Int.toNat_natCast] at hof
            rw [HSP.out] at hof
            obtain ⟨of1, of2⟩ := hof
            dsimp only at of2
            have hss1 := hss.1
            have hss2 := hss.2
            have hwp : IntKind.i64.wrap (offset + (1 + ssize)) = offset + (1 + ssize) := IntWalk.i64_in _ (by omega)
            refine wpAnyH_ready (rs := [5, 11]) (by kernel_rfl) (by simp) ?_
            refine AllReadyH.cons rfl (fun K hK => ?_) (AllReadyH.cons rfl (fun K hK => ?_) AllReadyH.nil)
            · rw [if_pos (by rfl)]
              go_simp
              refine hK.out _ _ (hHeld) (fun hHeld => ?_)
              clear hK K
              (try simp only [Act.put, List.setIfInBounds_toArray, List.set_cons_zero, List.set_cons_succ])
              refine wpAnyH_ready (rs := [11]) (by kernel_rfl) (by simp) ?_
              refine AllReadyH.cons rfl (fun K hK => ?_) AllReadyH.nil
              rw [if_pos (by rfl)]
              go_simp
              refine (taken_any ⟨(pn : Int), skind, sdir, ssize, sdepth, sfresh⟩ WD hss.1 hss.2).mono ?_
              rintro e w3 ⟨rfl, hb3⟩
              have hltp : w2.heap.size < WD.heap.size := (Array.getElem?_eq_some_iff.1 hpd).1
              have hltk : wr.heap.size < WD.heap.size := Nat.lt_trans HW3.out.2 hltp
              refine hK.out _ _ (⟨cell_below hb3 (Nat.le_refl _) hltk hHeld.1, cell_below hb3 (Nat.le_refl _) hltp hHeld.2.1, cell_below hb3 (Nat.le_refl _) hltp hHeld.2.2.1, cell_below hb3 (Nat.le_refl _) hltp hHeld.2.2.2.1, cell_below hb3 (Nat.le_refl _) hltp hHeld.2.2.2.2.1, cell_below hb3 (Nat.le_refl _) hltp hHeld.2.2.2.2.2.1, cell_below hb3 (Nat.le_refl _) hltp hHeld.2.2.2.2.2.2⟩) (fun hHeld => ?_)
              clear hK K
              (try simp only [Act.put, List.setIfInBounds_toArray, List.set_cons_zero, List.set_cons_succ])
              have HRC := hide (HRD.out.below hb3)
              have HTC := hide (HTD.out.below hb3)
              have HLC := hide (HLD.out.kept hb3)
              have hltp3 := Nat.lt_of_lt_of_le hltp hb3.size
              have hltk3 := Nat.lt_of_lt_of_le hltk hb3.size
              clear hb3
              obtain ⟨rc3, rf3⟩ := HRC.out.cell (i := nd) (by rw [regs_len]; exact hndn)
              have ha := bal w3 (.cells #[.int .i64 offset, .int .i64 (offset + (1 + ssize))] 78)
              have HRA := hide (HRC.out.below ha)
              have HTA := hide (HTC.out.below ha)
              have HLA := hide (HLC.out.kept ha)
              obtain ⟨rc13, rf13⟩ := HRA.out.cell (i := nd) (by rw [regs_len]; exact hndn)
              have HBS : Hid (w.heap.size + 3 ≤ (w3.alloc (.cells #[.int .i64 offset, .int .i64 (offset + (1 + ssize))] 78)).heap.size ∧ wr.heap.size < (w3.alloc (.cells #[.int .i64 offset, .int .i64 (offset + (1 + ssize))] 78)).heap.size ∧ w2.heap.size < (w3.alloc (.cells #[.int .i64 offset, .int .i64 (offset + (1 + ssize))] 78)).heap.size) := by
                have h2 := alloc_lt w3 (.cells #[.int .i64 offset, .int .i64 (offset + (1 + ssize))] 78)
                have h3 := HWR.out
                exact ⟨by omega, by omega, by omega⟩
              refine wpAnyH_take (i := 12) (v := ?v910_12) rfl (by kernel_rfl) (by kernel_rfl) (by kernel_rfl) (fun _ _ _ h => h) (Or.inl ⟨by kernel_rfl, ?y910_12⟩) (by assumption) ?r910_12
              case y910_12 => (intro W hSW; (try dsimp only at hSW); go_simp; (try with_reducible rfl))
              change wpAnyH _ _ _ _ _ _ _ (Act.put _ (some 62) _) _
              (try simp only [Act.put, List.setIfInBounds_toArray, List.set_cons_zero, List.set_cons_succ])
              refine wpAnyH_take (i := 13) (v := ?v911_13) rfl (by kernel_rfl) (by kernel_rfl) (by kernel_rfl) (fun _ _ _ h => h) (Or.inl ⟨by kernel_rfl, ?y911_13⟩) (by assumption) ?r911_13
              case y911_13 => (intro W hSW; (try dsimp only at hSW); go_simp; (try with_reducible rfl))
              change wpAnyH _ _ _ _ _ _ _ (Act.put _ (some 63) _) _
              (try simp only [Act.put, List.setIfInBounds_toArray, List.set_cons_zero, List.set_cons_succ])
              (try simp only [hwp])
              refine wpAnyH_ready (rs := [14]) (by kernel_rfl) (by simp) ?_
              refine AllReadyH.cons rfl (fun K hK => ?_) AllReadyH.nil
              rw [if_pos (by rfl)]
              go_simp
              refine hK.out _ _ (⟨cell_below ha (Nat.le_refl _) hltk3 hHeld.1, cell_below ha (Nat.le_refl _) hltp3 hHeld.2.1, cell_below ha (Nat.le_refl _) hltp3 hHeld.2.2.1, cell_below ha (Nat.le_refl _) hltp3 hHeld.2.2.2.1, cell_below ha (Nat.le_refl _) hltp3 hHeld.2.2.2.2.1, cell_below ha (Nat.le_refl _) hltp3 hHeld.2.2.2.2.2.1, cell_below ha (Nat.le_refl _) hltp3 hHeld.2.2.2.2.2.2⟩) (fun hHeld => ?_)
              clear hK K
              (try simp only [Act.put, List.setIfInBounds_toArray, List.set_cons_zero, List.set_cons_succ])
              refine wpAnyH_ready (rs := [15]) (by kernel_rfl) (by simp) ?_
              refine AllReadyH.cons rfl (fun K hK => ?_) AllReadyH.nil
              rw [if_pos (by rfl)]
              refine wp_app_span (.tmp 55) (.tmp 64) rfl (w.heap.size + 3) (vs.getD nd undef) _ _ rfl (HRA.out.own nd (by rw [regs_len]; exact hndn)) w3.heap.size 1 (.int .i64 offset) (.int .i64 (offset + (1 + ssize))) rfl (heap_alloc_new w3 _) rfl rfl (HLN.out) (HBS.out.1) ?_
              intro h' w14 o14 g14 p14
              have kk : ∀ (b o : Nat) (v : Value), wr.heap.size ≤ b → b < (w3.alloc (.cells #[.int .i64 offset, .int .i64 (offset + (1 + ssize))] 78)).heap.size → (w3.alloc (.cells #[.int .i64 offset, .int .i64 (offset + (1 + ssize))] 78)).cell? ⟨b, o, none⟩ = some v → w14.cell? ⟨b, o, none⟩ = some v := fun b o v h1 h2 e => (World.cell?_of_block (w := w3.alloc (.cells #[.int .i64 offset, .int .i64 (offset + (1 + ssize))] 78)) (g14.block b h2 (fun e' => by have := HOW.out nd hndn b e'.symm; omega))).trans e
              have hr14 := (g14.block (w.heap.size + 2) (Array.getElem?_eq_some_iff.1 HRA.out.blk).1 (fun e' => by have := HOB.out _ e'.symm; omega)).trans HRA.out.blk
              obtain ⟨hA, hL, hC, rfl⟩ : ∃ A l c, h' = Value.slice A l c := by
                rcases o14.2 with ⟨rfl, _⟩ | ⟨g, cap, cur, rfl, _⟩ <;> exact ⟨_, _, _, rfl⟩
              have HO14 := hide o14; have HG14 := hide g14; have HPL14 := hide p14
              clear o14 g14 p14
              refine hK.out _ _ (⟨kk _ _ _ (Nat.le_refl _) HBS.out.2.1 hHeld.1, kk _ _ _ (Nat.le_of_lt HW3.out.2) HBS.out.2.2 hHeld.2.1, kk _ _ _ (Nat.le_of_lt HW3.out.2) HBS.out.2.2 hHeld.2.2.1, kk _ _ _ (Nat.le_of_lt HW3.out.2) HBS.out.2.2 hHeld.2.2.2.1, kk _ _ _ (Nat.le_of_lt HW3.out.2) HBS.out.2.2 hHeld.2.2.2.2.1, kk _ _ _ (Nat.le_of_lt HW3.out.2) HBS.out.2.2 hHeld.2.2.2.2.2.1, kk _ _ _ (Nat.le_of_lt HW3.out.2) HBS.out.2.2 hHeld.2.2.2.2.2.2⟩) (fun hHeld => ?_)
              clear hK K kk
              (try simp only [Act.put, List.setIfInBounds_toArray, List.set_cons_zero, List.set_cons_succ])
              refine wpAnyH_take (i := 16) (v := ?v912_16) rfl (by kernel_rfl) (by kernel_rfl) (by kernel_rfl) (fun _ _ _ h => h) (Or.inl ⟨by kernel_rfl, ?y912_16⟩) (by assumption) ?r912_16
              case y912_16 => (intro W hSW; (try dsimp only at hSW); go_simp; (try with_reducible rfl))
              change wpAnyH _ _ _ _ _ _ _ (Act.put _ (some 66) _) _
              (try simp only [Act.put, List.setIfInBounds_toArray, List.set_cons_zero, List.set_cons_succ])
              have s0 : w14.cell? ⟨w.heap.size + 2, nd, none⟩ = some (vs.getD nd undef) := by rw [cell_of_row _ _ _ _ _ _ hr14, ← cell_of_row _ _ _ _ _ _ HRA.out.blk]; exact rc13
              have s1 : w14.frozen? ⟨w.heap.size + 2, nd, none⟩ = false := by simp [World.frozen?, hr14]
              refine wpAnyH_ready (rs := [17]) (by kernel_rfl) (by simp) ?_
              refine AllReadyH.cons rfl (fun K hK => ?_) AllReadyH.nil
              rw [if_pos (by rfl)]
              go_simp
              have kk : ∀ (b o : Nat) (v : Value), wr.heap.size ≤ b → w14.cell? ⟨b, o, none⟩ = some v → (w14.setCell ⟨w.heap.size + 2, nd, none⟩ (.slice hA hL hC)).cell? ⟨b, o, none⟩ = some v := fun b o v h1 e => (World.cell?_of_block (w := w14) (Below.heap_setCell w14 _ _ b (by have := HWR.out; show b ≠ w.heap.size + 2; omega))).trans e
              refine hK.out _ _ (⟨kk _ _ _ (Nat.le_refl _) hHeld.1, kk _ _ _ (Nat.le_of_lt HW3.out.2) hHeld.2.1, kk _ _ _ (Nat.le_of_lt HW3.out.2) hHeld.2.2.1, kk _ _ _ (Nat.le_of_lt HW3.out.2) hHeld.2.2.2.1, kk _ _ _ (Nat.le_of_lt HW3.out.2) hHeld.2.2.2.2.1, kk _ _ _ (Nat.le_of_lt HW3.out.2) hHeld.2.2.2.2.2.1, kk _ _ _ (Nat.le_of_lt HW3.out.2) hHeld.2.2.2.2.2.2⟩) (fun hHeld => ?_)
              clear hK K kk
              (try simp only [Act.put, List.setIfInBounds_toArray, List.set_cons_zero, List.set_cons_succ])
              refine wpAnyH_done (by kernel_rfl) ?_ _
              have hrx := RowsS.app HRA.out (by rw [regs_len]; exact hndn) offset (offset + (1 + ssize)) HO14.out HG14.out HPL14.out
              rw [HRG.out] at hrx
              have HRX := hide hrx
              obtain ⟨htx, hlx⟩ := CfS.wrote2 HG0.out HC0.out HTA.out HG14.out HOB.out (Nat.le_of_succ_le HBS.out.1) nd (.slice hA hL hC) HLA.out
              have HTX := hide htx; have HLX := hide hlx
              clear hrx htx hlx
              generalize w14.setCell ⟨w.heap.size + 2, nd, none⟩ (.slice hA hL hC) = WX at HRX HTX HLX ⊢
              clear hHeld s0 s1 hr14 HO14 HG14 HPL14 HLN HRD HTD HRC HTC HRA HTA HBS ha hpd hkd rc rf rc3 rf3 rc13 rf13
              go_wp2_with fail
              go_roundw
              case rel => exact ⟨k + 1, _, _, by omega, by go_num, HTX.out, HLX.out, HRX.out, HHX.out⟩
              case measure => simp [intOf]; omega
            · rw [if_pos (by rfl)]
              go_simp
              refine (taken_any ⟨(pn : Int), skind, sdir, ssize, sdepth, sfresh⟩ WD hss.1 hss.2).mono ?_
              rintro e w3 ⟨rfl, hb3⟩
              have hltp : w2.heap.size < WD.heap.size := (Array.getElem?_eq_some_iff.1 hpd).1
              have hltk : wr.heap.size < WD.heap.size := Nat.lt_trans HW3.out.2 hltp
              refine hK.out _ _ (⟨cell_below hb3 (Nat.le_refl _) hltk hHeld.1, cell_below hb3 (Nat.le_refl _) hltp hHeld.2.1, cell_below hb3 (Nat.le_refl _) hltp hHeld.2.2.1, cell_below hb3 (Nat.le_refl _) hltp hHeld.2.2.2.1, cell_below hb3 (Nat.le_refl _) hltp hHeld.2.2.2.2.1, cell_below hb3 (Nat.le_refl _) hltp hHeld.2.2.2.2.2.1, cell_below hb3 (Nat.le_refl _) hltp hHeld.2.2.2.2.2.2⟩) (fun hHeld => ?_)
              clear hK K
              (try simp only [Act.put, List.setIfInBounds_toArray, List.set_cons_zero, List.set_cons_succ])
              have HRC := hide (HRD.out.below hb3)
              have HTC := hide (HTD.out.below hb3)
              have HLC := hide (HLD.out.kept hb3)
              have hltp3 := Nat.lt_of_lt_of_le hltp hb3.size
              have hltk3 := Nat.lt_of_lt_of_le hltk hb3.size
              clear hb3
              obtain ⟨rc3, rf3⟩ := HRC.out.cell (i := nd) (by rw [regs_len]; exact hndn)
              have ha := bal w3 (.cells #[.int .i64 offset, .int .i64 (offset + (1 + ssize))] 78)
              have HRA := hide (HRC.out.below ha)
              have HTA := hide (HTC.out.below ha)
              have HLA := hide (HLC.out.kept ha)
              obtain ⟨rc13, rf13⟩ := HRA.out.cell (i := nd) (by rw [regs_len]; exact hndn)
              have HBS : Hid (w.heap.size + 3 ≤ (w3.alloc (.cells #[.int .i64 offset, .int .i64 (offset + (1 + ssize))] 78)).heap.size ∧ wr.heap.size < (w3.alloc (.cells #[.int .i64 offset, .int .i64 (offset + (1 + ssize))] 78)).heap.size ∧ w2.heap.size < (w3.alloc (.cells #[.int .i64 offset, .int .i64 (offset + (1 + ssize))] 78)).heap.size) := by
                have h2 := alloc_lt w3 (.cells #[.int .i64 offset, .int .i64 (offset + (1 + ssize))] 78)
                have h3 := HWR.out
                exact ⟨by omega, by omega, by omega⟩
              refine wpAnyH_take (i := 12) (v := ?v913_12) rfl (by kernel_rfl) (by kernel_rfl) (by kernel_rfl) (fun _ _ _ h => h) (Or.inl ⟨by kernel_rfl, ?y913_12⟩) (by assumption) ?r913_12
              case y913_12 => (intro W hSW; (try dsimp only at hSW); go_simp; (try with_reducible rfl))
              change wpAnyH _ _ _ _ _ _ _ (Act.put _ (some 62) _) _
              (try simp only [Act.put, List.setIfInBounds_toArray, List.set_cons_zero, List.set_cons_succ])
              refine wpAnyH_take (i := 13) (v := ?v914_13) rfl (by kernel_rfl) (by kernel_rfl) (by kernel_rfl) (fun _ _ _ h => h) (Or.inl ⟨by kernel_rfl, ?y914_13⟩) (by assumption) ?r914_13
              case y914_13 => (intro W hSW; (try dsimp only at hSW); go_simp; (try with_reducible rfl))
              change wpAnyH _ _ _ _ _ _ _ (Act.put _ (some 63) _) _
              (try simp only [Act.put, List.setIfInBounds_toArray, List.set_cons_zero, List.set_cons_succ])
              (try simp only [hwp])
              refine wpAnyH_ready (rs := [5, 14]) (by kernel_rfl) (by simp) ?_
              refine AllReadyH.cons rfl (fun K hK => ?_) (AllReadyH.cons rfl (fun K hK => ?_) AllReadyH.nil)
              · rw [if_pos (by rfl)]
                go_simp
                refine hK.out _ _ (hHeld) (fun hHeld => ?_)
                clear hK K
                (try simp only [Act.put, List.setIfInBounds_toArray, List.set_cons_zero, List.set_cons_succ])
                refine wpAnyH_ready (rs := [14]) (by kernel_rfl) (by simp) ?_
                refine AllReadyH.cons rfl (fun K hK => ?_) AllReadyH.nil
                rw [if_pos (by rfl)]
                go_simp
                refine hK.out _ _ (⟨cell_below ha (Nat.le_refl _) hltk3 hHeld.1, cell_below ha (Nat.le_refl _) hltp3 hHeld.2.1, cell_below ha (Nat.le_refl _) hltp3 hHeld.2.2.1, cell_below ha (Nat.le_refl _) hltp3 hHeld.2.2.2.1, cell_below ha (Nat.le_refl _) hltp3 hHeld.2.2.2.2.1, cell_below ha (Nat.le_refl _) hltp3 hHeld.2.2.2.2.2.1, cell_below ha (Nat.le_refl _) hltp3 hHeld.2.2.2.2.2.2⟩) (fun hHeld => ?_)
                clear hK K
                (try simp only [Act.put, List.setIfInBounds_toArray, List.set_cons_zero, List.set_cons_succ])
                refine wpAnyH_ready (rs := [15]) (by kernel_rfl) (by simp) ?_
                refine AllReadyH.cons rfl (fun K hK => ?_) AllReadyH.nil
                rw [if_pos (by rfl)]
                refine wp_app_span (.tmp 55) (.tmp 64) rfl (w.heap.size + 3) (vs.getD nd undef) _ _ rfl (HRA.out.own nd (by rw [regs_len]; exact hndn)) w3.heap.size 1 (.int .i64 offset) (.int .i64 (offset + (1 + ssize))) rfl (heap_alloc_new w3 _) rfl rfl (HLN.out) (HBS.out.1) ?_
                intro h' w14 o14 g14 p14
                have kk : ∀ (b o : Nat) (v : Value), wr.heap.size ≤ b → b < (w3.alloc (.cells #[.int .i64 offset, .int .i64 (offset + (1 + ssize))] 78)).heap.size → (w3.alloc (.cells #[.int .i64 offset, .int .i64 (offset + (1 + ssize))] 78)).cell? ⟨b, o, none⟩ = some v → w14.cell? ⟨b, o, none⟩ = some v := fun b o v h1 h2 e => (World.cell?_of_block (w := w3.alloc (.cells #[.int .i64 offset, .int .i64 (offset + (1 + ssize))] 78)) (g14.block b h2 (fun e' => by have := HOW.out nd hndn b e'.symm; omega))).trans e
                have hr14 := (g14.block (w.heap.size + 2) (Array.getElem?_eq_some_iff.1 HRA.out.blk).1 (fun e' => by have := HOB.out _ e'.symm; omega)).trans HRA.out.blk
                obtain ⟨hA, hL, hC, rfl⟩ : ∃ A l c, h' = Value.slice A l c := by
                  rcases o14.2 with ⟨rfl, _⟩ | ⟨g, cap, cur, rfl, _⟩ <;> exact ⟨_, _, _, rfl⟩
                have HO14 := hide o14; have HG14 := hide g14; have HPL14 := hide p14
                clear o14 g14 p14
                refine hK.out _ _ (⟨kk _ _ _ (Nat.le_refl _) HBS.out.2.1 hHeld.1, kk _ _ _ (Nat.le_of_lt HW3.out.2) HBS.out.2.2 hHeld.2.1, kk _ _ _ (Nat.le_of_lt HW3.out.2) HBS.out.2.2 hHeld.2.2.1, kk _ _ _ (Nat.le_of_lt HW3.out.2) HBS.out.2.2 hHeld.2.2.2.1, kk _ _ _ (Nat.le_of_lt HW3.out.2) HBS.out.2.2 hHeld.2.2.2.2.1, kk _ _ _ (Nat.le_of_lt HW3.out.2) HBS.out.2.2 hHeld.2.2.2.2.2.1, kk _ _ _ (Nat.le_of_lt HW3.out.2) HBS.out.2.2 hHeld.2.2.2.2.2.2⟩) (fun hHeld => ?_)
                clear hK K kk
                (try simp only [Act.put, List.setIfInBounds_toArray, List.set_cons_zero, List.set_cons_succ])
                refine wpAnyH_take (i := 16) (v := ?v915_16) rfl (by kernel_rfl) (by kernel_rfl) (by kernel_rfl) (fun _ _ _ h => h) (Or.inl ⟨by kernel_rfl, ?y915_16⟩) (by assumption) ?r915_16
                case y915_16 => (intro W hSW; (try dsimp only at hSW); go_simp; (try with_reducible rfl))
                change wpAnyH _ _ _ _ _ _ _ (Act.put _ (some 66) _) _
                (try simp only [Act.put, List.setIfInBounds_toArray, List.set_cons_zero, List.set_cons_succ])
                have s0 : w14.cell? ⟨w.heap.size + 2, nd, none⟩ = some (vs.getD nd undef) := by rw [cell_of_row _ _ _ _ _ _ hr14, ← cell_of_row _ _ _ _ _ _ HRA.out.blk]; exact rc13
                have s1 : w14.frozen? ⟨w.heap.size + 2, nd, none⟩ = false := by simp [World.frozen?, hr14]
                refine wpAnyH_ready (rs := [17]) (by kernel_rfl) (by simp) ?_
                refine AllReadyH.cons rfl (fun K hK => ?_) AllReadyH.nil
                rw [if_pos (by rfl)]
                go_simp
                have kk : ∀ (b o : Nat) (v : Value), wr.heap.size ≤ b → w14.cell? ⟨b, o, none⟩ = some v → (w14.setCell ⟨w.heap.size + 2, nd, none⟩ (.slice hA hL hC)).cell? ⟨b, o, none⟩ = some v := fun b o v h1 e => (World.cell?_of_block (w := w14) (Below.heap_setCell w14 _ _ b (by have := HWR.out; show b ≠ w.heap.size + 2; omega))).trans e
                refine hK.out _ _ (⟨kk _ _ _ (Nat.le_refl _) hHeld.1, kk _ _ _ (Nat.le_of_lt HW3.out.2) hHeld.2.1, kk _ _ _ (Nat.le_of_lt HW3.out.2) hHeld.2.2.1, kk _ _ _ (Nat.le_of_lt HW3.out.2) hHeld.2.2.2.1, kk _ _ _ (Nat.le_of_lt HW3.out.2) hHeld.2.2.2.2.1, kk _ _ _ (Nat.le_of_lt HW3.out.2) hHeld.2.2.2.2.2.1, kk _ _ _ (Nat.le_of_lt HW3.out.2) hHeld.2.2.2.2.2.2⟩) (fun hHeld => ?_)
                clear hK K kk
                (try simp only [Act.put, List.setIfInBounds_toArray, List.set_cons_zero, List.set_cons_succ])
                refine wpAnyH_done (by kernel_rfl) ?_ _
                have hrx := RowsS.app HRA.out (by rw [regs_len]; exact hndn) offset (offset + (1 + ssize)) HO14.out HG14.out HPL14.out
                rw [HRG.out] at hrx
                have HRX := hide hrx
                obtain ⟨htx, hlx⟩ := CfS.wrote2 HG0.out HC0.out HTA.out HG14.out HOB.out (Nat.le_of_succ_le HBS.out.1) nd (.slice hA hL hC) HLA.out
                have HTX := hide htx; have HLX := hide hlx
                clear hrx htx hlx
                generalize w14.setCell ⟨w.heap.size + 2, nd, none⟩ (.slice hA hL hC) = WX at HRX HTX HLX ⊢
                clear hHeld s0 s1 hr14 HO14 HG14 HPL14 HLN HRD HTD HRC HTC HRA HTA HBS ha hpd hkd rc rf rc3 rf3 rc13 rf13
                go_wp2_with fail
                go_roundw
                case rel => exact ⟨k + 1, _, _, by omega, by go_num, HTX.out, HLX.out, HRX.out, HHX.out⟩
                case measure => simp [intOf]; omega
              · rw [if_pos (by rfl)]
                go_simp
                refine hK.out _ _ (⟨cell_below ha (Nat.le_refl _) hltk3 hHeld.1, cell_below ha (Nat.le_refl _) hltp3 hHeld.2.1, cell_below ha (Nat.le_refl _) hltp3 hHeld.2.2.1, cell_below ha (Nat.le_refl _) hltp3 hHeld.2.2.2.1, cell_below ha (Nat.le_refl _) hltp3 hHeld.2.2.2.2.1, cell_below ha (Nat.le_refl _) hltp3 hHeld.2.2.2.2.2.1, cell_below ha (Nat.le_refl _) hltp3 hHeld.2.2.2.2.2.2⟩) (fun hHeld => ?_)
                clear hK K
                (try simp only [Act.put, List.setIfInBounds_toArray, List.set_cons_zero, List.set_cons_succ])
                refine wpAnyH_ready (rs := [5]) (by kernel_rfl) (by simp) ?_
                refine AllReadyH.cons rfl (fun K hK => ?_) AllReadyH.nil
                rw [if_pos (by rfl)]
                go_simp
                refine hK.out _ _ (hHeld) (fun hHeld => ?_)
                clear hK K
                (try simp only [Act.put, List.setIfInBounds_toArray, List.set_cons_zero, List.set_cons_succ])
                refine wpAnyH_ready (rs := [15]) (by kernel_rfl) (by simp) ?_
                refine AllReadyH.cons rfl (fun K hK => ?_) AllReadyH.nil
                rw [if_pos (by rfl)]
                refine wp_app_span (.tmp 55) (.tmp 64) rfl (w.heap.size + 3) (vs.getD nd undef) _ _ rfl (HRA.out.own nd (by rw [regs_len]; exact hndn)) w3.heap.size 1 (.int .i64 offset) (.int .i64 (offset + (1 + ssize))) rfl (heap_alloc_new w3 _) rfl rfl (HLN.out) (HBS.out.1) ?_
                intro h' w14 o14 g14 p14
                have kk : ∀ (b o : Nat) (v : Value), wr.heap.size ≤ b → b < (w3.alloc (.cells #[.int .i64 offset, .int .i64 (offset + (1 + ssize))] 78)).heap.size → (w3.alloc (.cells #[.int .i64 offset, .int .i64 (offset + (1 + ssize))] 78)).cell? ⟨b, o, none⟩ = some v → w14.cell? ⟨b, o, none⟩ = some v := fun b o v h1 h2 e => (World.cell?_of_block (w := w3.alloc (.cells #[.int .i64 offset, .int .i64 (offset + (1 + ssize))] 78)) (g14.block b h2 (fun e' => by have := HOW.out nd hndn b e'.symm; omega))).trans e
                have hr14 := (g14.block (w.heap.size + 2) (Array.getElem?_eq_some_iff.1 HRA.out.blk).1 (fun e' => by have := HOB.out _ e'.symm; omega)).trans HRA.out.blk
                obtain ⟨hA, hL, hC, rfl⟩ : ∃ A l c, h' = Value.slice A l c := by
                  rcases o14.2 with ⟨rfl, _⟩ | ⟨g, cap, cur, rfl, _⟩ <;> exact ⟨_, _, _, rfl⟩
                have HO14 := hide o14; have HG14 := hide g14; have HPL14 := hide p14
                clear o14 g14 p14
                refine hK.out _ _ (⟨kk _ _ _ (Nat.le_refl _) HBS.out.2.1 hHeld.1, kk _ _ _ (Nat.le_of_lt HW3.out.2) HBS.out.2.2 hHeld.2.1, kk _ _ _ (Nat.le_of_lt HW3.out.2) HBS.out.2.2 hHeld.2.2.1, kk _ _ _ (Nat.le_of_lt HW3.out.2) HBS.out.2.2 hHeld.2.2.2.1, kk _ _ _ (Nat.le_of_lt HW3.out.2) HBS.out.2.2 hHeld.2.2.2.2.1, kk _ _ _ (Nat.le_of_lt HW3.out.2) HBS.out.2.2 hHeld.2.2.2.2.2.1, kk _ _ _ (Nat.le_of_lt HW3.out.2) HBS.out.2.2 hHeld.2.2.2.2.2.2⟩) (fun hHeld => ?_)
                clear hK K kk
                (try simp only [Act.put, List.setIfInBounds_toArray, List.set_cons_zero, List.set_cons_succ])
                refine wpAnyH_take (i := 16) (v := ?v916_16) rfl (by kernel_rfl) (by kernel_rfl) (by kernel_rfl) (fun _ _ _ h => h) (Or.inl ⟨by kernel_rfl, ?y916_16⟩) (by assumption) ?r916_16
                case y916_16 => (intro W hSW; (try dsimp only at hSW); go_simp; (try with_reducible rfl))
                change wpAnyH _ _ _ _ _ _ _ (Act.put _ (some 66) _) _
                (try simp only [Act.put, List.setIfInBounds_toArray, List.set_cons_zero, List.set_cons_succ])
                have s0 : w14.cell? ⟨w.heap.size + 2, nd, none⟩ = some (vs.getD nd undef) := by rw [cell_of_row _ _ _ _ _ _ hr14, ← cell_of_row _ _ _ _ _ _ HRA.out.blk]; exact rc13
                have s1 : w14.frozen? ⟨w.heap.size + 2, nd, none⟩ = false := by simp [World.frozen?, hr14]
                refine wpAnyH_ready (rs := [17]) (by kernel_rfl) (by simp) ?_
                refine AllReadyH.cons rfl (fun K hK => ?_) AllReadyH.nil
                rw [if_pos (by rfl)]
                go_simp
                have kk : ∀ (b o : Nat) (v : Value), wr.heap.size ≤ b → w14.cell? ⟨b, o, none⟩ = some v → (w14.setCell ⟨w.heap.size + 2, nd, none⟩ (.slice hA hL hC)).cell? ⟨b, o, none⟩ = some v := fun b o v h1 e => (World.cell?_of_block (w := w14) (Below.heap_setCell w14 _ _ b (by have := HWR.out; show b ≠ w.heap.size + 2; omega))).trans e
                refine hK.out _ _ (⟨kk _ _ _ (Nat.le_refl _) hHeld.1, kk _ _ _ (Nat.le_of_lt HW3.out.2) hHeld.2.1, kk _ _ _ (Nat.le_of_lt HW3.out.2) hHeld.2.2.1, kk _ _ _ (Nat.le_of_lt HW3.out.2) hHeld.2.2.2.1, kk _ _ _ (Nat.le_of_lt HW3.out.2) hHeld.2.2.2.2.1, kk _ _ _ (Nat.le_of_lt HW3.out.2) hHeld.2.2.2.2.2.1, kk _ _ _ (Nat.le_of_lt HW3.out.2) hHeld.2.2.2.2.2.2⟩) (fun hHeld => ?_)
                clear hK K kk
                (try simp only [Act.put, List.setIfInBounds_toArray, List.set_cons_zero, List.set_cons_succ])
                refine wpAnyH_done (by kernel_rfl) ?_ _
                have hrx := RowsS.app HRA.out (by rw [regs_len]; exact hndn) offset (offset + (1 + ssize)) HO14.out HG14.out HPL14.out
                rw [HRG.out] at hrx
                have HRX := hide hrx
                obtain ⟨htx, hlx⟩ := CfS.wrote2 HG0.out HC0.out HTA.out HG14.out HOB.out (Nat.le_of_succ_le HBS.out.1) nd (.slice hA hL hC) HLA.out
                have HTX := hide htx; have HLX := hide hlx
                clear hrx htx hlx
                generalize w14.setCell ⟨w.heap.size + 2, nd, none⟩ (.slice hA hL hC) = WX at HRX HTX HLX ⊢
                clear hHeld s0 s1 hr14 HO14 HG14 HPL14 HLN HRD HTD HRC HTC HRA HTA HBS ha hpd hkd rc rf rc3 rf3 rc13 rf13
                go_wp2_with fail
                go_roundw
                case rel => exact ⟨k + 1, _, _, by omega, by go_num, HTX.out, HLX.out, HRX.out, HHX.out⟩
                case measure => simp [intOf]; omega
      · obtain rfl : k = links.length := by omega
        obtain ⟨hb, ⟨hl, e0, e1, e2, e3, e4, e5, e6, e7, e8, e9, e10, e11⟩, hg, hc⟩ := id hT
        clear e0 e1 e2 e3 e4 e5 e6 e7 e8 e9 e10 e11 hl
        rw [List.take_length] at hR H
        have hm := meet_any (regsOf n (links.map (ptOf ⟨(n : Int), owners, drift, reading, margin, bound, rejoin, quota, parts, windows, ports, links⟩))) (some ⟨w.heap.size + 2, 0, none⟩) n wr hR.rows (by rw [regs_len]; omega)
        rw [regs_len] at hm
        have hap := regs_meet n (links.map (ptOf ⟨(n : Int), owners, drift, reading, margin, bound, rejoin, quota, parts, windows, ports, links⟩)) fun p hp => by
          obtain ⟨l, hl, rfl⟩ := List.mem_map.1 hp
          obtain ⟨j, hj, rfl⟩ := List.getElem_of_mem hl
          have hk := H.out.2 j hj
          rw [List.getD_eq_getElem?_getD, List.getElem?_eq_getElem hj] at hk
          exact pt_node _ HPA.out HPO.out _ hk
        have HM := hide hm
        have HAP := hide hap
        have HB := hide hb
        clear hm hap hR hc hg hT hL hb
        go_wp2_with (go_at_call 46; refine HM.out.mono ?_; rintro e w1 ⟨v, rfl, hv, hb1⟩; have HV := hide hv; have HB1 := hide hb1; clear hv hb1)
        go_ret
        refine ⟨!v, rfl, ?_, HB.out.trans (HB1.out.mono HB.out.size)⟩
        have hv := HV.out
        rw [HAP.out] at hv
        constructor
        · intro h
          refine ⟨hlen, H.out.2, by rw [H.out.1]; rfl, Classical.byContradiction fun g => ?_⟩
          rw [hv.2 g] at h
          cases h
        · intro h
          cases v with
          | false => rfl
          | true => exact absurd h.2.2.2 (hv.1 rfl)
  · obtain ⟨hb, ⟨hl, e0, e1, e2, e3, e4, e5, e6, e7, e8, e9, e10, e11⟩, hg, hc⟩ := id hS
    dsimp only at e0 e1 e2 e3 e4 e5 e6 e7 e8 e9 e10 e11
    clear hS hg hc
    go_wp2
    go_ret
    exact ⟨false, rfl, ⟨fun h => (by cases h), fun h => absurd h.1 hlen⟩, hb⟩
end Go.Proofs.YtdennekkbdlhdaaDoor
