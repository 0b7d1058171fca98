/-
  VlinkQuiet's walk.
-/
import Derived.Test.YtdfpeilflinmhaaDoorVlG
import Derived.Test.YtdfpeilflinmhaaDoorGreat
namespace Go.Proofs.YtdfpeilflinmhaaDoor
open Go.RowKit Go.Deep
set_option linter.unusedVariables false
set_option linter.unusedSimpArgs false

/-- what comes in, in the law's own blocks -/
structure QuS (w W : World) (c : Conf) (d : Ad) (o n s : Int) (p : List Nat) : Prop where
  cf : CfS w W c d
  way : W.heap[w.heap.size + 1]? = some (.cells #[.int .i64 o, .int .i64 n, .int .i64 s] 63 (0, 0))
  pay : W.heap[w.heap.size + 1 + 1]? = some (.cells (bys p) 38 (0, 0))
section
variable {w W W' : World} {c : Conf} {d : Ad} {o n s : Int} {p : List Nat}
theorem QuS.lt (h : QuS w W c d o n s p) : w.heap.size + 1 + 1 < W.heap.size := (Array.getElem?_eq_some_iff.1 h.pay).1
theorem QuS.below (h : QuS w W c d o n s p) (hb : Below W.heap.size W W') : QuS w W' c d o n s p := by
  have hs := h.lt
  exact ⟨h.cf.below hb, (hb.block _ (by omega)).trans h.way, (hb.block _ (by omega)).trans h.pay⟩
theorem QuS.made (h : CfS w W c d) (hz : W.heap.size = w.heap.size + 1) : QuS w ((W.alloc (.cells #[.int .i64 o, .int .i64 n, .int .i64 s] 63)).alloc (.cells (bys p) 38)) c d o n s p := by
  have n1 := heap_alloc_new W (.cells #[.int .i64 o, .int .i64 n, .int .i64 s] 63)
  have b1 := bal W (.cells #[.int .i64 o, .int .i64 n, .int .i64 s] 63)
  have z1 : (W.alloc (.cells #[.int .i64 o, .int .i64 n, .int .i64 s] 63)).heap.size = W.heap.size + 1 := by simp
  generalize W.alloc (.cells #[.int .i64 o, .int .i64 n, .int .i64 s] 63) = w1 at *
  have n2 := heap_alloc_new w1 (.cells (bys p) 38)
  have b2 := bal w1 (.cells (bys p) 38)
  exact ⟨(h.below b1).below b2, by rw [← hz]; exact (b2.block _ (by omega)).trans n1, by rw [← hz, ← z1]; exact n2⟩
theorem bys_set (p : List Nat) (k v : Nat) : (bys p).setIfInBounds k (.int .u8 (v : Int)) = bys (p.set k v) := by
  unfold bys
  simp [List.setIfInBounds_toArray, List.map_set]
theorem QuS.set (h0 : Glo w) (h1 : ConfAt w c d) (h : QuS w W c d o n s p) (k v : Nat) : QuS w (W.setCell ⟨w.heap.size + 1 + 1, k, none⟩ (.int .u8 (v : Int))) c d o n s (p.set k v) := by
  have hs := h.lt
  exact ⟨h.cf.only h0 h1 (vset_below h.cf.bel (by omega) _) (setCell_other (by omega)), (setCell_other (by omega)).trans h.way, by rw [vset_row h.pay, bys_set]⟩
end
theorem set_getD (p : List Nat) (k j v : Nat) (hk : k < p.length) : (p.set k v).getD j 0 = if j = k then v else p.getD j 0 := by
  rw [List.getD_eq_getElem?_getD, List.getElem?_set]
  by_cases h : k = j
  · subst h; rw [if_pos rfl, if_pos hk, if_pos rfl]; rfl
  · rw [if_neg h, if_neg (fun e => h e.symm), List.getD_eq_getElem?_getD]
theorem set_bytes (p : List Nat) (k v : Nat) (h : ∀ b ∈ p, b < 256) (hv : v < 256) : ∀ b ∈ p.set k v, b < 256 := fun b hb => by
  rcases List.mem_or_eq_of_mem_set hb with h1 | rfl
  · exact h b h1
  · exact hv
theorem info_pay : (Tryd.prog.info? 38).map (·.size) = some 64 := by kernel_rfl

set_option maxRecDepth 100000 in
set_option maxHeartbeats 8000000 in
theorem quiet_walk (c : Conf) (d : Ad) (ow nd sl : Int) (how : I64 ow) (hnd : I64 nd) (p : List Nat) (hpl : p.length = 64) (hpb : ∀ b ∈ p, b < 256) (w : World) (hg : Glo w) (h : ConfAt w c d)
    (hal : ∀ W, Below w.heap.size w W → Calls Tryd.prog 12 #[] W fun e w' => e = .returned (.bool true) ∧ Below W.heap.size W w') :
    Calls Tryd.prog 6 #[c.val d, .agg #[.int .i64 ow, .int .i64 nd, .int .i64 sl], .agg (bys p)] w fun e w' => e = .returned (.bool true) ∧ Below w.heap.size w w' := by
  have hS := CfS.first 28 hg h
  have HC := hide (fun W (H : CfS w W c d) => check_any c d W H.g H.cf)
  have HGr := hide (fun W (H : CfS w W c d) => great_some c d W H.cf)
  have HAL := hide (fun W (H : CfS w W c d) => hal W H.bel)
  have HUn := hide (fun W (H : CfS w W c d) p' hl hb => unpack_at c d ow how p' hl hb W H.g H.cf)
  have HDl := hide (fun W (H : CfS w W c d) p' hl hb xa hR => deliver_at c d ow nd sl how hnd p' hl hb W H.g H.cf w.heap.size H.bel.size xa (fun _ => False) (fun l S _ => l = [] ∧ S = fun _ => False) hR ⟨rfl, rfl⟩ (fun j hj => hj.elim))
  have HMay := hide (fun h0 : checkF c = 0 => may_of h0)
  have HRef : Hid (checkF c = 0 → ∀ l, (∀ z ∈ l, okN c z) → refF c l = 0) := fun h0 l hl => refF_ok h0 hl
  have hI := h.links
  have HLK := hide (fun W (hb : Below w.heap.size w W) k (hk : k < c.links.length) => (h.links.of_below hb (Nat.le_refl _)).at hk)
  have HG := hide hg; have HCf := hide h
  clear hg h hal hI
  generalize hA : w.alloc (.cells (c.cells d) 28) = wa at hS
  have hza : wa.heap.size = w.heap.size + 1 := by rw [← hA]; simp
  generalize hf0 : checkF c = f at HC HMay HRef
  obtain ⟨oA, oC, pA, pC, wA, wC, qA, qC, lA, lC⟩ := d
  unfold Conf.val at HC HGr HUn HDl ⊢
  unfold Conf.cells at hA
  dsimp only at hA HC HGr HUn HDl HLK ⊢
  have HA := hide hA
  have HS := hide (QuS.made (o := ow) (n := nd) (s := sl) (p := p) hS hza)
  clear hA hS hza hf0
  generalize hcs : bys p = cs at HS
  go_enter Tryd.func6, Tryd.ntmps6
  go_upto_region 1 with fail
  rw [HA.out]
  generalize (wa.alloc (.cells #[.int .i64 ow, .int .i64 nd, .int .i64 sl] 63)).alloc (.cells cs 38) = w1 at HS ⊢
  clear HA
  go_wp2_with fail
  refine (HAL.out _ HS.out.cf).mono ?_
  rintro e w2 ⟨rfl, hb2⟩
  have HS2 := hide (HS.out.below hb2)
  clear hb2 HS HAL
  obtain ⟨_, ⟨_, e0, e1, e2, e3, e4, e5, e6, e7, e8, e9, e10, e11⟩, _, _⟩ := HS2.out.cf
  dsimp only at e0 e1 e2 e3 e4 e5 e6 e7 e8 e9 e10 e11
  go_wp2_with fail
  refine (HGr.out _ HS2.out.cf).mono ?_
  rintro e w3 ⟨⟨b, rfl⟩, hb3⟩
  have HS3 := hide (HS2.out.below hb3)
  clear hb3 HS2 HGr e0 e1 e2 e3 e4 e5 e6 e7 e8 e9 e10 e11
  cases b
  · obtain ⟨_, ⟨_, e0, e1, e2, e3, e4, e5, e6, e7, e8, e9, e10, e11⟩, _, _⟩ := HS3.out.cf
    dsimp only at e0 e1 e2 e3 e4 e5 e6 e7 e8 e9 e10 e11
    go_wp2_with fail
    refine (HC.out _ HS3.out.cf).mono ?_
    rintro e w4 ⟨rfl, hb4⟩
    have HS4 := hide (HS3.out.below hb4)
    clear hb4 HS3 HC e0 e1 e2 e3 e4 e5 e6 e7 e8 e9 e10 e11
    obtain ⟨_, ⟨_, e0, _⟩, _, _⟩ := HS4.out.cf
    have x0 : w4.cell? ⟨w.heap.size + 1, 0, none⟩ = some (.int .i64 ow) := by rw [cell_of_row _ _ _ _ _ _ HS4.out.way]; rfl
    have x1 : w4.cell? ⟨w.heap.size + 1, 1, none⟩ = some (.int .i64 nd) := by rw [cell_of_row _ _ _ _ _ _ HS4.out.way]; rfl
    by_cases hf : f = 0
    · subst hf
      by_cases h1 : ow < 0
      · go_wp2
        go_ret
        exact ⟨rfl, HS4.out.cf.bel⟩
      · by_cases h2 : ow < c.nodes
        · by_cases h3 : nd < 0
          · go_wp2
            go_ret
            exact ⟨rfl, HS4.out.cf.bel⟩
          · by_cases h4 : nd < c.nodes
            · have HM := hide (HMay.out rfl)
              have hnl := HM.out.nl
              have HRf := hide (HRef.out rfl)
              clear HMay HRef
              obtain ⟨_, ⟨_, _, _, _, _, _, _, _, _, _, _, _, e11⟩, _, _⟩ := HS4.out.cf
              dsimp only at e11
              go_wp2_with fail
              clear e0 e11 x0 x1
              go_loopw [55, 8] (fun i s8 wr => ∃ (k : Nat) (q : List Nat), k ≤ c.links.length ∧ i = .int .i64 k ∧ q.length = 64 ∧ (∀ b ∈ q, b < 256) ∧ QuS w wr c ⟨oA, oC, pA, pC, wA, wC, qA, qC, lA, lC⟩ ow nd sl q ∧ ∀ j, j < k → q.getD (c.links.getD j default).offset.toNat 0 ≠ 1) (fun i _ _ => c.links.length - (intOf i).toNat)
              case atStart => exact ⟨0, p, by omega, rfl, hpl, hpb, HS4.out, by omega⟩
              case round =>
                obtain ⟨k, q, hk, rfl, hql, hqb, hQ, hno⟩ := hrel
                have HQ := hide hQ; have HNo := hide hno; have HQB := hide hqb
                clear hQ hno hqb HS4
                by_cases hlt : k < c.links.length
                · obtain ⟨lb, lo, Ai, ci, hlA, hlb, g0, g1, g2, _, _, _, _, _⟩ := HLK.out wr HQ.out.cf.bel k hlt
                  subst hlA
                  obtain ⟨pl1, pl2, pl3, _⟩ := HM.out.place hlt
                  simp only [lrF] at pl1 pl2 pl3
                  obtain ⟨o, ho⟩ := Int.eq_ofNat_of_zero_le pl1
                  have ho64 : o < 64 := by omega
                  have HKL := hide (show k + 1 ≤ c.links.length by omega)
                  have HNw : Hid (∀ q' : List Nat, (∀ j, q'.getD j 0 = 1 → q.getD j 0 = 1) → q'.getD o 0 ≠ 1 → ∀ j, j < k + 1 → q'.getD (c.links.getD j default).offset.toNat 0 ≠ 1) := fun q' h1 h2 j hj => by
                    rcases Nat.lt_succ_iff_lt_or_eq.1 hj with h5 | rfl
                    · exact fun e => HNo.out j h5 (h1 _ e)
                    · rw [ho]; exact h2
                  rw [ho] at g2
                  obtain ⟨_, ⟨_, _, _, _, _, _, _, _, _, _, _, _, e11⟩, _, _⟩ := HQ.out.cf
                  dsimp only at e11
                  have pc : wr.cell? ⟨w.heap.size + 1 + 1, o, none⟩ = some (.int .u8 ((q.getD o 0 : Nat) : Int)) := by
                    rw [cell_of_row _ _ _ _ _ _ HQ.out.pay]
                    simp [bys, List.getD_eq_getElem?_getD, List.getElem?_eq_getElem (show o < q.length by omega)]
                  have pf : wr.frozen? ⟨w.heap.size + 1 + 1, o, none⟩ = false := by unfold World.frozen?; rw [HQ.out.pay]; rfl
                  clear g0 g1 HLK HNo
                  by_cases hq1 : q.getD o 0 = 1
                  · rw [hq1] at pc
                    have wi : IntKind.i64.wrap (2 * (k : Int)) = 2 * (k : Int) := IntWalk.i64_in _ (by omega)
                    have wu : IntKind.u8.wrap (2 * (k : Int)) = 2 * (k : Int) := by rw [IntKind.wrap_u8]; omega
                    have hset := HQ.out.set HG.out HCf.out o (2 * k)
                    rw [show ((2 * k : Nat) : Int) = 2 * (k : Int) by omega] at hset
                    have HST := hide hset
                    clear hset
                    go_wp2
                    go_roundw
                    case rel => exact ⟨k + 1, q.set o (2 * k), HKL.out, by go_num, by simpa using hql, set_bytes q o (2 * k) HQB.out (by omega), HST.out, HNw.out _ (fun j hj => by
                      rw [set_getD q o j (2 * k) (by omega)] at hj
                      split at hj
                      · omega
                      · exact hj) (by rw [set_getD q o o (2 * k) (by omega), if_pos rfl]; omega)⟩
                    case measure => have := HKL.out; simp [intOf]; omega
                  · have HN2 := hide (HNw.out q (fun _ h => h) hq1)
                    have hqi : ¬ ((q.getD o 0 : Nat) : Int) = 1 := by omega
                    generalize q.getD o 0 = qq at pc hqi
                    clear hq1 HNw
                    go_wp2
                    go_roundw
                    case rel => exact ⟨k + 1, q, HKL.out, by go_num, hql, HQB.out, HQ.out, HN2.out⟩
                    case measure => have := HKL.out; simp [intOf]; omega
                · obtain rfl : k = c.links.length := by omega
                  have HYN : Hid (∀ x ∈ ownL c ow c.links.length, yesF q x = false) := fun x hx => by
                    obtain ⟨j, hj, _, rfl⟩ := ownL_mem hx
                    unfold yesF
                    exact decide_eq_false (HNo.out j hj)
                  have HDN : Hid (dlF q nd (ownL c ow c.links.length) = []) := by
                    show _ = _
                    unfold dlF
                    rw [List.flatMap_eq_nil_iff]
                    intro x hx
                    unfold handF
                    rw [HYN.out x hx]; rfl
                  have HR1 := hide (HRf.out [ow] (by intro z hz; rw [List.mem_singleton.1 hz]; exact ⟨by omega, h2⟩))
                  have HR2 := hide (HRf.out [ow, nd] (by
                    intro z hz
                    rcases List.mem_cons.1 hz with rfl | hz
                    · exact ⟨by omega, h2⟩
                    · rw [List.mem_singleton.1 hz]; exact ⟨by omega, h4⟩))
                  have hU := HUn.out wr HQ.out.cf q hql HQB.out
                  have HDl2 := hide (fun W H xa hR => HDl.out W H q hql HQB.out xa hR)
                  have HPAY := hide HQ.out.pay
                  have HIQ : Hid ((Tryd.prog.info? 38).map (·.size) = some (bys q).size) := by show _ = _; rw [info_pay, bys_size, hql]
                  generalize hcq : bys q = cq at hU HDl2 HPAY HIQ
                  have HU := hide hU
                  have HCQ := hide hcq
                  obtain ⟨_, ⟨_, e0, e1, e2, e3, e4, e5, e6, e7, e8, e9, e10, e11⟩, _, _⟩ := HQ.out.cf
                  dsimp only at e0 e1 e2 e3 e4 e5 e6 e7 e8 e9 e10 e11
                  have x0 : wr.cell? ⟨w.heap.size + 1, 0, none⟩ = some (.int .i64 ow) := by rw [cell_of_row _ _ _ _ _ _ HQ.out.way]; rfl
                  clear hU hcq HLK HNo HUn HDl
                  go_wp2_with (refine wpList_load_row rfl 38 (.tmp 5) rfl (w.heap.size + 1 + 1) rfl 38 cq (0, 0) _ HPAY.out Tryd.underlying38 rfl HIQ.out ?_)
                  refine HU.out.mono ?_
                  rintro e w5 ⟨hb5, hp2⟩
                  rcases hp2 with ⟨hx, _⟩ | ⟨_, v, Q, rfl, hAr, hQ2⟩
                  · exact absurd HR1.out hx
                  obtain ⟨vA, vc, hv⟩ := ow_slice hAr.row
                  obtain ⟨qn, hqn⟩ : ∃ qn, Q.length = qn := ⟨_, rfl⟩
                  rw [hqn] at hv
                  subst hv
                  have HB6 := bal w5 (.cells #[.slice none 0 0, .slice none 0 0, .int .i64 0] 69)
                  have HS6 := hide ((HQ.out.below hb5).below HB6)
                  have HA6 := hide (hAr.below HB6)
                  have HN6 := hide (heap_alloc_new w5 (.cells #[.slice none 0 0, .slice none 0 0, .int .i64 0] 69))
                  have HZ6 : Hid ((w5.alloc (.cells #[.slice none 0 0, .slice none 0 0, .int .i64 0] 69)).heap.size = w5.heap.size + 1) := by show _ = _; simp
                  have HPAY6 := hide HS6.out.pay
                  rw [HCQ.out] at HPAY6
                  have HYQ : Hid (∀ x ∈ Q, yesF q x.1 = false) := fun x hx => HYN.out x.1 (by rw [← hQ2]; exact List.mem_map_of_mem hx)
                  have hq64 : qn ≤ 64 := by
                    have h1 := congrArg List.length hQ2
                    have h2 := ownL_len c ow c.links.length
                    simp at h1
                    omega
                  have HQN := hide hqn
                  clear hb5 hAr hQ2 hqn HB6 HU HQ HPAY e0 e1 e2 e3 e4 e5 e6 e7 e8 e9 e10 e11 x0 HYN HR1
                  obtain ⟨_, ⟨_, e0, e1, e2, e3, e4, e5, e6, e7, e8, e9, e10, e11⟩, _, _⟩ := HS6.out.cf
                  dsimp only at e0 e1 e2 e3 e4 e5 e6 e7 e8 e9 e10 e11
                  have x : ∀ j u, #[Value.int .i64 ow, .int .i64 nd, .int .i64 sl][j]? = some u → (w5.alloc (.cells #[.slice none 0 0, .slice none 0 0, .int .i64 0] 69)).cell? ⟨w.heap.size + 1, j, none⟩ = some u := fun j u hu => by rw [cell_of_row _ _ _ _ _ _ HS6.out.way]; exact hu
                  have x0 := x 0 _ rfl
                  have x1 := x 1 _ rfl
                  have x2 := x 2 _ rfl
                  clear x
                  go_wp2_with (refine wpList_load_row rfl 38 (.tmp 5) rfl (w.heap.size + 1 + 1) rfl 38 cq (0, 0) _ HPAY6.out Tryd.underlying38 rfl HIQ.out ?_)
                  refine (HDl2.out _ HS6.out.cf w5.heap.size ⟨fun l S W W' h _ _ => h, fun l S W port data g cap hm => by rw [HDN.out] at hm; cases hm⟩).mono ?_
                  rintro e w7 (⟨hx, _⟩ | ⟨_, he, hb7, hk7, S, _, _⟩)
                  · exact absurd HR2.out hx
                  rw [HDN.out] at he
                  subst he
                  have HB7 := hide (HS6.out.cf.bel.trans hb7)
                  have hz6 := HZ6.out
                  have HA7 := hide (HA6.out.stands (W' := w7) fun j _ hj => hk7 j hj (fun h => h))
                  have HN7 := hide ((hk7 w5.heap.size (by omega) (fun h => h)).trans HN6.out)
                  clear hb7 hk7 HDl2 HA6 HN6 HS6 HPAY6 HIQ e0 e1 e2 e3 e4 e5 e6 e7 e8 e9 e10 e11 x0 x1 x2
                  go_wp2_with fail
                  go_loopw [104, 14, 6] (fun i s14 s6 W => ∃ k : Nat, k ≤ qn ∧ i = .int .i64 k ∧ W = w7) (fun i _ _ _ => qn - (intOf i).toNat)
                  case atStart => exact ⟨0, by omega, rfl, rfl⟩
                  case round =>
                    obtain ⟨k, hk, rfl, rfl⟩ := hrel
                    by_cases hlt : k < qn
                    · obtain ⟨⟨x, dv⟩, hk1⟩ : ∃ q1, Q[k]? = some q1 := ⟨_, List.getElem?_eq_getElem (by rw [HQN.out]; exact hlt)⟩
                      obtain ⟨g, gc, hge, _, hgl, _, _, hgc⟩ := ow_open HA7.out.row (show 0 < Q.length by rw [HQN.out]; omega)
                      rw [HQN.out] at hge
                      injection hge with hge _ hgc2
                      subst hge hgc2
                      have hms := HA7.out.ms _ (List.mem_of_getElem? hk1)
                      have hyn := HYQ.out _ (List.mem_of_getElem? hk1)
                      dsimp only at hms hyn
                      rw [hyn] at hms
                      rcases hms with ⟨_, rfl⟩ | ⟨hx, _⟩
                      · have d1 : wr.cell? ⟨g, k * 3 + 1, none⟩ = some (.bool false) := hgc _ _ (by rw [fm_at (arC_len q) Q k 1 _ hk1 (by omega)]; simp [arC, hyn])
                        have d2 : wr.cell? ⟨g, k * 3 + 2, none⟩ = some (.slice none 0 0) := hgc _ _ (by rw [fm_at (arC_len q) Q k 2 _ hk1 (by omega)]; rfl)
                        clear hgc hyn hk1
                        have HKL := hide (show k + 1 ≤ qn by omega)
                        have hq100 : qn ≤ 1000 := by omega
                        go_wp2
                        go_roundw
                        case rel => exact ⟨k + 1, HKL.out, by go_num, by first | trivial | rfl⟩
                        case measure => have := HKL.out; simp [intOf]; omega
                      · cases hx
                    · obtain rfl : k = qn := by omega
                      have h0 : wr.cell? ⟨w5.heap.size, 0, none⟩ = some (.slice none 0 0) := by rw [cell_of_row _ _ _ _ _ _ HN7.out]; rfl
                      go_wp2
                      go_ret
                      exact ⟨by first | trivial | rfl, HB7.out⟩
            · go_wp2
              go_ret
              exact ⟨rfl, HS4.out.cf.bel⟩
        · go_wp2
          go_ret
          exact ⟨rfl, HS4.out.cf.bel⟩
    · have hne : (f != 0) = true := by simpa using hf
      go_wp2
      go_ret
      exact ⟨rfl, HS4.out.cf.bel⟩
  · go_wp2
    go_ret
    exact ⟨rfl, HS3.out.cf.bel⟩
end Go.Proofs.YtdfpeilflinmhaaDoor
